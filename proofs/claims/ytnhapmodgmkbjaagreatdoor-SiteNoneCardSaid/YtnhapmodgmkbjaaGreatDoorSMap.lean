/- A set of pairs in memory: a map by structs, its entries as a list, whatever their order: looked up, stored, gone over. -/
import Derived.WalkKit
import Derived.WalkSpells
import Derived.Maps.OwnSet
import Derived.Maps.OwnOps
import Derived.Maps.RangeWalk
import Derived.Maps.Ext
import Derived.DeepKeys4
import Derived.Lib.Hide
import Derived.Test.YtnhapmodgmkbjaaGreatDoorRows
import Derived.Test.YtnhapmodgmkbjaaGreatDoorRow
import Derived.Test.YtnhapmodgmkbjaaGreatDoorSF9
import Derived.Test.YtnhapmodgmkbjaaGreatDoorSSet
namespace Go.Proofs.YtnhapmodgmkbjaaGreatDoor
open Go Go.RowKit Go.Maps

abbrev prC (x : Pr) : List Value := [.int .i64 x.1.1, .int .i64 x.1.2, .int .i64 x.2.1, .int .i64 x.2.2]
def okI (x : Int) : Prop := (Lit.int .i64 x).wf = true
def okPr (x : Pr) : Prop := okI x.1.1 ∧ okI x.1.2 ∧ okI x.2.1 ∧ okI x.2.2

theorem rowKC : (57 : TypeId) < Tryz.prog.types.size := of_decide_eq_true (by kernel_rfl)
theorem wideKC : (match Tryz.prog.underlying 57 with | some (.array _ _) | some (.struct _) => true | _ => false) = true := by kernel_rfl
set_option maxRecDepth 100000 in
theorem lawKC : WideMaps.KeyLaw Tryz.prog 57 := deep_law_laid laidOutP (m := 4) (by omega) rowKC (by kernel_rfl) wideKC
abbrev keyC : Keyed Tryz.prog 57 := Keyed.of_law lawKC
theorem typeKC : Tryz.prog.keyType 57 = true := by kernel_rfl
theorem sizesC : 2 ≤ Tryz.prog.types.size := of_decide_eq_true (by kernel_rfl)
theorem cellsC4 : Tryz.prog.cellsOf 57 = 4 := by kernel_rfl
theorem cellsS2 : Tryz.prog.cellsOf 30 = 2 := by kernel_rfl
theorem cellsI1 : Tryz.prog.cellsOf 3 = 1 := by kernel_rfl
theorem lits_int (d : Nat) {z : Int} (h : okI z) : Tryz.prog.keyLits (d + 1) 3 [.int .i64 z] = some [.int .i64 z] := by
  unfold okI at h
  simp [Program.keyLits, Tryz.underlying3, h]
theorem lits_site (d : Nat) {f p : Int} (hf : okI f) (hp : okI p) : Tryz.prog.keyLits (d + 2) 30 [.int .i64 f, .int .i64 p] = some [.int .i64 f, .int .i64 p] := by
  unfold Program.keyLits
  simp only [Tryz.underlying30]
  simp [cellsS2, cellsI1, lits_int d hf, lits_int d hp]
def kP (x : Pr) : Lit := .string (keyBytes [.int .i64 x.1.1, .int .i64 x.1.2, .int .i64 x.2.1, .int .i64 x.2.2])
theorem keyC_mk {x : Pr} (h : okPr x) : keyOf Tryz.prog 57 (prV x) = some (kP x) := by
  obtain ⟨d, hd⟩ : ∃ d, Tryz.prog.types.size + 1 = d + 3 := ⟨Tryz.prog.types.size - 2, by have := sizesC; omega⟩
  have hl : Tryz.prog.keyLits (d + 3) 57 (prC x) = some [.int .i64 x.1.1, .int .i64 x.1.2, .int .i64 x.2.1, .int .i64 x.2.2] := by
    unfold Program.keyLits
    simp only [Tryz.underlying57]
    simp [cellsC4, cellsS2, lits_site d h.1 h.2.1, lits_site d h.2.2.1 h.2.2.2]
  unfold keyOf
  rw [Tryz.underlying57]
  simp only [typeKC, hd]
  have hf : (prV x).formed Tryz.prog 57 = true := by simp [Value.formed, Tryz.underlying57, cellsC4]
  rw [hf]
  have hc : (prV x).cells.toList = prC x := rfl
  rw [hc, hl]
  rfl
theorem kP_inj {x y : Pr} (hx : okPr x) (hy : okPr y) (h : kP x = kP y) : x = y := by
  have h1 := keyC_mk hx
  rw [h] at h1
  have h2 := keyC.inj h1 (keyC_mk hy)
  obtain ⟨⟨a, b⟩, c, d⟩ := x
  obtain ⟨⟨a', b'⟩, c', d'⟩ := y
  simp only [Value.agg.injEq, Array.mk.injEq, List.cons.injEq, Value.int.injEq, true_and, and_true] at h2
  obtain ⟨rfl, rfl, rfl, rfl⟩ := h2
  rfl
theorem kP_key (x : Pr) : WideAt.IsKeyLit (kP x) := by unfold kP; simp [WideAt.IsKeyLit]
theorem kP_same {x y : Pr} (hx : okPr x) (hy : okPr y) : (kP x).sameKey (kP y) = decide (x = y) := by
  by_cases e : x = y
  · subst e
    rw [WideAt.sameKey_self (kP_key x)]; simp
  · cases hs : (kP x).sameKey (kP y)
    · simp [e]
    · exact absurd (kP_inj hx hy (WideAt.sameKey_eq hs)) e

def entS (x : Pr) : Lit × DataW Unit := (kP x, .agg [])
abbrev ownsS (w : World) (b n : Nat) (D : DataW Unit) : Prop := w.ownsMap Tryz.prog 57 unitElem b n D
theorem zeroU (w : World) : (zeroValue 79).run Tryz.prog w = .ok (.agg #[]) w := by kernel_rfl

/-- Block b of w is a map by pairs whose keys are L, in whatever order. -/
def SetAt (w : World) (b : Nat) (L : List Pr) : Prop :=
  ∃ n es, ownsS w b n (.map es) ∧ es.Perm (L.map entS) ∧ n = L.length ∧ (∀ x ∈ L, okPr x) ∧ L.Nodup

theorem SetAt.lt {w : World} {b : Nat} {L : List Pr} (h : SetAt w b L) : b < w.heap.size := let ⟨_, _, h, _⟩ := h; h.lt
theorem SetAt.ok {w : World} {b : Nat} {L : List Pr} (h : SetAt w b L) : ∀ x ∈ L, okPr x := let ⟨_, _, _, _, _, h, _⟩ := h; h
theorem SetAt.nodup {w : World} {b : Nat} {L : List Pr} (h : SetAt w b L) : L.Nodup := let ⟨_, _, _, _, _, _, h⟩ := h; h
theorem SetAt.same {w w' : World} {b : Nat} {L : List Pr} (h : SetAt w b L) (hb : w'.heap[b]? = w.heap[b]?) : SetAt w' b L := by
  obtain ⟨n, es, ⟨es0, clock, h0, F, hs, hD⟩, hp, hn, hk, hd⟩ := h
  exact ⟨n, es, ⟨es0, clock, hb.trans h0, F, hs, hD⟩, hp, hn, hk, hd⟩
theorem SetAt.adds {w w' : World} {b : Nat} {L : List Pr} (h : SetAt w b L) (ha : Adds w w') : SetAt w' b L := h.same (ha.block b h.lt)
theorem SetAt.made (w : World) : SetAt (w.alloc (.map #[] 0)) w.heap.size [] :=
  ⟨0, [], World.ownsMap_made w _ _ _, List.Perm.refl _, rfl, fun _ h => by simp at h, List.nodup_nil⟩
theorem has_in {es : List (Lit × DataW Unit)} {L : List Pr} (hp : es.Perm (L.map entS)) (hk : ∀ x ∈ L, okPr x) {x : Pr} (hx : okPr x) : Maps.has (.map es) (kP x) = decide (x ∈ L) := by
  rw [Maps.has_eq]
  by_cases hm : x ∈ L
  · rw [decide_eq_true hm]
    exact List.any_eq_true.2 ⟨entS x, hp.mem_iff.2 (List.mem_map.2 ⟨x, hm, rfl⟩), WideAt.sameKey_self (kP_key x)⟩
  · rw [decide_eq_false hm, Bool.eq_false_iff]
    intro ha
    obtain ⟨e, he, hs⟩ := List.any_eq_true.1 ha
    obtain ⟨y, hy, rfl⟩ := List.mem_map.1 (hp.mem_iff.1 he)
    exact hm (kP_inj (hk y hy) hx (WideAt.sameKey_eq hs) ▸ hy)

/-- _, is := m[x] -/
theorem SetAt.look {w : World} {b : Nat} {L : List Pr} (h : SetAt w b L) {x : Pr} (hx : okPr x) :
    (Instr.lookup 44 (.map (some b)) (prV x) true).run Tryz.prog w = .ok (.tuple #[.agg #[], .bool (decide (x ∈ L))]) w := by
  obtain ⟨n, es, ho, hp, hn, hk, hd⟩ := h
  obtain ⟨v, ps, hrun, hv⟩ := ho.look_ok keyC Tryz.underlying44 (zeroU w) unitElem_mk (keyC_mk hx)
  rw [hrun, has_in hp hk hx, (unitElem_inv hv).1]

theorem ownsS_size {w : World} {b n : Nat} {es : List (Lit × DataW Unit)} (h : ownsS w b n (.map es)) : ownsS w b es.length (.map es) := by
  obtain ⟨es0, clock, h0, F, hs, hD⟩ := h
  refine ⟨es0, clock, h0, F, ?_, hD⟩
  simp only [DataW.map.injEq] at hD
  rw [hD]
  simp [length_sorted]

/-- m[x] = struct{}{}, where x is none of its keys. -/
theorem SetAt.put {w : World} {b : Nat} {L : List Pr} (h : SetAt w b L) (hl : L.length < maxLen) {x : Pr} (hx : okPr x) (hm : x ∉ L) :
    ∃ w', (Instr.mapUpdate 44 (.map (some b)) (prV x) (.agg #[])).run Tryz.prog w = .ok () w' ∧ SetAt w' b (x :: L) ∧ w.grownBy w' (some b) := by
  obtain ⟨n, es, ho, hp, rfl, hk, hd⟩ := h
  obtain ⟨w', hrun, h1, h2⟩ := ho.update keyC Tryz.underlying44 hl (keyC_mk hx) unitElem_mk
  refine ⟨w', hrun, ⟨L.length + 1, _, h1, ?_, rfl, ?_, ?_⟩, h2⟩
  · have e1 : (es.filter fun y => !y.1.sameKey (kP x)) = es := List.filter_eq_self.2 fun e he => by
      obtain ⟨y, hy, rfl⟩ := List.mem_map.1 (hp.mem_iff.1 he)
      have := kP_same (hk y hy) hx
      show (!(kP y).sameKey (kP x)) = true
      rw [this]
      simp only [Bool.not_eq_true', decide_eq_false_iff_not]
      rintro rfl; exact hm hy
    rw [e1]
    exact (WideShapes.insert_perm _ _).trans (hp.cons _)
  · intro y hy
    rcases List.mem_cons.1 hy with rfl | hy
    · exact hx
    · exact hk y hy
  · exact List.nodup_cons.2 ⟨hm, hd⟩

theorem SetAt.len {w : World} {b : Nat} {L : List Pr} (h : SetAt w b L) (ty : TypeId) :
    (Builtin.len_ #[44] ty #[.map (some b)]).run Tryz.prog w = .ok (.int .i64 (L.length : Nat)) w := by
  obtain ⟨n, es, ho, hp, rfl, hk, hd⟩ := h
  rw [ho.len Tryz.underlying44 ty, Maps.size_eq, hp.length_eq, List.length_map]
end Go.Proofs.YtnhapmodgmkbjaaGreatDoor
