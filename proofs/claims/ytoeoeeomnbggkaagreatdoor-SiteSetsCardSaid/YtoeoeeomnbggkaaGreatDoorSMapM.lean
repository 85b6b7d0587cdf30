/- Merged: SMap, SMap2. -/
import Derived.WalkKit
import Derived.WalkSpells
import Derived.Maps.OwnSet
import Derived.Maps.OwnOps
import Derived.Maps.RangeWalk
import Derived.Maps.Ext
import Derived.DeepKeys4
import Derived.Lib.Hide
import Derived.Test.YtoeoeeomnbggkaaGreatDoorRows
import Derived.Test.YtoeoeeomnbggkaaGreatDoorRow
import Derived.Test.YtoeoeeomnbggkaaGreatDoorSF9
import Derived.Test.YtoeoeeomnbggkaaGreatDoorSSet
namespace Go.Proofs.YtoeoeeomnbggkaaGreatDoor
open Go Go.RowKit Go.Maps

abbrev prC (x : Pr) : List Value := [.int .i64 x.1.1, .int .i64 x.1.2, .int .i64 x.2.1, .int .i64 x.2.2]
def okI (x : Int) : Prop := (Lit.int .i64 x).wf = true
def okPr (x : Pr) : Prop := okI x.1.1 ∧ okI x.1.2 ∧ okI x.2.1 ∧ okI x.2.2

theorem rowKC : (56 : TypeId) < Tryz.prog.types.size := of_decide_eq_true (by kernel_rfl)
theorem wideKC : (match Tryz.prog.underlying 56 with | some (.array _ _) | some (.struct _) => true | _ => false) = true := by kernel_rfl
set_option maxRecDepth 100000 in
theorem lawKC : WideMaps.KeyLaw Tryz.prog 56 := deep_law_laid laidOutP (m := 4) (by omega) rowKC (by kernel_rfl) wideKC
abbrev keyC : Keyed Tryz.prog 56 := Keyed.of_law lawKC
theorem typeKC : Tryz.prog.keyType 56 = true := by kernel_rfl
theorem sizesC : 2 ≤ Tryz.prog.types.size := of_decide_eq_true (by kernel_rfl)
theorem cellsC4 : Tryz.prog.cellsOf 56 = 4 := by kernel_rfl
theorem cellsS2 : Tryz.prog.cellsOf 30 = 2 := by kernel_rfl
theorem cellsI1 : Tryz.prog.cellsOf 3 = 1 := by kernel_rfl
theorem lits_int (d : Nat) {z : Int} (h : okI z) : Tryz.prog.keyLits (d + 1) 3 [.int .i64 z] = some [.int .i64 z] := by
  unfold okI at h
  simp [Program.keyLits, Tryz.underlying3, h]
theorem lits_site (d : Nat) {f p : Int} (hf : okI f) (hp : okI p) : Tryz.prog.keyLits (d + 2) 30 [.int .i64 f, .int .i64 p] = some [.int .i64 f, .int .i64 p] := by
  unfold Program.keyLits
  simp only [Tryz.underlying30]
  simp [cellsS2, cellsI1, lits_int d hf, lits_int d hp]
def kP (x : Pr) : Lit := .string (keyBytes [.int .i64 x.1.1, .int .i64 x.1.2, .int .i64 x.2.1, .int .i64 x.2.2])
theorem keyC_mk {x : Pr} (h : okPr x) : keyOf Tryz.prog 56 (prV x) = some (kP x) := by
  obtain ⟨d, hd⟩ : ∃ d, Tryz.prog.types.size + 1 = d + 3 := ⟨Tryz.prog.types.size - 2, by have := sizesC; omega⟩
  have hl : Tryz.prog.keyLits (d + 3) 56 (prC x) = some [.int .i64 x.1.1, .int .i64 x.1.2, .int .i64 x.2.1, .int .i64 x.2.2] := by
    unfold Program.keyLits
    simp only [Tryz.underlying56]
    simp [cellsC4, cellsS2, lits_site d h.1 h.2.1, lits_site d h.2.2.1 h.2.2.2]
  unfold keyOf
  rw [Tryz.underlying56]
  simp only [typeKC, hd]
  have hf : (prV x).formed Tryz.prog 56 = true := by simp [Value.formed, Tryz.underlying56, cellsC4]
  rw [hf]
  have hc : (prV x).cells.toList = prC x := rfl
  rw [hc, hl]
  rfl
theorem kP_inj {x y : Pr} (hx : okPr x) (hy : okPr y) (h : kP x = kP y) : x = y := by
  have h1 := keyC_mk hx
  rw [h] at h1
  have h2 := keyC.inj h1 (keyC_mk hy)
  obtain ⟨⟨a, b⟩, c, d⟩ := x
  obtain ⟨⟨a', b'⟩, c', d'⟩ := y
  simp only [Value.agg.injEq, Array.mk.injEq, List.cons.injEq, Value.int.injEq, true_and, and_true] at h2
  obtain ⟨rfl, rfl, rfl, rfl⟩ := h2
  rfl
theorem kP_key (x : Pr) : WideAt.IsKeyLit (kP x) := by unfold kP; simp [WideAt.IsKeyLit]
theorem kP_same {x y : Pr} (hx : okPr x) (hy : okPr y) : (kP x).sameKey (kP y) = decide (x = y) := by
  by_cases e : x = y
  · subst e
    rw [WideAt.sameKey_self (kP_key x)]; simp
  · cases hs : (kP x).sameKey (kP y)
    · simp [e]
    · exact absurd (kP_inj hx hy (WideAt.sameKey_eq hs)) e

def entS (x : Pr) : Lit × DataW Unit := (kP x, .agg [])
abbrev ownsS (w : World) (b n : Nat) (D : DataW Unit) : Prop := w.ownsMap Tryz.prog 56 unitElem b n D
theorem zeroU (w : World) : (zeroValue 78).run Tryz.prog w = .ok (.agg #[]) w := by kernel_rfl

/-- Block b of w is a map by pairs whose keys are L, in whatever order. -/
def SetAt (w : World) (b : Nat) (L : List Pr) : Prop :=
  ∃ n es, ownsS w b n (.map es) ∧ es.Perm (L.map entS) ∧ n = L.length ∧ (∀ x ∈ L, okPr x) ∧ L.Nodup

theorem SetAt.lt {w : World} {b : Nat} {L : List Pr} (h : SetAt w b L) : b < w.heap.size := let ⟨_, _, h, _⟩ := h; h.lt
theorem SetAt.ok {w : World} {b : Nat} {L : List Pr} (h : SetAt w b L) : ∀ x ∈ L, okPr x := let ⟨_, _, _, _, _, h, _⟩ := h; h
theorem SetAt.nodup {w : World} {b : Nat} {L : List Pr} (h : SetAt w b L) : L.Nodup := let ⟨_, _, _, _, _, _, h⟩ := h; h
theorem SetAt.same {w w' : World} {b : Nat} {L : List Pr} (h : SetAt w b L) (hb : w'.heap[b]? = w.heap[b]?) : SetAt w' b L := by
  obtain ⟨n, es, ⟨es0, clock, h0, F, hs, hD⟩, hp, hn, hk, hd⟩ := h
  exact ⟨n, es, ⟨es0, clock, hb.trans h0, F, hs, hD⟩, hp, hn, hk, hd⟩
theorem SetAt.adds {w w' : World} {b : Nat} {L : List Pr} (h : SetAt w b L) (ha : Adds w w') : SetAt w' b L := h.same (ha.block b h.lt)
theorem SetAt.made (w : World) : SetAt (w.alloc (.map #[] 0)) w.heap.size [] :=
  ⟨0, [], World.ownsMap_made w _ _ _, List.Perm.refl _, rfl, fun _ h => by simp at h, List.nodup_nil⟩
theorem has_in {es : List (Lit × DataW Unit)} {L : List Pr} (hp : es.Perm (L.map entS)) (hk : ∀ x ∈ L, okPr x) {x : Pr} (hx : okPr x) : Maps.has (.map es) (kP x) = decide (x ∈ L) := by
  rw [Maps.has_eq]
  by_cases hm : x ∈ L
  · rw [decide_eq_true hm]
    exact List.any_eq_true.2 ⟨entS x, hp.mem_iff.2 (List.mem_map.2 ⟨x, hm, rfl⟩), WideAt.sameKey_self (kP_key x)⟩
  · rw [decide_eq_false hm, Bool.eq_false_iff]
    intro ha
    obtain ⟨e, he, hs⟩ := List.any_eq_true.1 ha
    obtain ⟨y, hy, rfl⟩ := List.mem_map.1 (hp.mem_iff.1 he)
    exact hm (kP_inj (hk y hy) hx (WideAt.sameKey_eq hs) ▸ hy)

/-- _, is := m[x] -/
theorem SetAt.look {w : World} {b : Nat} {L : List Pr} (h : SetAt w b L) {x : Pr} (hx : okPr x) :
    (Instr.lookup 53 (.map (some b)) (prV x) true).run Tryz.prog w = .ok (.tuple #[.agg #[], .bool (decide (x ∈ L))]) w := by
  obtain ⟨n, es, ho, hp, hn, hk, hd⟩ := h
  obtain ⟨v, ps, hrun, hv⟩ := ho.look_ok keyC Tryz.underlying53 (zeroU w) unitElem_mk (keyC_mk hx)
  rw [hrun, has_in hp hk hx, (unitElem_inv hv).1]

theorem ownsS_size {w : World} {b n : Nat} {es : List (Lit × DataW Unit)} (h : ownsS w b n (.map es)) : ownsS w b es.length (.map es) := by
  obtain ⟨es0, clock, h0, F, hs, hD⟩ := h
  refine ⟨es0, clock, h0, F, ?_, hD⟩
  simp only [DataW.map.injEq] at hD
  rw [hD]
  simp [length_sorted]

/-- m[x] = struct{}{}, where x is none of its keys. -/
theorem SetAt.put {w : World} {b : Nat} {L : List Pr} (h : SetAt w b L) (hl : L.length < maxLen) {x : Pr} (hx : okPr x) (hm : x ∉ L) :
    ∃ w', (Instr.mapUpdate 53 (.map (some b)) (prV x) (.agg #[])).run Tryz.prog w = .ok () w' ∧ SetAt w' b (x :: L) ∧ w.grownBy w' (some b) := by
  obtain ⟨n, es, ho, hp, rfl, hk, hd⟩ := h
  obtain ⟨w', hrun, h1, h2⟩ := ho.update keyC Tryz.underlying53 hl (keyC_mk hx) unitElem_mk
  refine ⟨w', hrun, ⟨L.length + 1, _, h1, ?_, rfl, ?_, ?_⟩, h2⟩
  · have e1 : (es.filter fun y => !y.1.sameKey (kP x)) = es := List.filter_eq_self.2 fun e he => by
      obtain ⟨y, hy, rfl⟩ := List.mem_map.1 (hp.mem_iff.1 he)
      have := kP_same (hk y hy) hx
      show (!(kP y).sameKey (kP x)) = true
      rw [this]
      simp only [Bool.not_eq_true', decide_eq_false_iff_not]
      rintro rfl; exact hm hy
    rw [e1]
    exact (WideShapes.insert_perm _ _).trans (hp.cons _)
  · intro y hy
    rcases List.mem_cons.1 hy with rfl | hy
    · exact hx
    · exact hk y hy
  · exact List.nodup_cons.2 ⟨hm, hd⟩

theorem SetAt.len {w : World} {b : Nat} {L : List Pr} (h : SetAt w b L) (ty : TypeId) :
    (Builtin.len_ #[53] ty #[.map (some b)]).run Tryz.prog w = .ok (.int .i64 (L.length : Nat)) w := by
  obtain ⟨n, es, ho, hp, rfl, hk, hd⟩ := h
  rw [ho.len Tryz.underlying53 ty, Maps.size_eq, hp.length_eq, List.length_map]
end Go.Proofs.YtoeoeeomnbggkaaGreatDoor
namespace Go.Proofs.YtoeoeeomnbggkaaGreatDoor
open Go Go.RowKit Go.Maps

/-- Block r is a range over the set in block b, of which todo is still to come. -/
def RngS (w : World) (b r : Nat) (L todo : List Pr) : Prop :=
  ∃ n es left cnt, w.ranges Tryz.prog 56 unitElem b r n (.map es) left cnt ∧ es.Perm (L.map entS) ∧ (∀ x ∈ L, okPr x) ∧ L.Nodup ∧
    todo.Sublist L ∧ ∀ p, okPr p → left (kP p) = decide (p ∈ todo)
theorem RngS.same {w w' : World} {b r : Nat} {L todo : List Pr} (h : RngS w b r L todo) (hb : w'.heap[b]? = w.heap[b]?) (hr : w'.heap[r]? = w.heap[r]?) : RngS w' b r L todo := by
  obtain ⟨n, es, left, cnt, ⟨es0, clock, since, seen, c0, h1, h2, h3, h4, h5, h6⟩, h7⟩ := h
  exact ⟨n, es, left, cnt, ⟨es0, clock, since, seen, c0, hb.trans h1, h2, h3, h4, hr.trans h5, h6⟩, h7⟩
theorem rangeLeftS_same {w w' : World} {b r : Nat} (hb : w'.heap[b]? = w.heap[b]?) (hr : w'.heap[r]? = w.heap[r]?) : w'.rangeLeft b r = w.rangeLeft b r := by
  unfold World.rangeLeft
  rw [hb, hr]
theorem RngS.lt {w : World} {b r : Nat} {L todo : List Pr} (h : RngS w b r L todo) : r < w.heap.size := let ⟨_, _, _, _, h, _⟩ := h; h.lt
theorem RngS.ne {w : World} {b r : Nat} {L todo : List Pr} (h : RngS w b r L todo) : r ≠ b := let ⟨_, _, _, _, h, _⟩ := h; h.ne
theorem RngS.map {w : World} {b r : Nat} {L todo : List Pr} (h : RngS w b r L todo) : SetAt w b L := by
  obtain ⟨n, es, left, cnt, h1, h2, h3, h4, _⟩ := h
  exact ⟨_, es, ownsS_size h1.owns, h2, by rw [h2.length_eq, List.length_map], h3, h4⟩
theorem SetAt.range {w : World} {b : Nat} {L : List Pr} (h : SetAt w b L) :
    ∃ w', (Instr.range 53 (.map (some b))).run Tryz.prog w = .ok (.pointer (some ⟨w.heap.size, 0, none⟩)) w' ∧ RngS w' b w.heap.size L L ∧ Adds w w' ∧ w'.heap.size = w.heap.size + 1 := by
  obtain ⟨n, es, ho, hp, rfl, hk, hd⟩ := h
  obtain ⟨w', hrun, h1, h2, h3⟩ := ho.range keyC Tryz.underlying53
  refine ⟨w', hrun, ⟨_, es, _, _, h1, hp, hk, hd, List.Sublist.refl _, fun p hok => has_in hp hk hok⟩, (Below.refl _ w).grown h2 (Nat.le_refl _) (fun k hk => by cases hk), h3⟩

/-- The next entry: none is left; or one comes, and what is behind it. -/
theorem RngS.next {w : World} {b r : Nat} {L todo : List Pr} (h : RngS w b r L todo) (ty : TypeId) :
    (todo = [] ∧ (Instr.next (.pointer (some ⟨r, 0, none⟩)) false ty).run Tryz.prog w = .ok (.tuple #[.bool false]) w) ∨
    ∃ x todo' w', todo.Perm (x :: todo') ∧ x ∈ L ∧ (Instr.next (.pointer (some ⟨r, 0, none⟩)) false ty).run Tryz.prog w = .ok (.tuple #[.bool true, prV x, .agg #[]]) w' ∧
      RngS w' b r L todo' ∧ w.grownBy w' (some r) ∧ w'.heap.size = w.heap.size ∧ w'.rangeLeft b r < w.rangeLeft b r ∧ (Instr.entry (.pointer (some ⟨r, 0, none⟩))).run Tryz.prog w' = .ok (.tuple #[prV x, .agg #[]]) w' := by
  obtain ⟨n, es, left, cnt, h1, hp, hk, hd, hsub, hl⟩ := h
  rcases h1.next keyC ty with ⟨_, h0, hrun⟩ | ⟨key, v, kl, y, w', cnt', hkey, hlx, hv, hat, hrun, hrg, hlt, hgr, hsz, hen⟩
  · refine .inl ⟨?_, hrun⟩
    cases todo with
    | nil => rfl
    | cons x t => have := hl x (hk x (hsub.subset (by simp))); rw [h0] at this; simp at this
  · obtain ⟨x0, hx0, hk0⟩ : ∃ x0 ∈ es, x0.1 = kl := by
      obtain ⟨es0, clock, since, seen, c0, _, _, _, hD, _, _, _, _, hl2, _⟩ := h1
      obtain ⟨e0, he0, hk0⟩ := hl2 _ hlx
      simp only [DataW.map.injEq] at hD
      exact ⟨_, by rw [hD]; exact mem_sorted.2 (List.mem_map.2 ⟨e0, he0, rfl⟩), hk0⟩
    obtain ⟨x, hm, rfl⟩ := List.mem_map.1 (hp.mem_iff.1 hx0)
    have hq : kP x = kl := hk0
    subst hq
    have hok := hk x hm
    obtain rfl : key = prV x := keyC.inj hkey (keyC_mk hok)
    have hl' := hl x hok
    rw [show left (kP x) = true from hlx] at hl'
    have hmt : x ∈ todo := of_decide_eq_true hl'.symm
    obtain rfl : v = .agg #[] := (unitElem_inv hv).1
    have hdt : todo.Nodup := hd.sublist hsub
    obtain ⟨t1, t2, ht⟩ := List.append_of_mem hmt
    refine .inr ⟨x, t1 ++ t2, w', by rw [ht]; exact List.perm_middle, hm, hrun, ⟨n, es, _, cnt', hrg, hp, hk, hd, ?_, fun q hq => ?_⟩, hgr, hsz, by rw [hrg.left_eq, h1.left_eq]; exact hlt, hen⟩
    · refine List.Sublist.trans ?_ hsub
      rw [ht]
      exact (List.Sublist.refl t1).append (List.sublist_cons_self _ _)
    · have hperm : todo.Perm (x :: (t1 ++ t2)) := by rw [ht]; exact List.perm_middle
      have hno := (List.nodup_cons.1 (hperm.nodup_iff.1 hdt)).1
      show (left (kP q) && !(kP q).sameKey (kP x)) = _
      rw [hl q hq, kP_same hq hok]
      by_cases e : q = x
      · subst e
        rw [decide_eq_false hno]; simp
      · simp only [e, decide_false, Bool.not_false, Bool.and_true]
        apply decide_eq_decide.2
        rw [hperm.mem_iff]
        simp [e]
end Go.Proofs.YtoeoeeomnbggkaaGreatDoor
