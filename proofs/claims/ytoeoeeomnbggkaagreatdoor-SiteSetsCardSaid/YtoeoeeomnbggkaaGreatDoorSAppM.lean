/- Appending pairs to a row of the call's own: where the row lies then: where it lay, or in a new block. -/
import Derived.Test.YtoeoeeomnbggkaaGreatDoorSKM
import Derived.Test.YtoeoeeomnbggkaaGreatDoorSNM
namespace Go.Proofs.YtoeoeeomnbggkaaGreatDoor
open Go Go.RowKit Go.Shelf

attribute [local simp] flatP_length
/-- A slice of pairs that the call has made: it reads l. -/
def OwnPr (base : Nat) (w : World) (v : Value) (l : List Pr) : Prop := w.ownsRow base 32 4 v l.length (flatP l)
theorem infoP4 : (Tryz.prog.info? 32).map (fun i => (i.zero, i.size, i.bytes)) = some (some (.agg #[.int .i64 0, .int .i64 0, .int .i64 0, .int .i64 0]), 4, 32) := by kernel_rfl
theorem flatP_one (l : List Pr) : ∀ u ∈ flatP l, u.oneCell' = true := fun u hu => by
  obtain ⟨x, _, hx⟩ := List.mem_flatMap.1 hu
  simp at hx
  rcases hx with rfl | rfl | rfl | rfl <;> rfl
/-- Where it lay, or in a block that was not there. -/
def SameNewP (w : World) (v v' : Value) : Prop := v'.ownBlock = v.ownBlock ∨ ∃ g, v'.ownBlock = some g ∧ w.heap.size ≤ g
theorem run_append_atP {w : World} (t ty : TypeId) (ht : Tryz.prog.underlying t = some (.slice 32)) (base : Nat) (v : Value) (pre : List Pr) (hown : OwnPr base w v pre)
    (ad : Addr) (c : Nat) (l : List Pr) (hl0 : l ≠ []) (hnews : ∀ j u, (flatP l)[j]? = some u → w.cell? (ad.add j) = some u) (hlen : pre.length + l.length ≤ 1048576) (hbase : base ≤ w.heap.size) :
    ∃ v' w', (Builtin.append_ #[t, t] ty #[v, .slice (some ad) l.length c]).run Tryz.prog w = .ok v' w' ∧ OwnPr base w' v' (pre ++ l) ∧ w.grownBy w' v.ownBlock ∧ SameNewP w v v' := by
  obtain ⟨i0, hi, hz0, hz1, hz2⟩ := info_parts infoP4
  have hlp : 0 < l.length := List.length_pos_iff.2 hl0
  have hml : flatP (pre ++ l) = flatP pre ++ flatP l := flatP_append pre l
  have hpl : (pre ++ l).length = pre.length + l.length := List.length_append
  have grown : ∀ (old : Nat) (row : Option Nat), ∃ v' w', (Result.ok (.slice (some ⟨w.heap.size, 0, none⟩) (pre.length + l.length) (grownCap w (pre.length + l.length) old 32))
        (w.drew.alloc (.cells ((flatP pre).toArray ++ (flatP l).toArray ++ Builtin.zeroCells #[.int .i64 0, .int .i64 0, .int .i64 0, .int .i64 0] (grownCap w (pre.length + l.length) old 32 - (pre.length + l.length))) 32)) : Result Value) = .ok v' w' ∧
      OwnPr base w' v' (pre ++ l) ∧ w.grownBy w' row ∧ SameNewP w v v' := by
    intro old row
    have hge := grownCap_ge w (pre.length + l.length) old 32
    have hcm : grownCap w (pre.length + l.length) old 32 ≤ maxLen := grownCap_le_maxLen w (pre.length + l.length) old 32 (by unfold maxLen; omega)
    refine ⟨_, _, rfl, ?_, ⟨rfl, rfl, rfl, by simp, fun j hj _ => (by first | exact heap_alloc_old w.drew _ hj | exact heap_alloc_old w.drew _ _ hj)⟩, .inr ⟨w.heap.size, rfl, Nat.le_refl _⟩⟩
    unfold OwnPr
    rw [hpl, hml]
    refine ⟨by simp; omega, .inr ⟨w.heap.size, _, _, rfl, hbase, heap_alloc_new w.drew _, hge, hcm, ?_, ?_⟩⟩
    · simp [size_zeroCells]; omega
    · have : (flatP pre ++ flatP l).length = (pre.length + l.length) * 4 := by rw [List.length_append, flatP_length, flatP_length]; omega
      simp only [Array.toList_append]
      rw [← this]
      exact List.take_left
  rcases hown.2 with ⟨rfl, hp⟩ | ⟨g, cap, cur, rfl, hbg, hg, hnc, hcm, hcs, htake⟩
  · have hpre : pre = [] := List.eq_nil_of_length_eq_zero hp
    subst hpre
    have hr := run_append_nil (P := Tryz.prog) w t ty 32 i0 (.agg #[.int .i64 0, .int .i64 0, .int .i64 0, .int .i64 0]) ht hi hz0 ad l.length c (flatP l) (by rw [hz1]; simp) hnews hlp (by omega) (by rw [hz2]; omega)
    obtain ⟨v', w', e, h1, h2, h3⟩ := grown 0 (Value.ownBlock (.slice none 0 0))
    refine ⟨v', w', ?_, h1, h2, h3⟩
    rw [hr, ← e]
    simp [Value.cells, show flatP [] = [] from rfl]
  · by_cases hroom : pre.length + l.length ≤ cap
    · have hfit : pre.length * i0.size + (flatP l).length ≤ cur.size := by rw [hz1]; simp; omega
      have hr := run_append_room (P := Tryz.prog) w t ty 32 i0 ht hi g pre.length cap cur hg ad l.length c (flatP l) (by rw [hz1]; simp) hnews (flatP_one l) hroom hfit
      refine ⟨_, _, hr, ?_, ⟨rfl, rfl, rfl, by simp, fun j hj hne => setRow_other w g j _ (fun e => hne (by simp [Value.ownBlock, e]))⟩, .inl rfl⟩
      unfold OwnPr
      rw [hpl, hml]
      refine ⟨by simp; omega, .inr ⟨g, cap, _, rfl, hbg, setRow_heap w g cur _ _ _ hg, hroom, hcm, ?_, ?_⟩⟩
      · simp [hz1]; omega
      · have ht' : cur.toList.take (pre.length * 4) = flatP pre := htake
        simp only [hz1]
        rw [ht']
        have : (flatP pre ++ flatP l).length = (pre.length + l.length) * 4 := by simp; omega
        rw [← this]
        exact List.take_left
    · have holds := World.ownsRow.cells hown (g := g) rfl
      have hr := run_append_grow (P := Tryz.prog) w t ty 32 i0 (.agg #[.int .i64 0, .int .i64 0, .int .i64 0, .int .i64 0]) ht hi hz0 ⟨g, 0, none⟩ pre.length cap (flatP pre) (by rw [hz1]; simp) holds ad l.length c (flatP l) (by rw [hz1]; simp) hnews (by omega) (by omega)
        (by rw [hz2]; exact growslice_fits (by omega) (by omega))
      obtain ⟨v', w', e, h1, h2, h3⟩ := grown cap (Value.ownBlock (.slice (some ⟨g, 0, none⟩) pre.length cap))
      refine ⟨v', w', ?_, h1, h2, h3⟩
      rw [hr, ← e]
      simp [Value.cells]
theorem PairsW.news {n : Nat} {w : World} {a : Addr} {len cap : Nat} {l : List Pr} (h : PairsW n w (.slice (some a) len cap) l) :
    len = l.length ∧ ∀ j u, (flatP l)[j]? = some u → w.cell? (a.add j) = some u := by
  obtain ⟨ao, cap', e, e1, e2, e3⟩ := h
  simp only [Value.slice.injEq] at e
  obtain ⟨rfl, rfl, rfl⟩ := e
  refine ⟨rfl, fun j u hu => ?_⟩
  have hj : j < l.length * 4 := by
    rcases Nat.lt_or_ge j (l.length * 4) with h | h
    · exact h
    · rw [List.getElem?_eq_none (by rw [flatP_length]; exact h)] at hu; cases hu
  obtain ⟨g, off, e, hg, hc⟩ := e3 (by rintro rfl; simp at hj)
  cases e
  have h0 := flatP_get l (j / 4) (j % 4) (by omega) (by omega)
  rw [show j / 4 * 4 + j % 4 = j by omega, hu] at h0
  obtain ⟨k0, k1, k2, k3⟩ := hc (j / 4) (by omega)
  have hp : (⟨g, off, none⟩ : Addr).add j = ⟨g, off + j, none⟩ := by unfold Addr.add; split <;> simp_all
  rw [hp]
  obtain ⟨r, hr⟩ : ∃ r, j % 4 = r := ⟨_, rfl⟩
  rw [hr] at h0
  have hr4 : r < 4 := by omega
  rw [show off + j = off + j / 4 * 4 + r by omega]
  match r, hr4 with
  | 0, _ => rw [Nat.add_zero, k0]; exact h0.symm
  | 1, _ => rw [k1]; exact h0.symm
  | 2, _ => rw [k2]; exact h0.symm
  | 3, _ => rw [k3]; exact h0.symm
theorem run_append_p2 {w : World} (t ty : TypeId) (ht : Tryz.prog.underlying t = some (.slice 32)) (base : Nat) (v : Value) (pre : List Pr) (hown : OwnPr base w v pre)
    (v2 : Value) (l : List Pr) (n : Nat) (hv : PairsW n w v2 l) (hlen : pre.length + l.length ≤ 1048576) (hbase : base ≤ w.heap.size) :
    ∃ v' w', (Builtin.append_ #[t, t] ty #[v, v2]).run Tryz.prog w = .ok v' w' ∧ OwnPr base w' v' (pre ++ l) ∧ w.grownBy w' v.ownBlock ∧ SameNewP w v v' := by
  by_cases hl0 : l = []
  · subst hl0
    obtain ⟨ao, cap, rfl, h1, h2, h3⟩ := id hv
    obtain ⟨i0, hi, hz0, hz1, hz2⟩ := info_parts infoP4
    have hr : (Builtin.append_ #[t, t] ty #[v, .slice ao ([] : List Pr).length cap]).run Tryz.prog w = .ok v w := by
      cases ao with
      | none => exact run_append_none (P := Tryz.prog) (w := w) base t ty 32 i0 4 ht hi v pre.length cap (flatP pre) hown
      | some ad =>
        rcases hown.2 with ⟨rfl, _⟩ | ⟨g, cp, cur, rfl, _, _, hnc, _⟩
        · simp [Builtin.append_, run_underlying ht, sizeOf, typeInfo, hi, Builtin.lenOf, Builtin.firstCells, loadCells, loadCellsFrom]
        · simp [Builtin.append_, run_underlying ht, sizeOf, typeInfo, hi, Builtin.lenOf, Builtin.firstCells, loadCells, loadCellsFrom, hnc, storeCells]
    exact ⟨v, w, hr, by simpa using hown, ⟨rfl, rfl, rfl, Nat.le_refl _, fun _ _ _ => rfl⟩, .inl rfl⟩
  · obtain ⟨ao, cap, rfl, h1, h2, h3⟩ := id hv
    obtain ⟨b, off, rfl, _⟩ := h3 hl0
    exact run_append_atP t ty ht base v pre hown _ cap l hl0 hv.news.2 hlen hbase
end Go.Proofs.YtoeoeeomnbggkaaGreatDoor
