/- Appending clocks to a row of the call's own: where the row lies then: where it lay, or in a new block. -/
import Derived.Test.YtcimppggemdidaaDoorVApp
namespace Go.Proofs.YtcimppggemdidaaDoor
open Go Go.RowKit

/-- Where it lay, or in a block that was not there. -/
def SameOrNew (w : World) (v v' : Value) : Prop := v'.ownBlock = v.ownBlock ∨ ∃ g, v'.ownBlock = some g ∧ w.heap.size ≤ g
theorem run_append_at {w : World} (t ty : TypeId) (ht : Tryd.prog.underlying t = some (.slice 26)) (base : Nat) (v : Value) (pre : List UInt64) (hown : OwnW w base v pre)
    (ad : Addr) (c : Nat) (l : List UInt64) (hl0 : l ≠ []) (hnews : ∀ j u, (l.map wordV)[j]? = some u → w.cell? (ad.add j) = some u) (hlen : pre.length + l.length ≤ 1000000) (hbase : base ≤ w.heap.size) :
    ∃ v' w', (Builtin.append_ #[t, t] ty #[v, .slice (some ad) l.length c]).run Tryd.prog w = .ok v' w' ∧ OwnW w' base v' (pre ++ l) ∧ w.grownBy w' v.ownBlock ∧ SameOrNew w v v' := by
  obtain ⟨i0, hi, hz0, hz1, hz2⟩ := info_parts info64
  have hlp : 0 < l.length := List.length_pos_iff.2 hl0
  have hml : (pre ++ l).map wordV = pre.map wordV ++ l.map wordV := List.map_append
  have hpl : (pre ++ l).length = pre.length + l.length := List.length_append
  have grown : ∀ (old : Nat) (row : Option Nat), ∃ v' w', (Result.ok (.slice (some ⟨w.heap.size, 0, none⟩) (pre.length + l.length) (grownCap w (pre.length + l.length) old 26))
        (w.drew.alloc (.cells ((pre.map wordV).toArray ++ (l.map wordV).toArray ++ Builtin.zeroCells #[.int .u64 0] (grownCap w (pre.length + l.length) old 26 - (pre.length + l.length))) 26)) : Result Value) = .ok v' w' ∧
      OwnW w' base v' (pre ++ l) ∧ w.grownBy w' row ∧ SameOrNew w v v' := by
    intro old row
    have hge := grownCap_ge w (pre.length + l.length) old 26
    have hcm : grownCap w (pre.length + l.length) old 26 ≤ maxLen := grownCap_le_maxLen w (pre.length + l.length) old 26 (by unfold maxLen; omega)
    refine ⟨_, _, rfl, ?_, ⟨rfl, rfl, rfl, by simp, fun j hj _ => heap_alloc_old w.drew _ hj⟩, .inr ⟨w.heap.size, rfl, Nat.le_refl _⟩⟩
    unfold OwnW
    rw [hpl, hml]
    refine ⟨by simp, .inr ⟨w.heap.size, _, _, rfl, hbase, heap_alloc_new w.drew _, hge, hcm, ?_, ?_⟩⟩
    · simp [size_zeroCells]; omega
    · have : (pre.map wordV ++ l.map wordV).length = (pre.length + l.length) * 1 := by simp
      simp only [Array.toList_append]
      rw [← this]
      exact List.take_left
  rcases hown.2 with ⟨rfl, hp⟩ | ⟨g, cap, cur, rfl, hbg, hg, hnc, hcm, hcs, htake⟩
  · have hpre : pre = [] := List.eq_nil_of_length_eq_zero hp
    subst hpre
    have hr := run_append_nil (P := Tryd.prog) w t ty 26 i0 (.int .u64 0) ht hi hz0 ad l.length c (l.map wordV) (by rw [hz1]; simp) hnews hlp (by omega) (by rw [hz2]; omega)
    obtain ⟨v', w', e, h1, h2, h3⟩ := grown 0 (Value.ownBlock (.slice none 0 0))
    refine ⟨v', w', ?_, h1, h2, h3⟩
    rw [hr, ← e]
    simp [Value.cells]
  · by_cases hroom : pre.length + l.length ≤ cap
    · have hfit : pre.length * i0.size + (l.map wordV).length ≤ cur.size := by rw [hz1]; simp; omega
      have hr := run_append_room (P := Tryd.prog) w t ty 26 i0 ht hi g pre.length cap cur hg ad l.length c (l.map wordV) (by rw [hz1]; simp) hnews (fun u hu => by obtain ⟨b, _, rfl⟩ := List.mem_map.1 hu; rfl) hroom hfit
      refine ⟨_, _, hr, ?_, ⟨rfl, rfl, rfl, by simp, fun j hj hne => setRow_other w g j _ (fun e => hne (by simp [Value.ownBlock, e]))⟩, .inl rfl⟩
      unfold OwnW
      rw [hpl, hml]
      refine ⟨by simp, .inr ⟨g, cap, _, rfl, hbg, setRow_heap w g cur _ _ _ hg, hroom, hcm, ?_, ?_⟩⟩
      · simp [hz1]; omega
      · have ht' : cur.toList.take pre.length = pre.map wordV := by rw [Nat.mul_one] at htake; exact htake
        simp only [hz1, Nat.mul_one]
        rw [ht']
        have : (pre.map wordV ++ l.map wordV).length = pre.length + l.length := by simp
        rw [← this]
        exact List.take_left
    · have holds := World.ownsRow.cells hown (g := g) rfl
      have hr := run_append_grow (P := Tryd.prog) w t ty 26 i0 (.int .u64 0) ht hi hz0 ⟨g, 0, none⟩ pre.length cap (pre.map wordV) (by rw [hz1]; simp) holds ad l.length c (l.map wordV) (by rw [hz1]; simp) hnews (by omega) (by omega)
        (by rw [hz2]; exact growslice_fits (by omega) (by omega))
      obtain ⟨v', w', e, h1, h2, h3⟩ := grown cap (Value.ownBlock (.slice (some ⟨g, 0, none⟩) pre.length cap))
      refine ⟨v', w', ?_, h1, h2, h3⟩
      rw [hr, ← e]
      simp [Value.cells]
theorem run_append_w2 {w : World} (t ty : TypeId) (ht : Tryd.prog.underlying t = some (.slice 26)) (base : Nat) (v : Value) (pre : List UInt64) (hown : OwnW w base v pre)
    (v2 : Value) (l : List UInt64) (n : Nat) (hv : Words n w v2 l) (hlen : pre.length + l.length ≤ 1000000) (hbase : base ≤ w.heap.size) :
    ∃ v' w', (Builtin.append_ #[t, t] ty #[v, v2]).run Tryd.prog w = .ok v' w' ∧ OwnW w' base v' (pre ++ l) ∧ w.grownBy w' v.ownBlock ∧ SameOrNew w v v' := by
  by_cases hl0 : l = []
  · subst hl0
    obtain ⟨ao, cap, rfl, h1, h2, h3⟩ := id hv
    obtain ⟨i0, hi, hz0, hz1, hz2⟩ := info_parts info64
    have hr : (Builtin.append_ #[t, t] ty #[v, .slice ao ([] : List UInt64).length cap]).run Tryd.prog w = .ok v w := by
      cases ao with
      | none => exact run_append_none (P := Tryd.prog) (w := w) base t ty 26 i0 1 ht hi v pre.length cap (pre.map wordV) hown
      | some ad =>
        rcases hown.2 with ⟨rfl, _⟩ | ⟨g, cp, cur, rfl, _, _, hnc, _⟩
        · simp [Builtin.append_, run_underlying ht, sizeOf, typeInfo, hi, Builtin.lenOf, Builtin.firstCells, loadCells, loadCellsFrom]
        · simp [Builtin.append_, run_underlying ht, sizeOf, typeInfo, hi, Builtin.lenOf, Builtin.firstCells, loadCells, loadCellsFrom, hnc, storeCells]
    exact ⟨v, w, hr, by simpa using hown, ⟨rfl, rfl, rfl, Nat.le_refl _, fun _ _ _ => rfl⟩, .inl rfl⟩
  · obtain ⟨ao, cap, rfl, h1, h2, h3⟩ := id hv
    obtain ⟨b, off, rfl, _⟩ := h3 hl0
    exact run_append_at t ty ht base v pre hown _ cap l hl0 hv.news.2 hlen hbase
end Go.Proofs.YtcimppggemdidaaDoor
