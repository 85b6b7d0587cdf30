/- place, passed, page.store, isNone, New: their contracts. -/
import Derived.Test.YtleihmmkonakhaaDoorMMem
import Derived.Test.YtleihmmkonakhaaDoorLoose
namespace Go.Proofs.YtleihmmkonakhaaDoor
open Go Go.RowKit

theorem ret_i {k : IntKind} {a b : Int} (h : a = b) : Ending.returned (.int k a) = Ending.returned (.int k b) := by rw [h]
theorem place_any (a : Nat) (_h : a < 4294967296) (w : World) :
    Calls Tryd.prog 42 #[.int .u32 ((a : Nat) : Int)] w fun e w' => e = .returned (.tuple #[.int .u32 ((a / 4096 : Nat) : Int), .int .u32 ((a % 4096 : Nat) : Int)]) ∧ w = w' := by
  go_enter Tryd.func42, Tryd.ntmps42
  go_wp2
  go_ret2
  exact ⟨by simp, rfl⟩

theorem passed_any (b a : Nat) (hb : b < 4294967296) (ha : a < 4294967296) (w : World) :
    Calls Tryd.prog 51 #[.int .u32 ((b : Nat) : Int), .int .u32 ((a : Nat) : Int)] w fun e w' => e = .returned (.int .u32 ((min (a - b) 4096 : Nat) : Int)) ∧ w = w' := by
  by_cases h : a < b
  · go_enter Tryd.func51, Tryd.ntmps51
    go_wp2
    go_ret
    exact ⟨by rw [show a - b = 0 by omega]; rfl, rfl⟩
  · obtain ⟨d, rfl⟩ : ∃ d, a = b + d := ⟨a - b, by omega⟩
    have k1 : IntKind.u32.wrap (((b + d : Nat) : Int) - (b : Int)) = (d : Int) := by rw [IntKind.wrap_u32]; omega
    by_cases h2 : d < 4096
    · have k2 : (b : Int) + (d : Int) - (b : Int) = (d : Int) := by omega
      rw [show min (b + d - b) 4096 = d by omega]
      go_enter Tryd.func51, Tryd.ntmps51
      go_wp2
      all_goals
        go_ret
        first | exact ⟨rfl, rfl⟩ | exact ⟨ret_i (by omega), rfl⟩
    · have k2 : (b : Int) + (d : Int) - (b : Int) = (d : Int) := by omega
      rw [show min (b + d - b) 4096 = 4096 by omega]
      go_enter Tryd.func51, Tryd.ntmps51
      go_wp2
      all_goals
        go_ret
        first | exact ⟨rfl, rfl⟩ | exact ⟨ret_i (by omega), rfl⟩

theorem isNoneM_nil (w : World) :
    Calls Tryd.prog 26 #[.pointer none] w fun e w' => e = .returned (.bool true) ∧ w = w' := by
  go_enter Tryd.func26, Tryd.ntmps26
  go_wp2
  go_ret
  exact ⟨rfl, rfl⟩
theorem isNoneM_zero (bm : Nat) (w : World) (hc : w.cell? ⟨bm, 0, none⟩ = some (.map none)) :
    Calls Tryd.prog 26 #[.pointer (some ⟨bm, 0, none⟩)] w fun e w' => e = .returned (.bool true) ∧ w = w' := by
  have he := run_eql_map_nil (P := Tryd.prog) w 50 29 62 none Tryd.underlying50
  go_enter Tryd.func26, Tryd.ntmps26
  go_wp2
  go_ret
  exact ⟨rfl, rfl⟩
theorem isNoneM_full (bm b : Nat) (w : World) (hc : w.cell? ⟨bm, 0, none⟩ = some (.map (some b))) :
    Calls Tryd.prog 26 #[.pointer (some ⟨bm, 0, none⟩)] w fun e w' => e = .returned (.bool false) ∧ w = w' := by
  have he := run_eql_map_nil (P := Tryd.prog) w 50 29 62 (some b) Tryd.underlying50
  go_enter Tryd.func26, Tryd.ntmps26
  go_wp2
  go_ret
  exact ⟨rfl, rfl⟩

theorem newM_any (w : World) :
    Calls Tryd.prog 9 #[] w fun e w' => ∃ bm b, e = .returned (.pointer (some ⟨bm, 0, none⟩)) ∧ MemP w' (.pointer (some ⟨bm, 0, none⟩)) (fun _ => 0) bm b [] ∧ Adds w w' ∧ w.heap.size ≤ bm ∧ w.heap.size ≤ b := by
  have hmm := @run_makeMap Tryd.prog
  go_enter Tryd.func9, Tryd.ntmps9
  go_wp2
  go_ret
  refine ⟨_, w.heap.size, rfl, ⟨rfl, by have := heap_alloc_new (w.alloc (.map #[] 0)) (.cells #[.map (some w.heap.size)] 52); rwa [World.size_alloc] at this, ⟨?_, List.nodup_nil, fun _ h => by simp at h, fun _ _ _ _ _ => rfl, fun _ => by simp⟩⟩, ?_, by simp, Nat.le_refl _⟩
  · exact (MapAt.made w).same (Below.heap_alloc _ _ _ (by simp))
  · exact ((Below.refl _ _).alloc (Nat.le_refl _) _).alloc (by simp) _

theorem pstore_any (c a v : Nat) (f : Nat → Nat) (w : World) (ha : a < 4096) (hB : PBlk w c f (cntP f)) :
    Calls Tryd.prog 43 #[ptrV c, .int .u32 ((a : Nat) : Int), .int .u32 ((v : Nat) : Int)] w fun e w' =>
      e = .returned (.tuple #[]) ∧ PBlk w' c (setW f a v) (cntP (setW f a v)) ∧ Turns c w w' := by
  have HS := Lib.hid (cntP_set f a v ha)
  have HLe := Lib.hid (cntP_le f)
  have HP := Lib.hid (show f a ≠ 0 → 1 ≤ cntP f from fun h => Nat.pos_of_ne_zero fun e => h ((cntP_zero f).1 e a ha))
  have HB := Lib.hid hB; clear hB
  obtain ⟨n, hn⟩ : ∃ n, cntP f = n := ⟨_, rfl⟩
  obtain ⟨m, hm⟩ : ∃ m, cntP (setW f a v) = m := ⟨_, rfl⟩
  rw [hn] at HS HB HLe HP
  rw [hm] at HS ⊢
  clear hn hm
  have c0 := HB.out.cell a ha
  have c1 := HB.out.left
  have f0 : w.frozen? ⟨c, a, none⟩ = false := HB.out.free a
  have f1 : w.frozen? ⟨c, 4096, none⟩ = false := HB.out.free 4096
  unfold ptrV
  by_cases h0 : f a = 0
  · by_cases hv : v = 0
    · have HM := Lib.hid (show m = n by have := HS.out; simp [h0, hv] at this; omega)
      clear HLe
      rw [h0] at c0
      subst hv
      go_enter Tryd.func43, Tryd.ntmps43
      go_wp2
      go_end0
      rw [HM.out]
      exact ⟨rfl, HB.out.set a 0 ha, Turns.setCell _ _ _ _⟩
    · have HM := Lib.hid (show m = n + 1 by have := HS.out; simp [h0, hv] at this; omega)
      have e1 : IntKind.i64.wrap ((n : Int) + 1) = ((n + 1 : Nat) : Int) := by have := HLe.out; rw [IntKind.wrap_i64]; omega
      clear HLe
      rw [h0] at c0
      have hv' : ¬ (v : Int) = 0 := by omega
      go_enter Tryd.func43, Tryd.ntmps43
      go_wp2
      go_end0
      rw [HM.out]
      exact ⟨rfl, (HB.out.setLeft (n + 1)).set a v ha, (Turns.setCell _ _ _ _).trans (Turns.setCell _ _ _ _)⟩
  · have h0' : ¬ ((f a : Nat) : Int) = 0 := by omega
    by_cases hv : v = 0
    · have HM := Lib.hid (show n = m + 1 by have := HS.out; simp [h0, hv] at this; omega)
      have e1 : IntKind.i64.wrap ((n : Int) - 1) = ((m : Nat) : Int) := by have := HLe.out; have := HM.out; rw [IntKind.wrap_i64]; omega
      clear HLe
      subst hv
      go_enter Tryd.func43, Tryd.ntmps43
      go_wp2
      go_end0
      exact ⟨rfl, (HB.out.setLeft m).set a 0 ha, (Turns.setCell _ _ _ _).trans (Turns.setCell _ _ _ _)⟩
    · have HM := Lib.hid (show m = n by have := HS.out; simp [h0, hv] at this; omega)
      have hpos : 1 ≤ n := HP.out h0
      have e1 : IntKind.i64.wrap ((n : Int) - 1) = ((n - 1 : Nat) : Int) := by have := HLe.out; rw [IntKind.wrap_i64]; omega
      have e2 : IntKind.i64.wrap (((n - 1 : Nat) : Int) + 1) = ((n : Nat) : Int) := by have := HLe.out; rw [IntKind.wrap_i64]; omega
      have hv' : ¬ (v : Int) = 0 := by omega
      clear HLe
      go_enter Tryd.func43, Tryd.ntmps43
      go_wp2
      go_end0
      rw [HM.out]
      exact ⟨rfl, ((HB.out.setLeft (n - 1)).setLeft n).set a v ha, ((Turns.setCell _ _ _ _).trans (Turns.setCell _ _ _ _)).trans (Turns.setCell _ _ _ _)⟩
end Go.Proofs.YtleihmmkonakhaaDoor
