/- Contracts of ReadFixed and ReadNumber, the program's. -/
import Derived.Test.YtnhapmodgmkbjaaDoorW5
namespace Go.Proofs.YtnhapmodgmkbjaaDoor
open Go.RowKit

theorem adds_alloc (w : World) (o : Obj) : Adds w (w.alloc o) := (Below.refl _ _).alloc (Nat.le_refl _) _
theorem Widths.adds {w w' : World} (h : Widths w) (ha : Adds w w') : Widths w' := h.below ha

set_option maxHeartbeats 1000000 in
theorem readFixed_any {n : Nat} (v : Value) (l : List UInt8) (x : Int) (w : World) (hv : Bytes n w v l) (hw : Widths w) :
    Calls Tryd.prog 48 #[v, .int .i64 x] w fun e w' => e = .returned (.tuple #[.int .u64 (rfN l x), .int .i64 (rfE l x)]) ∧ Adds w w' := by
  have ha := adds_alloc w (.cells #[v, .int .i64 0, .int .i64 x] 115)
  have hpos : 1 ≤ w.heap.size := Nat.lt_of_le_of_lt (Nat.zero_le _) (World.block_lt_of_cell? w _ hw.c0)
  have hg := fixedM_any w.heap.size w.heap.size v l x _ (Nat.le_refl _) (hv.here.below ha) (rd_new v x w) (hw.adds ha) hpos
  have hc := (readU_fixed v x (rfN l x) (rfE l x) (fun i => i ≤ l.length) w hg).mono (R' := fun e w' => ∃ j : Nat, e = .returned (.tuple #[.int .u64 (rfN l x), .int .i64 j, .int .i64 (rfE l x)]) ∧ Adds w w') fun e w' ⟨i, _, he, ha⟩ => ⟨if rfE l x = 0 then i else 0, by
    rw [he]
    by_cases h0 : rfE l x = 0
    · simp only [h0, if_true]
    · simp only [h0, if_false, rfN], ha⟩
  have HC := Lib.hid hc
  clear hc
  clear hg ha hpos hw
  obtain ⟨ao, cap, rfl, _, _, _⟩ := hv
  go_enter Tryd.func48, Tryd.ntmps48
  go_wp2_with (go_at_call 61; refine HC.out.mono ?_; rintro e w1 ⟨j, rfl, ha⟩; have HA := Lib.hid ha; clear ha)
  go_ret2
  exact ⟨rfl, HA.out⟩

end Go.Proofs.YtnhapmodgmkbjaaDoor
