/- Contracts of ReadFixed and ReadNumber, the program's. -/
import Derived.Test.YtcimppggemdidaaDoorW5
namespace Go.Proofs.YtcimppggemdidaaDoor
open Go.RowKit

theorem adds_alloc (w : World) (o : Obj) : Adds w (w.alloc o) := (Below.refl _ _).alloc (Nat.le_refl _) _
theorem Widths.adds {w w' : World} (h : Widths w) (ha : Adds w w') : Widths w' := h.below ha

set_option maxHeartbeats 1000000 in
theorem readFixed_any {n : Nat} (v : Value) (l : List UInt8) (x : Int) (w : World) (hv : Bytes n w v l) (hw : Widths w) :
    Calls Tryd.prog 46 #[v, .int .i64 x] w fun e w' => e = .returned (.tuple #[.int .u64 (rfN l x), .int .i64 (rfE l x)]) ∧ Adds w w' := by
  have ha := adds_alloc w (.cells #[v, .int .i64 0, .int .i64 x] 126)
  have hpos : 1 ≤ w.heap.size := Nat.lt_of_le_of_lt (Nat.zero_le _) (World.block_lt_of_cell? w _ hw.c0)
  have hg := fixedM_any w.heap.size w.heap.size v l x _ (Nat.le_refl _) (hv.here.below ha) (rd_new v x w) (hw.adds ha) hpos
  have hc := (readU_fixed v x (rfN l x) (rfE l x) (fun i => i ≤ l.length) w hg).mono (R' := fun e w' => ∃ j : Nat, e = .returned (.tuple #[.int .u64 (rfN l x), .int .i64 j, .int .i64 (rfE l x)]) ∧ Adds w w') fun e w' ⟨i, _, he, ha⟩ => ⟨if rfE l x = 0 then i else 0, by
    rw [he]
    by_cases h0 : rfE l x = 0
    · simp only [h0, if_true]
    · simp only [h0, if_false, rfN], ha⟩
  have HC := Lib.hid hc
  clear hc
  clear hg ha hpos hw
  obtain ⟨ao, cap, rfl, _, _, _⟩ := hv
  go_enter Tryd.func46, Tryd.ntmps46
  go_wp2_with (go_at_call 84; refine HC.out.mono ?_; rintro e w1 ⟨j, rfl, ha⟩; have HA := Lib.hid ha; clear ha)
  go_ret2
  exact ⟨rfl, HA.out⟩

set_option maxHeartbeats 1000000 in
theorem readNumber_any {n : Nat} (v : Value) (l : List UInt8) (w : World) (hv : Bytes n w v l) :
    Calls Tryd.prog 47 #[v] w fun e w' => e = .returned (.tuple #[.int .u64 ((rdN l).1 : Nat), .int .i64 ((rdN l).2.1 : Nat), .int .i64 (rdN l).2.2]) ∧ Adds w w' := by
  have ha := adds_alloc w (.cells #[v, .int .i64 0, .int .i64 0] 126)
  have hg := number_any w.heap.size w.heap.size v l 0 _ (Nat.le_refl _) (hv.here.below ha) (rd_new v 0 w)
  have hc := (readU_number v 0 (rdN l).1 (rdN l).2.2 (fun i => (rdN l).2.2 = 0 → i = (rdN l).2.1) w (hg.mono fun e w' ⟨he, ⟨i, hr, hi, _⟩, hb⟩ => ⟨he, ⟨i, hr, hi⟩, hb⟩)).mono
    (R' := fun e w' => e = .returned (.tuple #[.int .u64 ((rdN l).1 : Nat), .int .i64 ((rdN l).2.1 : Nat), .int .i64 (rdN l).2.2]) ∧ Adds w w') fun e w' ⟨i, hi, he, ha⟩ => ⟨by
      rw [he]
      rcases rdN_cases l with ⟨a, m, h⟩ | h | h
      · have := hi (by rw [h])
        subst this
        simp [h]
      · simp [h]
      · simp [h], ha⟩
  have HC := Lib.hid hc
  clear hc
  clear hg ha
  obtain ⟨ao, cap, rfl, _, _, _⟩ := hv
  go_enter Tryd.func47, Tryd.ntmps47
  go_wp2_with (go_at_call 84; refine HC.out.mono ?_; rintro e w1 ⟨rfl, ha⟩; have HA := Lib.hid ha; clear ha)
  go_ret3
  exact ⟨rfl, HA.out⟩
end Go.Proofs.YtcimppggemdidaaDoor
