/- Contracts of package octet's functions on numbers of a width. -/
import Derived.Test.YtoeoeeomnbggkaaGreatDoorLib
import Derived.Test.YtoeoeeomnbggkaaGreatDoorBits
import Derived.Test.YtoeoeeomnbggkaaGreatDoorSmall
namespace Go.Proofs.YtoeoeeomnbggkaaGreatDoor
open Go.RowKit

set_option maxHeartbeats 400000 in
theorem fits_1 (n : Nat) (w : World) :
    Calls Tryz.prog 47 #[.int .u64 n, .int .i64 1] w fun e w' => e = .returned (.bool (decide (n < 256))) ∧ w = w' := by
  go_enter Tryz.func47, Tryz.ntmps47
  go_wp2
  go_ret
  exact ⟨ret_bool (by rw [Bool.eq_iff_iff, beq_iff_eq, decide_eq_true_eq]; omega), rfl⟩
set_option maxHeartbeats 400000 in
theorem fits_2 (n : Nat) (w : World) :
    Calls Tryz.prog 47 #[.int .u64 n, .int .i64 2] w fun e w' => e = .returned (.bool (decide (n < 65536))) ∧ w = w' := by
  go_enter Tryz.func47, Tryz.ntmps47
  go_wp2
  go_ret
  exact ⟨ret_bool (by rw [Bool.eq_iff_iff, beq_iff_eq, decide_eq_true_eq]; omega), rfl⟩
set_option maxHeartbeats 400000 in
theorem fits_4 (n : Nat) (w : World) :
    Calls Tryz.prog 47 #[.int .u64 n, .int .i64 4] w fun e w' => e = .returned (.bool (decide (n < 4294967296))) ∧ w = w' := by
  go_enter Tryz.func47, Tryz.ntmps47
  go_wp2
  go_ret
  exact ⟨ret_bool (by rw [Bool.eq_iff_iff, beq_iff_eq, decide_eq_true_eq]; omega), rfl⟩
set_option maxHeartbeats 400000 in
theorem fits_8 (n : Nat) (w : World) :
    Calls Tryz.prog 47 #[.int .u64 n, .int .i64 8] w fun e w' => e = .returned (.bool (decide (n < 18446744073709551616))) ∧ w = w' := by
  go_enter Tryz.func47, Tryz.ntmps47
  go_wp2
  go_ret
  exact ⟨ret_bool (by rw [Bool.eq_iff_iff, beq_iff_eq, decide_eq_true_eq]; omega), rfl⟩

theorem unB_take (l : List UInt8) (k : Nat) (h : k < l.length) : unB (l.take (k + 1)) = unB (l.take k) + 256 ^ k * (l.getD k 0).toNat := by
  rw [List.take_succ_eq_append_getElem h, unB_snoc]
  simp [Nat.min_eq_left (Nat.le_of_lt h), h]
theorem unB_take_lt (l : List UInt8) (k : Nat) (h : k ≤ l.length) : unB (l.take k) < 256 ^ k := by
  have := unB_lt (l.take k)
  rwa [List.length_take, Nat.min_eq_left h] at this

end Go.Proofs.YtoeoeeomnbggkaaGreatDoor
