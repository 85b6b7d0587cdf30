/- Contracts of package octet's functions on numbers of a width. -/
import Derived.Test.YtnhapmodgmkbjaaDoorLib
import Derived.Test.YtnhapmodgmkbjaaDoorBits
import Derived.Test.YtnhapmodgmkbjaaDoorSmall
namespace Go.Proofs.YtnhapmodgmkbjaaDoor
open Go.RowKit

set_option maxHeartbeats 400000 in
theorem fits_1 (n : Nat) (w : World) :
    Calls Tryd.prog 46 #[.int .u64 n, .int .i64 1] w fun e w' => e = .returned (.bool (decide (n < 256))) ∧ w = w' := by
  go_enter Tryd.func46, Tryd.ntmps46
  go_wp2
  go_ret
  exact ⟨ret_bool (by rw [Bool.eq_iff_iff, beq_iff_eq, decide_eq_true_eq]; omega), rfl⟩
set_option maxHeartbeats 400000 in
theorem fits_2 (n : Nat) (w : World) :
    Calls Tryd.prog 46 #[.int .u64 n, .int .i64 2] w fun e w' => e = .returned (.bool (decide (n < 65536))) ∧ w = w' := by
  go_enter Tryd.func46, Tryd.ntmps46
  go_wp2
  go_ret
  exact ⟨ret_bool (by rw [Bool.eq_iff_iff, beq_iff_eq, decide_eq_true_eq]; omega), rfl⟩
set_option maxHeartbeats 400000 in
theorem fits_4 (n : Nat) (w : World) :
    Calls Tryd.prog 46 #[.int .u64 n, .int .i64 4] w fun e w' => e = .returned (.bool (decide (n < 4294967296))) ∧ w = w' := by
  go_enter Tryd.func46, Tryd.ntmps46
  go_wp2
  go_ret
  exact ⟨ret_bool (by rw [Bool.eq_iff_iff, beq_iff_eq, decide_eq_true_eq]; omega), rfl⟩
set_option maxHeartbeats 400000 in
theorem fits_8 (n : Nat) (w : World) :
    Calls Tryd.prog 46 #[.int .u64 n, .int .i64 8] w fun e w' => e = .returned (.bool (decide (n < 18446744073709551616))) ∧ w = w' := by
  go_enter Tryd.func46, Tryd.ntmps46
  go_wp2
  go_ret
  exact ⟨ret_bool (by rw [Bool.eq_iff_iff, beq_iff_eq, decide_eq_true_eq]; omega), rfl⟩

theorem unB_take (l : List UInt8) (k : Nat) (h : k < l.length) : unB (l.take (k + 1)) = unB (l.take k) + 256 ^ k * (l.getD k 0).toNat := by
  rw [List.take_succ_eq_append_getElem h, unB_snoc]
  simp [Nat.min_eq_left (Nat.le_of_lt h), h]
theorem unB_take_lt (l : List UInt8) (k : Nat) (h : k ≤ l.length) : unB (l.take k) < 256 ^ k := by
  have := unB_lt (l.take k)
  rwa [List.length_take, Nat.min_eq_left h] at this

set_option maxHeartbeats 400000 in
theorem value_any (b off cap : Nat) (l : List UInt8) (hl : l.length ≤ 8) (w : World) (hc : ∀ i, i < l.length → w.cell? ⟨b, off + i, none⟩ = some (byteV (l.getD i 0))) :
    Calls Tryd.prog 78 #[.slice (some ⟨b, off, none⟩) l.length cap] w fun e w' => e = .returned (.int .u64 (unB l)) ∧ w = w' := by
  have HC := Lib.hid hc; clear hc
  go_enter Tryd.func78, Tryd.ntmps78
  go_wp2
  go_loop [3, 8] (fun n i => ∃ k : Nat, k ≤ l.length ∧ i = .int .i64 k ∧ n = .int .u64 (unB (l.take k))) (fun _ i => l.length - (intOf i).toNat)
  case atStart => exact ⟨0, Nat.zero_le _, rfl, rfl⟩
  case round =>
    obtain ⟨k, hk, rfl, rfl⟩ := hrel
    by_cases hlt : k < l.length
    · obtain ⟨x, hx⟩ : ∃ x, l.getD k 0 = x := ⟨_, rfl⟩
      have hcell : w.cell? ⟨b, off + k, none⟩ = some (.int .u8 x.toNat) := by have := HC.out k hlt; rwa [hx] at this
      have HX := Lib.hid hx; clear hx
      have hx8 : x.toNat < 256 := x.toNat_lt
      go_wp2
      go_round
      case rel => exact ⟨k + 1, by omega, by go_num, int_eq (by rw [or_shl _ _ _ (by omega) (unB_take_lt l k hk) hx8, unB_take l k hlt, HX.out])⟩
      case measure => simp [intOf]; omega
    · go_wp2
      go_ret
      exact ⟨ret_int (by rw [List.take_of_length_le (by omega)]), rfl⟩
end Go.Proofs.YtnhapmodgmkbjaaDoor
