/- Bits of unsigned numbers, and small facts that close a walk. -/
import Derived.WalkKit
import Derived.Test.YtoeoeeomnbggkaaGreatDoorPlain
namespace Go.Proofs.YtoeoeeomnbggkaaGreatDoor
open Go Go.RowKit

theorem ret_int {k : IntKind} {a b : Int} (h : a = b) : Ending.returned (.int k a) = .returned (.int k b) := by rw [h]
theorem ret_bool {a b : Bool} (h : a = b) : Ending.returned (.bool a) = .returned (.bool b) := by rw [h]
theorem int_eq {k : IntKind} {a b : Int} (h : a = b) : Value.int k a = .int k b := by rw [h]

theorem u64_in {a : Nat} (h : a < 18446744073709551616) : IntKind.u64.wrap (a : Int) = a := by
  rw [IntKind.wrap_u64]; omega
theorem u8_in {a : Nat} (h : a < 256) : IntKind.u8.wrap (a : Int) = a := by
  rw [IntKind.wrap_u8']; omega

theorem pow256 (k : Nat) : (2 : Nat) ^ (8 * k) = 256 ^ k := by rw [Nat.pow_mul]

/-- A byte laid at its place over what lies below it. -/
theorem or_shl (a x k : Nat) (hk : k < 8) (ha : a < 256 ^ k) (hx : x < 256) :
    bits .or .u64 (a : Int) (IntKind.u64.wrap ((x : Int) * 2 ^ (8 * k))) = ((a + 256 ^ k * x : Nat) : Int) := by
  have e : ((x : Int) * 2 ^ (8 * k)) = ((x * 256 ^ k : Nat) : Int) := by
    rw [← pow256]; simp
  have h1 : 256 ^ (k + 1) ≤ 256 ^ 8 := Nat.pow_le_pow_right (by decide) (by omega)
  have h2 : (256 : Nat) ^ 8 = 18446744073709551616 := by decide
  have h3 : x * 256 ^ k + 256 ^ k ≤ 256 ^ (k + 1) := by
    rw [Nat.pow_succ, Nat.mul_comm (256 ^ k) 256, ← Nat.succ_mul]
    exact Nat.mul_le_mul_right _ (by omega)
  rw [e, u64_in (by omega), u64_or_nat _ _ (by omega) (by omega), Nat.or_comm, nat_join (8 * k) _ _ (by rw [pow256]; simp) (by rw [pow256]; exact ha), Nat.mul_comm, Nat.add_comm]

/-- A group of seven bits laid at its place over what lies below it. -/
theorem or_shl7 (a x k : Nat) (hk : k ≤ 9) (ha : a < 128 ^ k) (hx : x < 128) (h9 : k = 9 → x ≤ 1) :
    bits .or .u64 (a : Int) (IntKind.u64.wrap ((x : Int) * 2 ^ (7 * k))) = ((a + x * 128 ^ k : Nat) : Int) := by
  have p7 : (2 : Nat) ^ (7 * k) = 128 ^ k := by rw [Nat.pow_mul]
  have e : ((x : Int) * 2 ^ (7 * k)) = ((x * 128 ^ k : Nat) : Int) := by
    rw [← p7]; simp
  have hb : x * 128 ^ k + 128 ^ k ≤ 18446744073709551616 := by
    rcases Nat.lt_or_ge k 9 with h | h
    · have h1 : 128 ^ (k + 1) ≤ 128 ^ 9 := Nat.pow_le_pow_right (by decide) (by omega)
      have h2 : (128 : Nat) ^ 9 = 9223372036854775808 := by decide
      have h3 : x * 128 ^ k + 128 ^ k ≤ 128 ^ (k + 1) := by
        rw [Nat.pow_succ, Nat.mul_comm (128 ^ k) 128, ← Nat.succ_mul]
        exact Nat.mul_le_mul_right _ (by omega)
      omega
    · obtain rfl : k = 9 := by omega
      have h2 : (128 : Nat) ^ 9 = 9223372036854775808 := by decide
      have := h9 rfl
      rw [h2]; omega
  rw [e, u64_in (by omega), u64_or_nat _ _ (by omega) (by omega), Nat.or_comm, nat_join (7 * k) _ _ (by rw [p7]; simp) (by rw [p7]; exact ha), Nat.add_comm]
end Go.Proofs.YtoeoeeomnbggkaaGreatDoor
