/- Numbers: what undoes what. -/
import Derived.Test.YtooocgnjefbnkaaAF4
namespace Go.Proofs.Ytooocgnjefbnkaa

theorem doesN_eq {k a b : Nat} (h1 : 1 ≤ k) (h12 : k ≤ 12) (hz : byNone k b = false) : doesN (k : Int) a b = doN k a b := by
  have hk : (1 : Int) ≤ (k : Int) ∧ (k : Int) ≤ 12 := by omega
  simp [doesN, doX, hk, hz]
theorem undo_add {a b : Nat} (ha : a < 4294967296) (hb : b < 4294967296) : doN 2 (doN 1 a b) b = a := by
  simp only [doN]; omega
theorem undo_xor (a b : Nat) : doN 8 (doN 8 a b) b = a := by
  simp only [doN]
  rw [Nat.xor_assoc, Nat.xor_self, Nat.xor_zero]
theorem undo_div {a b : Nat} (ha : a < 4294967296) : doN 1 (doN 3 (doN 4 a b) b) (doN 5 a b) = a := by
  simp only [doN]
  have h := Nat.div_add_mod a b
  rw [Nat.mul_comm] at h
  have h2 : a / b * b < 4294967296 := by
    have := Nat.mod_le a b
    omega
  rw [Nat.mod_eq_of_lt h2, h, Nat.mod_eq_of_lt ha]
theorem undo_shl {a b : Nat} : doN 10 (doN 9 a b) b = a &&& (4294967295 / 2 ^ (b % 32)) := by
  simp only [doN]
  have hs : b % 32 ≤ 32 := by omega
  generalize b % 32 = s at hs
  obtain ⟨t, hst⟩ : ∃ t, t + s = 32 := ⟨32 - s, by omega⟩
  have h32 : 4294967296 = 2 ^ t * 2 ^ s := by rw [← Nat.pow_add, hst]
  have hp : 0 < 2 ^ s := Nat.two_pow_pos s
  have hq : 0 < 2 ^ t := Nat.two_pow_pos t
  have e1 : 4294967295 / 2 ^ s = 2 ^ t - 1 := by
    apply Nat.div_eq_of_lt_le
    · rw [Nat.sub_mul, ← h32]
      omega
    · rw [show 2 ^ t - 1 + 1 = 2 ^ t by omega, ← h32]
      omega
  rw [e1, Nat.and_two_pow_sub_one_eq_mod, h32, Nat.mul_mod_mul_right, Nat.mul_div_cancel _ hp]
theorem byNone_not {k b : Nat} (h : b ≠ 0 ∨ (k ≠ 4 ∧ k ≠ 5)) : byNone k b = false := by
  unfold byNone
  rcases h with h | ⟨h1, h2⟩
  · simp [h]
  · simp [h1, h2]
/-- How two words stand, in halves. -/
theorem halves (a b : Nat) : ((a : Int) / 2 < (b : Int) / 2 ∧ doN 11 a b = 1) ∨ (¬ (a : Int) / 2 < (b : Int) / 2 ∧ ((a : Int) / 2 == (b : Int) / 2) = true ∧ (a : Int) % 2 < (b : Int) % 2 ∧ doN 11 a b = 1) ∨
    (¬ (a : Int) / 2 < (b : Int) / 2 ∧ ((a : Int) / 2 == (b : Int) / 2) = true ∧ ¬ (a : Int) % 2 < (b : Int) % 2 ∧ doN 11 a b = 0) ∨ (¬ (a : Int) / 2 < (b : Int) / 2 ∧ ((a : Int) / 2 == (b : Int) / 2) = false ∧ doN 11 a b = 0) := by
  simp only [doN, beq_iff_eq, beq_eq_false_iff_ne]
  by_cases h : a < b
  · rw [if_pos h]; omega
  · rw [if_neg h]; omega
theorem signed_half (a : Nat) (ha : a < 4294967296) : signN (a / 2) = (a : Int) / 2 := by
  unfold signN
  rw [if_pos (by omega)]
  omega
end Go.Proofs.Ytooocgnjefbnkaa
