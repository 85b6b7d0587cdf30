/- The document's answers: its Do, Signed, Fold: their contracts. -/
import Derived.Test.YtooocgnjefbnkaaAF4
namespace Go.Proofs.Ytooocgnjefbnkaa
open Go Go.RowKit

def RefPost (n : Nat) (er : Int) (w : World) (e : Ending) (w' : World) : Prop := e = .returned (.tuple #[.int .u32 n, .int .i64 er]) ∧ w = w'
theorem shl_step (a i : Nat) : 2 * (a * 2 ^ i % 4294967296) % 4294967296 = a * 2 ^ (i + 1) % 4294967296 := by
  rw [Nat.mul_mod, Nat.mod_mod, ← Nat.mul_mod, Nat.pow_succ]
  congr 1
  rw [Nat.mul_comm 2, Nat.mul_assoc]
theorem shr_step (a i : Nat) : a / 2 ^ i / 2 = a / 2 ^ (i + 1) := by
  rw [Nat.div_div_eq_div_mul, Nat.pow_succ]

set_option maxRecDepth 100000 in
theorem ref1_any (a b : Nat) (ha : a < 4294967296) (hb : b < 4294967296) (w : World) :
    Calls Try.prog 7 #[.int .i64 1, .int .u32 a, .int .u32 b] w (RefPost (doN 1 a b) 0 w) := by
  go_enter Try.func7, Try.ntmps7
  go_wp2
  go_ret2
  exact ⟨by simp [doN]; try omega, rfl⟩

set_option maxRecDepth 100000 in
theorem ref2_any (a b : Nat) (ha : a < 4294967296) (hb : b < 4294967296) (w : World) :
    Calls Try.prog 7 #[.int .i64 2, .int .u32 a, .int .u32 b] w (RefPost (doN 2 a b) 0 w) := by
  go_enter Try.func7, Try.ntmps7
  go_wp2
  go_ret2
  exact ⟨by simp [doN]; try omega, rfl⟩

set_option maxRecDepth 100000 in
theorem ref3_any (a b : Nat) (ha : a < 4294967296) (hb : b < 4294967296) (w : World) :
    Calls Try.prog 7 #[.int .i64 3, .int .u32 a, .int .u32 b] w (RefPost (doN 3 a b) 0 w) := by
  have hm : (a : Int) * (b : Int) < 18446744073709551616 := by
    have h := Nat.mul_le_mul (Nat.le_sub_one_of_lt ha) (Nat.le_sub_one_of_lt hb)
    have h2 : ((a * b : Nat) : Int) ≤ ((4294967295 * 4294967295 : Nat) : Int) := Int.ofNat_le.2 h
    rw [Int.natCast_mul] at h2
    omega
  have hm0 : 0 ≤ (a : Int) * (b : Int) := by rw [← Int.natCast_mul]; exact Int.natCast_nonneg _
  go_enter Try.func7, Try.ntmps7
  go_wp2
  go_ret2
  exact ⟨by simp [doN]; try omega, rfl⟩

set_option maxRecDepth 100000 in
theorem ref4_any (a b : Nat) (ha : a < 4294967296) (hb : b < 4294967296) (hz : b ≠ 0) (w : World) :
    Calls Try.prog 7 #[.int .i64 4, .int .u32 a, .int .u32 b] w (RefPost (doN 4 a b) 0 w) := by
  have hb0 : ((b : Int) == 0) = false := by simpa using hz
  have h4 : ((a / b : Nat) : Int) % 4294967296 = ((a / b : Nat) : Int) := by have h5 := Nat.lt_of_le_of_lt (Nat.div_le_self a b) ha; generalize a / b = q at h5 ⊢; omega
  go_enter Try.func7, Try.ntmps7
  go_wp2
  go_ret2
  exact ⟨by simp [doN]; try omega, rfl⟩

set_option maxRecDepth 100000 in
theorem ref5_any (a b : Nat) (ha : a < 4294967296) (hb : b < 4294967296) (hz : b ≠ 0) (w : World) :
    Calls Try.prog 7 #[.int .i64 5, .int .u32 a, .int .u32 b] w (RefPost (doN 5 a b) 0 w) := by
  have hb0 : ((b : Int) == 0) = false := by simpa using hz
  have h4 : ((a % b : Nat) : Int) % 4294967296 = ((a % b : Nat) : Int) := by have h5 := Nat.lt_of_le_of_lt (Nat.mod_le a b) ha; generalize a % b = q at h5 ⊢; omega
  go_enter Try.func7, Try.ntmps7
  go_wp2
  go_ret2
  exact ⟨by simp [doN]; try omega, rfl⟩

set_option maxRecDepth 100000 in
theorem ref6_any (a b : Nat) (ha : a < 4294967296) (hb : b < 4294967296) (w : World) :
    Calls Try.prog 7 #[.int .i64 6, .int .u32 a, .int .u32 b] w (RefPost (doN 6 a b) 0 w) := by
  have HB := u32_and_nat a b ha hb
  go_enter Try.func7, Try.ntmps7
  go_wp2
  go_ret2
  exact ⟨by simp [doN]; try omega, rfl⟩

set_option maxRecDepth 100000 in
theorem ref7_any (a b : Nat) (ha : a < 4294967296) (hb : b < 4294967296) (w : World) :
    Calls Try.prog 7 #[.int .i64 7, .int .u32 a, .int .u32 b] w (RefPost (doN 7 a b) 0 w) := by
  have HB := u32_or_nat a b ha hb
  go_enter Try.func7, Try.ntmps7
  go_wp2
  go_ret2
  exact ⟨by simp [doN]; try omega, rfl⟩

set_option maxRecDepth 100000 in
theorem ref8_any (a b : Nat) (ha : a < 4294967296) (hb : b < 4294967296) (w : World) :
    Calls Try.prog 7 #[.int .i64 8, .int .u32 a, .int .u32 b] w (RefPost (doN 8 a b) 0 w) := by
  have HB := u32_xor_nat a b ha hb
  go_enter Try.func7, Try.ntmps7
  go_wp2
  go_ret2
  exact ⟨by simp [doN]; try omega, rfl⟩

set_option maxRecDepth 100000 in
theorem ref9_any (a b : Nat) (ha : a < 4294967296) (hb : b < 4294967296) (w : World) :
    Calls Try.prog 7 #[.int .i64 9, .int .u32 a, .int .u32 b] w (RefPost (doN 9 a b) 0 w) := by
  go_enter Try.func7, Try.ntmps7
  go_wp2_with fail
  go_loop [8, 10] (fun x j => ∃ i : Nat, i ≤ b % 32 ∧ j = .int .u64 i ∧ x = .int .u64 ((a * 2 ^ i % 4294967296 : Nat) : Int)) (fun _ j => b % 32 - (intOf j).toNat)
  case atStart => exact ⟨0, Nat.zero_le _, rfl, int_eq (by simp; omega)⟩
  case round =>
    obtain ⟨i, hi, rfl, rfl⟩ := hrel
    have HS := Lib.hid (shl_step a i)
    have hx : a * 2 ^ i % 4294967296 < 4294967296 := Nat.mod_lt _ (by decide)
    obtain ⟨y, hy⟩ : ∃ y, a * 2 ^ i % 4294967296 = y := ⟨_, rfl⟩
    have HY := Lib.hid hy
    rw [hy] at HS hx ⊢
    clear hy
    by_cases hlt : i < b % 32
    · go_wp2_with fail
      go_round
      case rel => exact ⟨i + 1, by omega, by go_num, int_eq (by rw [← HS.out]; omega)⟩
      case measure => simp [intOf]; omega
    · obtain rfl : i = b % 32 := by omega
      go_wp2_with fail
      go_ret2
      exact ⟨by simp only [doN]; rw [HY.out]; rfl, rfl⟩

set_option maxRecDepth 100000 in
theorem ref10_any (a b : Nat) (ha : a < 4294967296) (hb : b < 4294967296) (w : World) :
    Calls Try.prog 7 #[.int .i64 10, .int .u32 a, .int .u32 b] w (RefPost (doN 10 a b) 0 w) := by
  go_enter Try.func7, Try.ntmps7
  go_wp2_with fail
  go_loop [8, 11] (fun x j => ∃ i : Nat, i ≤ b % 32 ∧ j = .int .u64 i ∧ x = .int .u64 ((a / 2 ^ i : Nat) : Int)) (fun _ j => b % 32 - (intOf j).toNat)
  case atStart => exact ⟨0, Nat.zero_le _, rfl, int_eq (by simp)⟩
  case round =>
    obtain ⟨i, hi, rfl, rfl⟩ := hrel
    have HS := Lib.hid (shr_step a i)
    have hx : a / 2 ^ i < 4294967296 := Nat.lt_of_le_of_lt (Nat.div_le_self _ _) ha
    obtain ⟨y, hy⟩ : ∃ y, a / 2 ^ i = y := ⟨_, rfl⟩
    have HY := Lib.hid hy
    rw [hy] at HS hx ⊢
    clear hy
    by_cases hlt : i < b % 32
    · go_wp2_with fail
      go_round
      case rel => exact ⟨i + 1, by omega, by go_num, int_eq (by rw [← HS.out]; omega)⟩
      case measure => simp [intOf]; omega
    · obtain rfl : i = b % 32 := by omega
      go_wp2_with fail
      go_ret2
      exact ⟨by simp only [doN]; rw [HY.out]; rfl, rfl⟩

set_option maxRecDepth 100000 in
theorem ref11_any (a b : Nat) (ha : a < 4294967296) (hb : b < 4294967296) (w : World) :
    Calls Try.prog 7 #[.int .i64 11, .int .u32 a, .int .u32 b] w (RefPost (doN 11 a b) 0 w) := by
  by_cases h : a < b
  · have h' : (a : Int) < b := by omega
    
    go_enter Try.func7, Try.ntmps7
    go_wp2
    go_ret2
    exact ⟨by simp [doN, *], rfl⟩
  · have h' : ¬ (a : Int) < b := by omega
    go_enter Try.func7, Try.ntmps7
    go_wp2
    go_ret2
    exact ⟨by simp [doN, *], rfl⟩

set_option maxRecDepth 100000 in
theorem ref12_any (a b : Nat) (ha : a < 4294967296) (hb : b < 4294967296) (w : World) :
    Calls Try.prog 7 #[.int .i64 12, .int .u32 a, .int .u32 b] w (RefPost (doN 12 a b) 0 w) := by
  by_cases h : a = b
  · have h' : (a : Int) = b := by omega
    subst h
    go_enter Try.func7, Try.ntmps7
    go_wp2
    go_ret2
    exact ⟨by simp [doN, *], rfl⟩
  · have h' : ¬ (a : Int) = b := by omega
    go_enter Try.func7, Try.ntmps7
    go_wp2
    go_ret2
    exact ⟨by simp [doN, *], rfl⟩
end Go.Proofs.Ytooocgnjefbnkaa
