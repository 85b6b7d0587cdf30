/- The contract of the document's ReadNumber. -/
import Derived.Test.YtddpeebfmemcfaaDoorW8
import Derived.Test.YtddpeebfmemcfaaDoorW4
namespace Go.Proofs.YtddpeebfmemcfaaDoor
open Go.RowKit

theorem mul_step (a k p : Nat) (x : UInt8) (hk : k ≤ 9) (ha : a < 128 ^ k) (hp : p = 128 ^ k) (h9 : k = 9 → x.toNat ≤ 1) :
    IntKind.u64.wrap ((a : Int) + IntKind.u64.wrap ((x.toNat : Int) % 128 * (p : Int))) = ((a + x.toNat % 128 * 128 ^ k : Nat) : Int) := by
  subst hp
  have hb : x.toNat % 128 * 128 ^ k + 128 ^ k ≤ 18446744073709551616 := by
    rcases Nat.lt_or_ge k 9 with h | h
    · have h1 : 128 ^ (k + 1) ≤ 128 ^ 9 := Nat.pow_le_pow_right (by decide) (by omega)
      have h2 : (128 : Nat) ^ 9 = 9223372036854775808 := by decide
      have h3 : x.toNat % 128 * 128 ^ k + 128 ^ k ≤ 128 ^ (k + 1) := by
        rw [Nat.pow_succ, Nat.mul_comm (128 ^ k) 128, ← Nat.succ_mul]
        exact Nat.mul_le_mul_right _ (by omega)
      omega
    · obtain rfl : k = 9 := by omega
      have h2 : (128 : Nat) ^ 9 = 9223372036854775808 := by decide
      have := h9 rfl
      rw [h2]; omega
  have e : ((x.toNat : Int) % 128 * ((128 ^ k : Nat) : Int)) = ((x.toNat % 128 * 128 ^ k : Nat) : Int) := by
    rw [Int.natCast_mul, Int.natCast_emod]; rfl
  rw [e, u64_in (by omega), ← Int.natCast_add, u64_in (by omega)]
theorem mul_end (a k p : Nat) (x : UInt8) (hk : k ≤ 9) (ha : a < 128 ^ k) (hp : p = 128 ^ k) (h9 : k = 9 → x.toNat ≤ 1) (hx : x.toNat < 128) :
    IntKind.u64.wrap ((a : Int) + IntKind.u64.wrap ((x.toNat : Int) % 128 * (p : Int))) = ((a + x.toNat * 128 ^ k : Nat) : Int) := by
  rw [mul_step a k p x hk ha hp h9, Nat.mod_eq_of_lt hx]
theorem place_step (k p : Nat) (hk : k < 9) (hp : p = 128 ^ k) : IntKind.u64.wrap ((p : Int) * 128) = ((p * 128 : Nat) : Int) := by
  subst hp
  have h1 : 128 ^ (k + 1) ≤ 128 ^ 9 := Nat.pow_le_pow_right (by decide) (by omega)
  have h2 : (128 : Nat) ^ 9 = 9223372036854775808 := by decide
  rw [Nat.pow_succ] at h1
  rw [show ((128 ^ k : Nat) : Int) * 128 = ((128 ^ k * 128 : Nat) : Int) by omega, u64_in (by omega)]

def RdPost (l : List UInt8) (w : World) (e : Ending) (w' : World) : Prop :=
  e = .returned (.tuple #[.int .u64 ((rdN l).1 : Nat), .int .i64 ((rdN l).2.1 : Nat), .int .i64 (rdN l).2.2]) ∧ w = w'
theorem rd_bad {k acc : Nat} {l : List UInt8} {x : UInt8} {w : World} (hD : rdF k acc (l.drop k) = rdN l) (hX : l.drop k = x :: l.drop (k + 1))
    (h : (0 < k ∧ x.toNat = 0) ∨ (k = 9 ∧ 1 < x.toNat)) : RdPost l w (.returned (.tuple #[.int .u64 0, .int .i64 0, .int .i64 111])) w := by
  have e : rdN l = (0, 0, 111) := by rw [← hD, hX, rdF_bad h]
  exact ⟨by rw [e]; rfl, rfl⟩
theorem rd_end {k acc : Nat} {l : List UInt8} {x : UInt8} {w : World} {val m : Int} (hD : rdF k acc (l.drop k) = rdN l) (hX : l.drop k = x :: l.drop (k + 1))
    (h : ¬ ((0 < k ∧ x.toNat = 0) ∨ (k = 9 ∧ 1 < x.toNat))) (hx : x.toNat < 128) (hv : val = ((acc + x.toNat * 128 ^ k : Nat) : Int)) (hm : m = (k : Int) + 1) :
    RdPost l w (.returned (.tuple #[.int .u64 val, .int .i64 m, .int .i64 0])) w := by
  have e : rdN l = (acc + x.toNat * 128 ^ k, k + 1, 0) := by rw [← hD, hX, rdF_end h hx]
  exact ⟨by rw [e, hv, hm]; rfl, rfl⟩
theorem rd_none {k acc : Nat} {l : List UInt8} {w : World} (hD : rdF k acc (l.drop k) = rdN l) (hX : l.length ≤ k) : RdPost l w (.returned (.tuple #[.int .u64 0, .int .i64 0, .int .i64 110])) w := by
  have e : rdN l = (0, 0, 110) := by rw [← hD, List.drop_eq_nil_of_le hX]; rfl
  exact ⟨by rw [e]; rfl, rfl⟩

set_option maxRecDepth 100000 in
set_option maxHeartbeats 4000000 in
theorem refReadNumber_any {n0 : Nat} (v : Value) (l : List UInt8) (w : World) (hv : Bytes n0 w v l) :
    Calls Tryd.prog 16 #[v] w (RdPost l w) := by
  obtain ⟨ao, cap, rfl, h1, h2, h3⟩ := hv
  have HH := Lib.hid h3; clear h3
  unfold maxLen at h2
  go_enter Tryd.func16, Tryd.ntmps16
  go_wp2
  go_loop [5, 6, 7] (fun a q i => ∃ k acc p : Nat, k ≤ 9 ∧ k ≤ l.length ∧ i = .int .i64 k ∧ a = .int .u64 acc ∧ q = .int .u64 p ∧ p = 128 ^ k ∧ acc < 128 ^ k ∧ rdF k acc (l.drop k) = rdN l) (fun _ _ i => 9 - (intOf i).toNat)
  case atStart => exact ⟨0, 0, 1, by omega, by omega, rfl, rfl, rfl, rfl, by simp, rfl⟩
  case round =>
    obtain ⟨k, acc, p, hk, hkl, rfl, rfl, rfl, hp, hacc, hrd⟩ := hrel
    have HD := Lib.hid hrd; clear hrd
    have HP := Lib.hid hp; clear hp
    have HA := Lib.hid hacc; clear hacc
    by_cases hlt : k < l.length
    · obtain ⟨b, off, rfl, _, hc⟩ := HH.out (by rintro rfl; simp at hlt)
      obtain ⟨x, hx⟩ : ∃ x, l.getD k 0 = x := ⟨_, rfl⟩
      have hcell : w.cell? ⟨b, off + k, none⟩ = some (.int .u8 x.toNat) := by have := hc k hlt; rwa [hx] at this
      clear hc
      have hdr := drop_at hlt
      rw [hx] at hdr
      have HX := Lib.hid hdr; clear hdr hx
      have hx8 : x.toNat < 256 := x.toNat_lt
      have cases7 : (0 < k ∧ x.toNat ≤ 0) ∨ (9 ≤ k ∧ 1 < x.toNat) ∨ (k ≤ 0 ∧ x.toNat < 128) ∨ (k ≤ 0 ∧ 128 ≤ x.toNat) ∨ (0 < k ∧ k < 9 ∧ 0 < x.toNat ∧ x.toNat < 128) ∨ (0 < k ∧ k < 9 ∧ 128 ≤ x.toNat) ∨ (9 ≤ k ∧ 0 < x.toNat ∧ x.toNat ≤ 1) := by omega
      rcases cases7 with ⟨a1, a2⟩ | ⟨a1, a2⟩ | ⟨a1, a2⟩ | ⟨a1, a2⟩ | ⟨a1, a2, a3, a4⟩ | ⟨a1, a2, a3⟩ | ⟨a1, a2, a3⟩
      · go_wp2
        go_ret3
        exact rd_bad HD.out HX.out (.inl ⟨a1, by omega⟩)
      · obtain rfl : k = 9 := by omega
        go_wp2
        go_ret3
        exact rd_bad HD.out HX.out (.inr ⟨rfl, a2⟩)
      · go_wp2
        go_ret3
        exact rd_end HD.out HX.out (by omega) a2 (mul_end _ _ _ _ hk HA.out HP.out (by omega) a2) rfl
      · go_wp2
        go_round
        case rel => exact ⟨k + 1, _, _, by omega, by omega, by go_num, int_eq (mul_step _ _ _ _ hk HA.out HP.out (by omega)), int_eq (place_step k p (by omega) HP.out), by rw [Nat.pow_succ, HP.out], acc_on HA.out, num_on HD.out HX.out (by omega) (by omega)⟩
        case measure => simp [intOf]; omega
      · go_wp2
        go_ret3
        exact rd_end HD.out HX.out (by omega) a4 (mul_end _ _ _ _ hk HA.out HP.out (by omega) a4) rfl
      · go_wp2
        go_round
        case rel => exact ⟨k + 1, _, _, by omega, by omega, by go_num, int_eq (mul_step _ _ _ _ hk HA.out HP.out (by omega)), int_eq (place_step k p (by omega) HP.out), by rw [Nat.pow_succ, HP.out], acc_on HA.out, num_on HD.out HX.out (by omega) (by omega)⟩
        case measure => simp [intOf]; omega
      · obtain rfl : k = 9 := by omega
        go_wp2
        · exfalso
          have hor : (((x.toNat : Int) == 0) = true ∨ (1 : Int) < (x.toNat : Int)) := by assumption
          rcases hor with h1 | h1
          · rw [beq_iff_eq] at h1; omega
          · omega
        · go_ret3
          exact rd_end HD.out HX.out (by omega) (by omega) (mul_end _ _ _ _ hk HA.out HP.out (fun _ => a3) (by omega)) rfl
    · go_wp2
      go_ret3
      exact rd_none HD.out (by omega)
end Go.Proofs.YtddpeebfmemcfaaDoor
