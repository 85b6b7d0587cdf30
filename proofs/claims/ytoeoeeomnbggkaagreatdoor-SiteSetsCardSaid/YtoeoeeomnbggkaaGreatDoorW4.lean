/- Contracts of the reader's numbers. -/
import Derived.Test.YtoeoeeomnbggkaaGreatDoorW3
namespace Go.Proofs.YtoeoeeomnbggkaaGreatDoor
open Go.RowKit

theorem one_byte {n : Nat} {w : World} {v : Value} {x : UInt8} (h : Bytes n w v [x]) : ∃ b off cap, v = .slice (some ⟨b, off, none⟩) 1 cap ∧ w.cell? ⟨b, off, none⟩ = some (.int .u8 x.toNat) := by
  obtain ⟨ao, cap, rfl, h1, h2, h3⟩ := h
  obtain ⟨b, off, rfl, _, hc⟩ := h3 (by simp)
  exact ⟨b, off, cap, rfl, hc 0 (by simp)⟩

theorem rdF_bad {k acc : Nat} {b : UInt8} {r : List UInt8} (h : (0 < k ∧ b.toNat = 0) ∨ (k = 9 ∧ 1 < b.toNat)) : rdF k acc (b :: r) = (0, 0, 111) := by rw [rdF, if_pos h]
theorem rdF_end {k acc : Nat} {b : UInt8} {r : List UInt8} (h : ¬ ((0 < k ∧ b.toNat = 0) ∨ (k = 9 ∧ 1 < b.toNat))) (h2 : b.toNat < 128) : rdF k acc (b :: r) = (acc + b.toNat * 128 ^ k, k + 1, 0) := by rw [rdF, if_neg h, if_pos h2]
theorem rdF_on {k acc : Nat} {b : UInt8} {r : List UInt8} (h : ¬ ((0 < k ∧ b.toNat = 0) ∨ (k = 9 ∧ 1 < b.toNat))) (h2 : ¬ b.toNat < 128) : rdF k acc (b :: r) = rdF (k + 1) (acc + b.toNat % 128 * 128 ^ k) r := by rw [rdF, if_neg h, if_neg h2]
theorem drop_at {l : List UInt8} {k : Nat} (h : k < l.length) : l.drop k = l.getD k 0 :: l.drop (k + 1) := by
  rw [List.drop_eq_getElem_cons h]; simp [h]

/-- What the reader's 'number' leaves. -/
def NumPost (n br : Nat) (v : Value) (wd : Int) (l : List UInt8) (w : World) (e : Ending) (w' : World) : Prop :=
  e = .returned (.tuple #[.int .u64 ((rdN l).1 : Nat), .int .i64 (rdN l).2.2]) ∧ (∃ i, Rd w' br v i wd ∧ ((rdN l).2.2 = 0 → i = (rdN l).2.1) ∧ i ≤ l.length) ∧ Below n w w'

theorem num_close_bad {n br k acc i : Nat} {v : Value} {wd : Int} {l : List UInt8} {x : UInt8} {w w1 w2 : World} (hD : rdF k acc (l.drop k) = rdN l) (hX : l.drop k = x :: l.drop (k + 1))
    (h : (0 < k ∧ x.toNat = 0) ∨ (k = 9 ∧ 1 < x.toNat)) (hr : Rd w2 br v i wd) (hi : i ≤ l.length) (h1 : Below n w w1) (h2 : Below n w1 w2) :
    NumPost n br v wd l w (.returned (.tuple #[.int .u64 0, .int .i64 111])) w2 := by
  have e : rdN l = (0, 0, 111) := by rw [← hD, hX, rdF_bad h]
  refine ⟨by rw [e]; rfl, ⟨i, hr, fun h0 => ?_, hi⟩, h1.trans h2⟩
  rw [e] at h0; simp at h0
theorem num_close_end {n br k acc : Nat} {v : Value} {wd : Int} {l : List UInt8} {x : UInt8} {w w1 w2 : World} {val : Int} (hD : rdF k acc (l.drop k) = rdN l) (hX : l.drop k = x :: l.drop (k + 1))
    (h : ¬ ((0 < k ∧ x.toNat = 0) ∨ (k = 9 ∧ 1 < x.toNat))) (hx : x.toNat < 128) (hv : val = ((acc + x.toNat * 128 ^ k : Nat) : Int)) (hr : Rd w2 br v (k + 1) wd) (hi : k < l.length) (h1 : Below n w w1) (h2 : Below n w1 w2) :
    NumPost n br v wd l w (.returned (.tuple #[.int .u64 val, .int .i64 0])) w2 := by
  have e : rdN l = (acc + x.toNat * 128 ^ k, k + 1, 0) := by rw [← hD, hX, rdF_end h hx]
  refine ⟨by rw [e, hv], ⟨k + 1, hr, fun _ => by rw [e], by omega⟩, h1.trans h2⟩
theorem num_close_none {n br k acc i : Nat} {v : Value} {wd : Int} {l : List UInt8} {w w1 w2 : World} (hD : rdF k acc (l.drop k) = rdN l) (hX : l.length ≤ k)
    (hr : Rd w2 br v i wd) (hi : i ≤ l.length) (h1 : Below n w w1) (h2 : Below n w1 w2) :
    NumPost n br v wd l w (.returned (.tuple #[.int .u64 0, .int .i64 110])) w2 := by
  have e : rdN l = (0, 0, 110) := by rw [← hD, List.drop_eq_nil_of_le hX]; rfl
  refine ⟨by rw [e]; rfl, ⟨i, hr, fun h0 => ?_, hi⟩, h1.trans h2⟩
  rw [e] at h0; simp at h0
theorem num_on {k acc : Nat} {l : List UInt8} {x : UInt8} (hD : rdF k acc (l.drop k) = rdN l) (hX : l.drop k = x :: l.drop (k + 1))
    (h : ¬ ((0 < k ∧ x.toNat = 0) ∨ (k = 9 ∧ 1 < x.toNat))) (hx : ¬ x.toNat < 128) : rdF (k + 1) (acc + x.toNat % 128 * 128 ^ k) (l.drop (k + 1)) = rdN l := by
  rw [← hD, hX, rdF_on h hx]
theorem acc_on {k acc x : Nat} (ha : acc < 128 ^ k) : acc + x % 128 * 128 ^ k < 128 ^ (k + 1) := by
  rw [Nat.pow_succ]
  have : x % 128 * 128 ^ k ≤ 127 * 128 ^ k := Nat.mul_le_mul_right _ (by omega)
  omega
theorem or_mod (a k : Nat) (x : UInt8) (hk : k ≤ 9) (ha : a < 128 ^ k) (h9 : k = 9 → x.toNat ≤ 1) :
    bits .or .u64 (a : Int) (IntKind.u64.wrap ((x.toNat : Int) % 128 * 2 ^ (7 * k))) = ((a + x.toNat % 128 * 128 ^ k : Nat) : Int) := by
  have := or_shl7 a (x.toNat % 128) k hk ha (by omega) (by omega)
  rwa [Int.natCast_emod] at this
theorem or_end (a k : Nat) (x : UInt8) (hk : k ≤ 9) (ha : a < 128 ^ k) (h9 : k = 9 → x.toNat ≤ 1) (hx : x.toNat < 128) :
    bits .or .u64 (a : Int) (IntKind.u64.wrap ((x.toNat : Int) % 128 * 2 ^ (7 * k))) = ((a + x.toNat * 128 ^ k : Nat) : Int) := by
  rw [or_mod a k x hk ha h9, Nat.mod_eq_of_lt hx]
theorem or_nine (a : Nat) (x : UInt8) (ha : a < 128 ^ 9) (hx : x.toNat ≤ 1) :
    bits .or .u64 (a : Int) ((x.toNat : Int) % 128 * 9223372036854775808) = ((a + x.toNat * 128 ^ 9 : Nat) : Int) := by
  have h := or_end a 9 x (by omega) ha (fun _ => hx) (by omega)
  have e : (2 : Int) ^ (7 * 9) = 9223372036854775808 := by decide
  rw [e] at h
  rwa [IntKind.wrap_u64, Int.emod_eq_of_lt (by omega) (by omega)] at h

end Go.Proofs.YtoeoeeomnbggkaaGreatDoor
