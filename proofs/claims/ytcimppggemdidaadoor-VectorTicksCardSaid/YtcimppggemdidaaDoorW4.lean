/- Contracts of the reader's numbers. -/
import Derived.Test.YtcimppggemdidaaDoorW3
namespace Go.Proofs.YtcimppggemdidaaDoor
open Go.RowKit

theorem one_byte {n : Nat} {w : World} {v : Value} {x : UInt8} (h : Bytes n w v [x]) : ∃ b off cap, v = .slice (some ⟨b, off, none⟩) 1 cap ∧ w.cell? ⟨b, off, none⟩ = some (.int .u8 x.toNat) := by
  obtain ⟨ao, cap, rfl, h1, h2, h3⟩ := h
  obtain ⟨b, off, rfl, _, hc⟩ := h3 (by simp)
  exact ⟨b, off, cap, rfl, hc 0 (by simp)⟩

theorem rdF_bad {k acc : Nat} {b : UInt8} {r : List UInt8} (h : (0 < k ∧ b.toNat = 0) ∨ (k = 9 ∧ 1 < b.toNat)) : rdF k acc (b :: r) = (0, 0, 111) := by rw [rdF, if_pos h]
theorem rdF_end {k acc : Nat} {b : UInt8} {r : List UInt8} (h : ¬ ((0 < k ∧ b.toNat = 0) ∨ (k = 9 ∧ 1 < b.toNat))) (h2 : b.toNat < 128) : rdF k acc (b :: r) = (acc + b.toNat * 128 ^ k, k + 1, 0) := by rw [rdF, if_neg h, if_pos h2]
theorem rdF_on {k acc : Nat} {b : UInt8} {r : List UInt8} (h : ¬ ((0 < k ∧ b.toNat = 0) ∨ (k = 9 ∧ 1 < b.toNat))) (h2 : ¬ b.toNat < 128) : rdF k acc (b :: r) = rdF (k + 1) (acc + b.toNat % 128 * 128 ^ k) r := by rw [rdF, if_neg h, if_neg h2]
theorem drop_at {l : List UInt8} {k : Nat} (h : k < l.length) : l.drop k = l.getD k 0 :: l.drop (k + 1) := by
  rw [List.drop_eq_getElem_cons h]; simp [h]

/-- What the reader's 'number' leaves. -/
def NumPost (n br : Nat) (v : Value) (wd : Int) (l : List UInt8) (w : World) (e : Ending) (w' : World) : Prop :=
  e = .returned (.tuple #[.int .u64 ((rdN l).1 : Nat), .int .i64 (rdN l).2.2]) ∧ (∃ i, Rd w' br v i wd ∧ ((rdN l).2.2 = 0 → i = (rdN l).2.1) ∧ i ≤ l.length) ∧ Below n w w'

theorem num_close_bad {n br k acc i : Nat} {v : Value} {wd : Int} {l : List UInt8} {x : UInt8} {w w1 w2 : World} (hD : rdF k acc (l.drop k) = rdN l) (hX : l.drop k = x :: l.drop (k + 1))
    (h : (0 < k ∧ x.toNat = 0) ∨ (k = 9 ∧ 1 < x.toNat)) (hr : Rd w2 br v i wd) (hi : i ≤ l.length) (h1 : Below n w w1) (h2 : Below n w1 w2) :
    NumPost n br v wd l w (.returned (.tuple #[.int .u64 0, .int .i64 111])) w2 := by
  have e : rdN l = (0, 0, 111) := by rw [← hD, hX, rdF_bad h]
  refine ⟨by rw [e]; rfl, ⟨i, hr, fun h0 => ?_, hi⟩, h1.trans h2⟩
  rw [e] at h0; simp at h0
theorem num_close_end {n br k acc : Nat} {v : Value} {wd : Int} {l : List UInt8} {x : UInt8} {w w1 w2 : World} {val : Int} (hD : rdF k acc (l.drop k) = rdN l) (hX : l.drop k = x :: l.drop (k + 1))
    (h : ¬ ((0 < k ∧ x.toNat = 0) ∨ (k = 9 ∧ 1 < x.toNat))) (hx : x.toNat < 128) (hv : val = ((acc + x.toNat * 128 ^ k : Nat) : Int)) (hr : Rd w2 br v (k + 1) wd) (hi : k < l.length) (h1 : Below n w w1) (h2 : Below n w1 w2) :
    NumPost n br v wd l w (.returned (.tuple #[.int .u64 val, .int .i64 0])) w2 := by
  have e : rdN l = (acc + x.toNat * 128 ^ k, k + 1, 0) := by rw [← hD, hX, rdF_end h hx]
  refine ⟨by rw [e, hv], ⟨k + 1, hr, fun _ => by rw [e], by omega⟩, h1.trans h2⟩
theorem num_close_none {n br k acc i : Nat} {v : Value} {wd : Int} {l : List UInt8} {w w1 w2 : World} (hD : rdF k acc (l.drop k) = rdN l) (hX : l.length ≤ k)
    (hr : Rd w2 br v i wd) (hi : i ≤ l.length) (h1 : Below n w w1) (h2 : Below n w1 w2) :
    NumPost n br v wd l w (.returned (.tuple #[.int .u64 0, .int .i64 110])) w2 := by
  have e : rdN l = (0, 0, 110) := by rw [← hD, List.drop_eq_nil_of_le hX]; rfl
  refine ⟨by rw [e]; rfl, ⟨i, hr, fun h0 => ?_, hi⟩, h1.trans h2⟩
  rw [e] at h0; simp at h0
theorem num_on {k acc : Nat} {l : List UInt8} {x : UInt8} (hD : rdF k acc (l.drop k) = rdN l) (hX : l.drop k = x :: l.drop (k + 1))
    (h : ¬ ((0 < k ∧ x.toNat = 0) ∨ (k = 9 ∧ 1 < x.toNat))) (hx : ¬ x.toNat < 128) : rdF (k + 1) (acc + x.toNat % 128 * 128 ^ k) (l.drop (k + 1)) = rdN l := by
  rw [← hD, hX, rdF_on h hx]
theorem acc_on {k acc x : Nat} (ha : acc < 128 ^ k) : acc + x % 128 * 128 ^ k < 128 ^ (k + 1) := by
  rw [Nat.pow_succ]
  have : x % 128 * 128 ^ k ≤ 127 * 128 ^ k := Nat.mul_le_mul_right _ (by omega)
  omega
theorem or_mod (a k : Nat) (x : UInt8) (hk : k ≤ 9) (ha : a < 128 ^ k) (h9 : k = 9 → x.toNat ≤ 1) :
    bits .or .u64 (a : Int) (IntKind.u64.wrap ((x.toNat : Int) % 128 * 2 ^ (7 * k))) = ((a + x.toNat % 128 * 128 ^ k : Nat) : Int) := by
  have := or_shl7 a (x.toNat % 128) k hk ha (by omega) (by omega)
  rwa [Int.natCast_emod] at this
theorem or_end (a k : Nat) (x : UInt8) (hk : k ≤ 9) (ha : a < 128 ^ k) (h9 : k = 9 → x.toNat ≤ 1) (hx : x.toNat < 128) :
    bits .or .u64 (a : Int) (IntKind.u64.wrap ((x.toNat : Int) % 128 * 2 ^ (7 * k))) = ((a + x.toNat * 128 ^ k : Nat) : Int) := by
  rw [or_mod a k x hk ha h9, Nat.mod_eq_of_lt hx]
theorem or_nine (a : Nat) (x : UInt8) (ha : a < 128 ^ 9) (hx : x.toNat ≤ 1) :
    bits .or .u64 (a : Int) ((x.toNat : Int) % 128 * 9223372036854775808) = ((a + x.toNat * 128 ^ 9 : Nat) : Int) := by
  have h := or_end a 9 x (by omega) ha (fun _ => hx) (by omega)
  have e : (2 : Int) ^ (7 * 9) = 9223372036854775808 := by decide
  rw [e] at h
  rwa [IntKind.wrap_u64, Int.emod_eq_of_lt (by omega) (by omega)] at h

set_option maxRecDepth 100000 in
set_option maxHeartbeats 4000000 in
theorem number_any (n br : Nat) (v : Value) (l : List UInt8) (wd : Int) (w : World) (hn : n ≤ br) (hv : Bytes n w v l) (hr : Rd w br v 0 wd) :
    Calls Tryd.prog 86 #[.pointer (some ⟨br, 0, none⟩)] w (NumPost n br v wd l w) := by
  have HV := Lib.hid hv; clear hv
  have HR := Lib.hid hr; clear hr
  go_enter Tryd.func86, Tryd.ntmps86
  go_wp2
  go_loopw [4, 5] (fun a i wr => ∃ k acc : Nat, k ≤ 9 ∧ k ≤ l.length ∧ i = .int .i64 k ∧ a = .int .u64 acc ∧ acc < 128 ^ k ∧ rdF k acc (l.drop k) = rdN l ∧ Rd wr br v k wd ∧ Below n w wr) (fun _ i _ => 9 - (intOf i).toNat)
  case atStart => exact ⟨0, 0, by omega, by omega, rfl, rfl, by simp, rfl, HR.out, Below.refl _ _⟩
  case round =>
    obtain ⟨k, acc, hk, hkl, rfl, rfl, hacc, hrd, hR, hB⟩ := hrel
    have HV2 := Lib.hid (HV.out.below hB)
    have HB := Lib.hid hB; clear hB
    have HR2 := Lib.hid hR; clear hR
    have HD := Lib.hid hrd; clear hrd
    by_cases hlt : k < l.length
    · have HT := Lib.hid (take_yes n br v l k 1 wd wr hn HV2.out HR2.out (by omega))
      obtain ⟨x, hx⟩ : ∃ x, l.getD k 0 = x := ⟨_, rfl⟩
      have hdr := drop_at hlt
      rw [hx] at hdr
      have HX := Lib.hid hdr; clear hdr hx
      have hx8 : x.toNat < 256 := x.toNat_lt
      have HA := Lib.hid hacc; clear hacc
      have cases7 : (0 < k ∧ x.toNat ≤ 0) ∨ (9 ≤ k ∧ 1 < x.toNat) ∨ (k ≤ 0 ∧ x.toNat < 128) ∨ (k ≤ 0 ∧ 128 ≤ x.toNat) ∨ (0 < k ∧ k < 9 ∧ 0 < x.toNat ∧ x.toNat < 128) ∨ (0 < k ∧ k < 9 ∧ 128 ≤ x.toNat) ∨ (9 ≤ k ∧ 0 < x.toNat ∧ x.toNat ≤ 1) := by omega
      rcases cases7 with ⟨a1, a2⟩ | ⟨a1, a2⟩ | ⟨a1, a2⟩ | ⟨a1, a2⟩ | ⟨a1, a2, a3, a4⟩ | ⟨a1, a2, a3⟩ | ⟨a1, a2, a3⟩
      all_goals
        go_wp2_with (go_at_call 104; refine HT.out.mono ?_; rintro e w' ⟨v', rfl, hb1, hr1, hl1⟩; rw [HX.out, List.take_succ_cons, List.take_zero] at hb1; obtain ⟨b1, o1, c1, rfl, hc1⟩ := one_byte hb1; have HR1 := Lib.hid hr1; clear hr1; have HL1 := Lib.hid hl1; clear hl1 hb1)
      · go_ret2
        exact num_close_bad HD.out HX.out (.inl ⟨a1, by omega⟩) HR1.out (by omega) HB.out HL1.out
      · go_ret2
        exact num_close_bad HD.out HX.out (.inr ⟨by omega, a2⟩) HR1.out (by omega) HB.out HL1.out
      · go_ret2
        exact num_close_end HD.out HX.out (by omega) a2 (or_end _ _ _ hk HA.out (by omega) a2) HR1.out hlt HB.out HL1.out
      · go_roundw
        case rel => exact ⟨k + 1, _, by omega, by omega, by go_num, int_eq (or_mod _ _ _ hk HA.out (by omega)), acc_on HA.out, num_on HD.out HX.out (by omega) (by omega), HR1.out, HB.out.trans HL1.out⟩
        case measure => simp [intOf]; omega
      · go_ret2
        exact num_close_end HD.out HX.out (by omega) a4 (or_end _ _ _ hk HA.out (by omega) a4) HR1.out hlt HB.out HL1.out
      · go_roundw
        case rel => exact ⟨k + 1, _, by omega, by omega, by go_num, int_eq (or_mod _ _ _ hk HA.out (by omega)), acc_on HA.out, num_on HD.out HX.out (by omega) (by omega), HR1.out, HB.out.trans HL1.out⟩
        case measure => simp [intOf]; omega
      · exfalso
        have hor : (((x.toNat : Int) == 0) = true ∨ (1 : Int) < (x.toNat : Int)) := by assumption
        rcases hor with h1 | h1
        · rw [beq_iff_eq] at h1; omega
        · omega
      · obtain rfl : k = 9 := by omega
        go_ret2
        exact num_close_end HD.out HX.out (by omega) (by omega) (or_nine _ _ HA.out a3) HR1.out hlt HB.out HL1.out
    · have HT := Lib.hid (take_no n br v l k 1 wd wr HV2.out HR2.out hkl (by omega))
      go_wp2_with (go_at_call 104; refine HT.out.mono ?_; rintro e w' ⟨rfl, q, rfl⟩)
      go_ret2
      have hr' : Rd (wr.drewN q) br v k wd := ⟨HR2.out.c0, HR2.out.c1, HR2.out.c2, HR2.out.f1⟩
      exact num_close_none HD.out (by omega) hr' hkl HB.out ⟨rfl, rfl, rfl, Nat.le_refl _, fun _ _ => rfl⟩
end Go.Proofs.YtcimppggemdidaaDoor
