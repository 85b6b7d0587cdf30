/- Contracts of Number, the program's and the document's. -/
import Derived.Test.YtddpeebfmemcfaaDoorApp
namespace Go.Proofs.YtddpeebfmemcfaaDoor
open Go.RowKit

theorem number_fin {w wr w1 : World} {v : Value} {pre : List UInt8} {m n : Nat} (hp : pre ++ numB m = numB n) (hm : m < 128) (ho : OwnB w1 w.heap.size v (pre ++ [UInt8.ofNat m])) (h1 : Below w.heap.size w wr) (h2 : Below w.heap.size wr w1) :
    GivesB (numB n) (fun v => v) w (.returned v) w1 := by
  rw [← hp, numB_lt hm]
  exact ⟨v, rfl, ho, h1.trans h2⟩
theorem number_step {pre : List UInt8} {m n : Nat} (hp : pre ++ numB m = numB n) (hm : ¬ m < 128) : (pre ++ [UInt8.ofNat (m % 128 + 128)]) ++ numB (m / 128) = numB n := by
  rw [← hp, numB_ge hm, List.append_assoc, List.singleton_append]
theorem number_room {pre : List UInt8} {m n : Nat} (hp : pre ++ numB m = numB n) (hl : (numB n).length ≤ 10) : pre.length + 1 ≤ 10 := by
  have h2 := numB_pos m
  rw [← hp, List.length_append] at hl
  omega

set_option maxRecDepth 100000 in
set_option maxHeartbeats 2000000 in
theorem number_new (n : Nat) (hn : U64 n) (w : World) :
    Calls Tryd.prog 14 #[.int .u64 n] w (GivesB (numB n) (fun v => v) w) := by
  obtain ⟨i0, hi, hz0, hz1, hz2⟩ := info_parts info8
  have HL := Lib.hid (numB_length10 hn)
  clear hn
  go_enter Tryd.func14, Tryd.ntmps14
  go_wp2
  go_loopw [0, 3] (fun a b wr => ∃ (m : Nat) (pre : List UInt8), a = .int .u64 m ∧ pre ++ numB m = numB n ∧ OwnB wr w.heap.size b pre ∧ Below w.heap.size w wr) (fun a _ _ => (intOf a).toNat)
  case atStart => exact ⟨n, [], rfl, rfl, OwnB.nil _ _, Below.refl _ _⟩
  case round =>
    obtain ⟨m, pre, rfl, hpre, hown, hb⟩ := hrel
    have ho := or128 m
    have hplen := number_room hpre HL.out
    have HP := Lib.hid hpre; clear hpre
    have HB := Lib.hid hb; clear hb
    have HO := Lib.hid hown; clear hown
    have hsz : w.heap.size ≤ wr.heap.size := HB.out.size
    by_cases hlt : m < 128
    · go_wp2_with (at_builtin; refine wp_append1 rfl _ _ rfl w.heap.size _ pre m rfl (by exact HO.out) (UInt8.ofNat m) (byte_of (by omega)) rfl (by omega) hsz ?_; intro v' w1 hown' hgrow; have HO1 := Lib.hid hown'; clear hown'; have HG := Lib.hid hgrow; clear hgrow)
      go_ret
      exact number_fin HP.out hlt HO1.out HB.out HG.out
    · go_wp2_with (at_builtin; refine wp_append1 rfl _ _ rfl w.heap.size _ pre ((m % 128 + 128 : Nat) : Int) rfl (by exact HO.out) (UInt8.ofNat (m % 128 + 128)) (byte_of (by omega)) rfl (by omega) hsz ?_; intro v' w1 hown' hgrow; have HO1 := Lib.hid hown'; clear hown'; have HG := Lib.hid hgrow; clear hgrow)
      go_roundw
      case rel => exact ⟨m / 128, _, by go_num, number_step HP.out hlt, HO1.out, HB.out.trans HG.out⟩
      case measure => simp [intOf]; omega

theorem lit1 (w : World) (z : Int) (b : UInt8) (hz : z = b.toNat) : OwnB (w.alloc (.cells #[.int .u8 z] 5)) w.heap.size (.slice (some ⟨w.heap.size, 0, none⟩) 1 1) [b] := by
  subst hz
  exact OwnB.lit w [b] (by simp [maxLen])
theorem below_alloc (w : World) (o : Obj) : Below w.heap.size w (w.alloc o) := (Below.refl _ _).alloc (Nat.le_refl _) _

set_option maxRecDepth 100000 in
set_option maxHeartbeats 400000 in
theorem refNumber_k : ∀ (k n : Nat), n < 128 ^ (k + 1) → k ≤ 9 → U64 n → ∀ (w : World),
    Calls Tryd.prog 17 #[.int .u64 n] w (GivesB (numB n) (fun v => v) w) := by
  intro k
  induction k with
  | zero =>
    intro n hn hk hu w
    have hlt : n < 128 := by simpa using hn
    have HL := Lib.hid (lit1 w n (UInt8.ofNat n) (byte_of (by omega)))
    have HB := Lib.hid (below_alloc w (.cells #[.int .u8 n] 5))
    clear hn hu
    go_enter Tryd.func17, Tryd.ntmps17
    go_wp2
    go_ret
    rw [numB_lt hlt]
    exact ⟨.slice (some ⟨w.heap.size, 0, none⟩) 1 1, rfl, HL.out, HB.out⟩
  | succ k ih =>
    intro n hn hk hu w
    by_cases hlt : n < 128
    · have HL := Lib.hid (lit1 w n (UInt8.ofNat n) (byte_of (by omega)))
      have HB := Lib.hid (below_alloc w (.cells #[.int .u8 n] 5))
      clear hn ih hu
      go_enter Tryd.func17, Tryd.ntmps17
      go_wp2
      go_ret
      rw [numB_lt hlt]
      exact ⟨.slice (some ⟨w.heap.size, 0, none⟩) 1 1, rfl, HL.out, HB.out⟩
    · have hd : n / 128 < 128 ^ (k + 1) := by rw [Nat.div_lt_iff_lt_mul (by decide)]; rwa [Nat.pow_succ] at hn
      have hlen := numB_length k (n / 128) hd
      have hN := ih (n / 128) hd (by omega) (by unfold U64 at *; omega)
      rw [show ((n / 128 : Nat) : Int) = (n : Int) / 128 from rfl] at hN
      have HN := Lib.hid hN; clear hN
      have HL := Lib.hid (lit1 w ((n : Int) % 128 + 128) (UInt8.ofNat (n % 128 + 128)) (by rw [← byte_of (by omega)]; omega))
      have HB := Lib.hid (below_alloc w (.cells #[.int .u8 ((n : Int) % 128 + 128)] 5))
      have hwr : IntKind.u64.wrap ((n : Int) / 128) = (n : Int) / 128 := u64_in (a := n / 128) (by unfold U64 at hu; omega)
      clear ih hn hd hu
      go_enter Tryd.func17, Tryd.ntmps17
      go_wp2_with (first
        | (go_at_call 17; refine (HN.out _).mono ?_; rintro e w1 ⟨v1, rfl, ho1, hb1⟩; obtain ⟨g, cap, rfl, hg1, hg2⟩ := OwnB.form ho1 (List.length_pos_iff.1 (numB_pos _)); have HO1 := Lib.hid ho1; clear ho1; have HB1 := Lib.hid hb1; clear hb1)
        | (at_builtin; go_must (refine wp_append rfl _ _ rfl w.heap.size _ [UInt8.ofNat (n % 128 + 128)] rfl (by exact HL.out.below HB1.out (by intro g2 h2; simp [Value.ownBlock] at h2; simp; omega)) ⟨g, 0, none⟩ _ (numB (n / 128)) rfl (by exact HO1.out.bytes.news.2) (by simp; omega) (by simp at hg1; omega) ?_); intro v' w2 hown' hgrow; have HO2 := Lib.hid hown'; clear hown'; have HG := Lib.hid hgrow; clear hgrow))
      go_ret
      rw [numB_ge hlt]
      have hall : Below w.heap.size w w2 := Below.trans (Below.trans HB.out (HB1.out.mono (by simp))) HG.out
      exact ⟨v', rfl, HO2.out, hall⟩
theorem refNumber_any (n : Nat) (hn : U64 n) (w : World) : Calls Tryd.prog 17 #[.int .u64 n] w (GivesB (numB n) (fun v => v) w) :=
  refNumber_k 9 n (by
    have : (128 : Nat) ^ (9 + 1) = 1180591620717411303424 := by decide
    unfold U64 at hn
    omega) (by omega) hn w
end Go.Proofs.YtddpeebfmemcfaaDoor
