/- Contracts of Number, the program's and the document's. -/
import Derived.Test.YtcimppggemdidaaDoorApp
namespace Go.Proofs.YtcimppggemdidaaDoor
open Go.RowKit

theorem number_fin {w wr w1 : World} {v : Value} {pre : List UInt8} {m n : Nat} (hp : pre ++ numB m = numB n) (hm : m < 128) (ho : OwnB w1 w.heap.size v (pre ++ [UInt8.ofNat m])) (h1 : Below w.heap.size w wr) (h2 : Below w.heap.size wr w1) :
    GivesB (numB n) (fun v => v) w (.returned v) w1 := by
  rw [← hp, numB_lt hm]
  exact ⟨v, rfl, ho, h1.trans h2⟩
theorem number_step {pre : List UInt8} {m n : Nat} (hp : pre ++ numB m = numB n) (hm : ¬ m < 128) : (pre ++ [UInt8.ofNat (m % 128 + 128)]) ++ numB (m / 128) = numB n := by
  rw [← hp, numB_ge hm, List.append_assoc, List.singleton_append]
theorem number_room {pre : List UInt8} {m n : Nat} (hp : pre ++ numB m = numB n) (hl : (numB n).length ≤ 10) : pre.length + 1 ≤ 10 := by
  have h2 := numB_pos m
  rw [← hp, List.length_append] at hl
  omega

set_option maxRecDepth 100000 in
set_option maxHeartbeats 2000000 in
theorem number_new (n : Nat) (hn : U64 n) (w : World) :
    Calls Tryd.prog 49 #[.int .u64 n] w (GivesB (numB n) (fun v => v) w) := by
  obtain ⟨i0, hi, hz0, hz1, hz2⟩ := info_parts info8
  have HL := Lib.hid (numB_length10 hn)
  clear hn
  go_enter Tryd.func49, Tryd.ntmps49
  go_wp2
  go_loopw [0, 3] (fun a b wr => ∃ (m : Nat) (pre : List UInt8), a = .int .u64 m ∧ pre ++ numB m = numB n ∧ OwnB wr w.heap.size b pre ∧ Below w.heap.size w wr) (fun a _ _ => (intOf a).toNat)
  case atStart => exact ⟨n, [], rfl, rfl, OwnB.nil _ _, Below.refl _ _⟩
  case round =>
    obtain ⟨m, pre, rfl, hpre, hown, hb⟩ := hrel
    have ho := or128 m
    have hplen := number_room hpre HL.out
    have HP := Lib.hid hpre; clear hpre
    have HB := Lib.hid hb; clear hb
    have HO := Lib.hid hown; clear hown
    have hsz : w.heap.size ≤ wr.heap.size := HB.out.size
    by_cases hlt : m < 128
    · go_wp2_with (at_builtin; refine wp_append1 rfl _ _ rfl w.heap.size _ pre m rfl (by exact HO.out) (UInt8.ofNat m) (byte_of (by omega)) rfl (by omega) hsz ?_; intro v' w1 hown' hgrow; have HO1 := Lib.hid hown'; clear hown'; have HG := Lib.hid hgrow; clear hgrow)
      go_ret
      exact number_fin HP.out hlt HO1.out HB.out HG.out
    · go_wp2_with (at_builtin; refine wp_append1 rfl _ _ rfl w.heap.size _ pre ((m % 128 + 128 : Nat) : Int) rfl (by exact HO.out) (UInt8.ofNat (m % 128 + 128)) (byte_of (by omega)) rfl (by omega) hsz ?_; intro v' w1 hown' hgrow; have HO1 := Lib.hid hown'; clear hown'; have HG := Lib.hid hgrow; clear hgrow)
      go_roundw
      case rel => exact ⟨m / 128, _, by go_num, number_step HP.out hlt, HO1.out, HB.out.trans HG.out⟩
      case measure => simp [intOf]; omega

theorem lit1 (w : World) (z : Int) (b : UInt8) (hz : z = b.toNat) : OwnB (w.alloc (.cells #[.int .u8 z] 5)) w.heap.size (.slice (some ⟨w.heap.size, 0, none⟩) 1 1) [b] := by
  subst hz
  exact OwnB.lit w [b] (by simp [maxLen])
theorem below_alloc (w : World) (o : Obj) : Below w.heap.size w (w.alloc o) := (Below.refl _ _).alloc (Nat.le_refl _) _
end Go.Proofs.YtcimppggemdidaaDoor
