/- Contracts of package digest's small functions. -/
import Derived.Laws.BitsAllLaws
import Derived.Test.YtleihmmkonakhaaDoorDMem
import Derived.Test.YtleihmmkonakhaaDoorBits
namespace Go.Proofs.YtleihmmkonakhaaDoor
open Go Go.RowKit

theorem and_one {x : Nat} (h : x < 18446744073709551616) : bits .and .u64 (x : Int) 1 = ((x % 2 : Nat) : Int) := by
  have := u64_and_nat x 1 h (by omega)
  rw [nat_mask1] at this
  exact this
theorem xor_laid {x : Nat} (h : x < 18446744073709551616) : bits .xor .u64 ((x / 2 : Nat) : Int) 14514072000185962306 = (((x / 2) ^^^ 14514072000185962306 : Nat) : Int) :=
  u64_xor_nat (x / 2) 14514072000185962306 (by omega) (by omega)
theorem dn_odd {x : Nat} (h : x % 2 = 1) : dn x = (x / 2) ^^^ 14514072000185962306 := by rw [dn, if_pos h]
theorem dn_even' {x : Nat} (h : ¬ x % 2 = 1) : dn x = x / 2 := by rw [dn, if_neg h]

set_option maxHeartbeats 400000 in
theorem down_any (x : Nat) (hx : U64 x) (w : World) :
    Calls Tryd.prog 56 #[.int .u64 x] w fun e w' => e = .returned (.int .u64 (dn x)) ∧ w = w' := by
  have h1 := and_one hx
  have h2 := xor_laid hx
  have e2 : ((x / 2 : Nat) : Int) = (x : Int) / 2 := by omega
  rw [e2] at h2
  by_cases h : x % 2 = 1
  · have h3 : (((x % 2 : Nat) : Int) == 1) = true := by rw [h]; rfl
    rw [dn_odd h]
    clear h e2 hx
    obtain ⟨y, hy⟩ : ∃ y : Nat, y = (x / 2) ^^^ 14514072000185962306 := ⟨_, rfl⟩
    rw [← hy] at h2 ⊢
    clear hy
    obtain ⟨z, hz⟩ : ∃ z : Nat, z = x % 2 := ⟨_, rfl⟩
    rw [← hz] at h1 h3
    clear hz
    go_enter Tryd.func56, Tryd.ntmps56
    go_wp2
    go_ret
    exact ⟨rfl, rfl⟩
  · have h3 : (((x % 2 : Nat) : Int) == 1) = false := by rw [beq_eq_false_iff_ne]; omega
    rw [dn_even' h, e2]
    clear h e2 hx h2
    obtain ⟨z, hz⟩ : ∃ z : Nat, z = x % 2 := ⟨_, rfl⟩
    rw [← hz] at h1 h3
    clear hz
    go_enter Tryd.func56, Tryd.ntmps56
    go_wp2
    go_ret
    exact ⟨rfl, rfl⟩

theorem dnU (k : Nat) {x : Nat} (h : U64 x) : U64 (dnK k x) := dnK_lt k h

set_option maxHeartbeats 1000000 in
set_option maxRecDepth 100000 in
theorem fill_any (b bits many : Nat) (w : World) (hb : Blk w b (digK 0 bits many)) :
    Calls Tryd.prog 44 #[.pointer (some ⟨b, 0, none⟩)] w fun e w' => (∃ v, e = .returned v) ∧ Blk w' b (digK 256 bits many) ∧ Turns b w w' := by
  have HB := Lib.hid hb; clear hb
  go_enter Tryd.func44, Tryd.ntmps44
  go_wp2_with fail
  go_loopw [2, 3, 4] (fun _ _ i wr => ∃ k : Nat, k ≤ 256 ∧ i = .int .i64 k ∧ Blk wr b (digK k bits many) ∧ Turns b w wr) (fun _ _ i _ => 256 - (intOf i).toNat)
  case atStart => exact ⟨0, by omega, rfl, HB.out, Turns.refl _ _⟩
  case round =>
    obtain ⟨k, hk, rfl, hB, hT⟩ := hrel
    have HBk := Lib.hid hB; clear hB
    have HT := Lib.hid hT; clear hT
    by_cases hlt : k < 256
    · have hfr := HBk.out.free
      have hc := (HBk.out.cell k).trans (digK_tab k bits many k hlt)
      go_wp2_with fail
      have hd : decide ((k : Int) < 256) = true := by rw [decide_eq_true_eq]; omega
      rw [hd]; clear hd
      go_loop [3, 9] (fun x i => ∃ j : Nat, j ≤ 8 ∧ i = .int .i64 j ∧ x = .int .u64 (dnK j k : Nat)) (fun _ i => 8 - (intOf i).toNat)
      case atStart => exact ⟨0, by omega, rfl, rfl⟩
      case round =>
        obtain ⟨j, hj, rfl, rfl⟩ := hrel
        by_cases hlt8 : j < 8
        · have HD := Lib.hid (down_any (dnK j k) (dnU j (by unfold U64; omega)) wr)
          go_wp2_with (go_at_call 56; refine HD.out.mono ?_; rintro e w' ⟨rfl, rfl⟩)
          go_round
          case rel => exact ⟨j + 1, by omega, by go_num, by rw [dnK_snoc]⟩
          case measure => simp [intOf]; omega
        · obtain rfl : j = 8 := by omega
          go_wp2_with fail
          go_roundw
          case rel => exact ⟨k + 1, by omega, by go_num, by rw [← digK_set _ _ _ hlt]; exact HBk.out.set _ _, HT.out.trans (Turns.setCell _ _ _ _)⟩
          case measure => simp [intOf]; omega
    · obtain rfl : k = 256 := by omega
      go_wp2_with fail
      go_end0
      exact ⟨⟨_, rfl⟩, HBk.out, HT.out⟩

def NewPost (bits many : Nat) (w : World) (e : Ending) (w' : World) : Prop :=
  ∃ b, e = .returned (.pointer (some ⟨b, 0, none⟩)) ∧ w.heap.size ≤ b ∧ Blk w' b (digK 256 bits many) ∧ Adds w w'

set_option maxRecDepth 100000 in
theorem new_any (w : World) : Calls Tryd.prog 32 #[] w (NewPost all1 0 w) := by
  have HF := Lib.hid (fill_any w.heap.size 18446744073709551615 0 (w.alloc (.cells (digK 0 18446744073709551615 0).toArray 81)) (Blk.new _ _))
  go_enter Tryd.func32, Tryd.ntmps32
  go_wp2_with (first
    | ((with_reducible refine wpList_build1 rfl rfl (.int .u64 18446744073709551615) _ build_new ?_ ?_); (· exact rfl))
    | ((with_reducible refine wpList_box rfl rfl (digK 0 18446744073709551615 0) ?_ ?_); (· exact rfl))
    | (go_at_call 44; refine HF.out.mono ?_; rintro e w1 ⟨⟨v, rfl⟩, hb, ht⟩; have HB := Lib.hid hb; clear hb; have HT := Lib.hid ht; clear ht))
  go_ret
  exact ⟨_, rfl, Nat.le_refl _, HB.out, Turns.own ((Below.refl _ _).alloc (Nat.le_refl _) _) (Nat.le_refl _) HT.out⟩
end Go.Proofs.YtleihmmkonakhaaDoor
