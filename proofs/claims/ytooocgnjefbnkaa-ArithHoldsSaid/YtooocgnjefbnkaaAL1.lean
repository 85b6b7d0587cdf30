/- The law ArithHolds, walked. -/
import Derived.Test.YtooocgnjefbnkaaAW
import Derived.Test.YtooocgnjefbnkaaAN
namespace Go.Proofs.Ytooocgnjefbnkaa
open Go Go.RowKit

/-- One call of the law's own does. -/
def Gives32 (k : Nat) (a b n : Nat) : Prop := ∀ W, Calls Try.prog 14 #[.int .i64 k, .int .u32 a, .int .u32 b] W fun e w' => e = .returned (.int .u32 n) ∧ Adds W w'
theorem gives32 (k : Nat) {a b n : Nat} (h1 : 1 ≤ k) (h12 : k ≤ 12) (ha : a < 4294967296) (hb : b < 4294967296) (hz : b ≠ 0 ∨ (k ≠ 4 ∧ k ≠ 5)) (hn : doN k a b = n) : Gives32 k a b n := by
  intro W
  have h := does_any k (wf_kind k h1 h12) a b ha hb W
  rw [doesN_eq h1 h12 (byNone_not hz), hn] at h
  exact h

set_option maxRecDepth 100000 in
set_option maxHeartbeats 8000000 in
theorem law_holds5 (a b : Nat) (ha : a < 4294967296) (hb : b < 4294967296) (w : World) :
    Calls Try.prog 5 #[.int .u32 a, .int .u32 b] w (TrueAdds5 w) := by
  have N := fun k (hk : k ≠ 4 ∧ k ≠ 5) => byNone_not (k := k) (b := b) (.inr hk)
  obtain ⟨p, hp⟩ : ∃ p, doN 1 a b = p := ⟨_, rfl⟩
  obtain ⟨x, hx⟩ : ∃ x, doN 8 a b = x := ⟨_, rfl⟩
  obtain ⟨s, hs⟩ : ∃ s, doN 9 a b = s := ⟨_, rfl⟩
  have p32 : p < 4294967296 := hp ▸ doN_lt ha hb (N 1 (by decide))
  have x32 : x < 4294967296 := hx ▸ doN_lt ha hb (N 8 (by decide))
  have s32 : s < 4294967296 := hs ▸ doN_lt ha hb (N 9 (by decide))
  have C1 := Lib.hid (gives32 1 (by decide) (by decide) ha hb (.inr (by decide)) hp)
  have C2 := Lib.hid (gives32 (n := a) 2 (by decide) (by decide) p32 hb (.inr (by decide)) (by rw [← hp]; exact undo_add ha hb))
  have C3 := Lib.hid (gives32 8 (by decide) (by decide) ha hb (.inr (by decide)) hx)
  have C4 := Lib.hid (gives32 (n := a) 8 (by decide) (by decide) x32 hb (.inr (by decide)) (by rw [← hx]; exact undo_xor a b))
  have C5 := Lib.hid (gives32 9 (by decide) (by decide) ha hb (.inr (by decide)) hs)
  have C6 := Lib.hid (gives32 (n := a &&& (4294967295 / 2 ^ (b % 32))) 10 (by decide) (by decide) s32 hb (.inr (by decide)) (by rw [← hs]; exact undo_shl))
  have CS := Lib.hid (fun (y : Nat) (hy : y < 4294967296) W => by have h := signed_any (y / 2) (by omega) W; rw [signed_half y hy, show ((y / 2 : Nat) : Int) = (y : Int) / 2 by omega] at h; exact h)
  have hm : a &&& (4294967295 / 2 ^ (b % 32)) < 4294967296 := Nat.lt_of_le_of_lt Nat.and_le_left ha
  have hand : bits .and .u32 (a : Int) ((4294967295 : Int) / 2 ^ (b % 32)) = ((a &&& (4294967295 / 2 ^ (b % 32)) : Nat) : Int) := by
    have h := u32_and_nat a (4294967295 / 2 ^ (b % 32)) ha (Nat.lt_of_le_of_lt (Nat.div_le_self _ _) (by decide))
    rw [show ((4294967295 / 2 ^ (b % 32) : Nat) : Int) = (4294967295 : Int) / 2 ^ (b % 32) by rw [Int.natCast_ediv, Int.natCast_pow]; rfl] at h
    exact h
  obtain ⟨M, hM⟩ : ∃ M, a &&& (4294967295 / 2 ^ (b % 32)) = M := ⟨_, rfl⟩
  rw [hM] at C6 hm hand
  clear hM hm
  obtain ⟨lt, hlt⟩ : ∃ lt, doN 11 a b = lt := ⟨_, rfl⟩
  have C7 := Lib.hid (gives32 11 (by decide) (by decide) ha hb (.inr (by decide)) hlt)
  have hh := halves a b
  rw [hlt] at hh
  by_cases hb0 : b = 0
  · have CSa := Lib.hid (CS.out a ha)
    have CSb := Lib.hid (CS.out b hb)
    have hb0' : ((b : Int) != 0) = false := by simp [hb0]
    clear hp hx hs hlt N CS p32 x32 s32 hb0
    rcases hh with ⟨i1, rfl⟩ | ⟨i1, i2, i3, rfl⟩ | ⟨i1, i2, i3, rfl⟩ | ⟨i1, i2, rfl⟩
    all_goals
      go_enter Try.func5, Try.ntmps5
      go_wp2_with fail
      refine (C1.out _).mono ?_
      rintro e w1 ⟨rfl, h1⟩
      have A := Lib.hid h1; clear h1
      go_wp2_with fail
      refine (C2.out _).mono ?_
      rintro e w2 ⟨rfl, h1⟩
      have A := Lib.hid (A.out.trans h1); clear h1
      go_wp2_with fail
      refine (C3.out _).mono ?_
      rintro e w3 ⟨rfl, h1⟩
      have A := Lib.hid (A.out.trans h1); clear h1
      go_wp2_with fail
      refine (C4.out _).mono ?_
      rintro e w4 ⟨rfl, h1⟩
      have A := Lib.hid (A.out.trans h1); clear h1
      go_wp2_with fail
      refine (C5.out _).mono ?_
      rintro e w9 ⟨rfl, h1⟩
      have A := Lib.hid (A.out.trans h1); clear h1
      go_wp2_with fail
      refine (C6.out _).mono ?_
      rintro e w10 ⟨rfl, h1⟩
      have A := Lib.hid (A.out.trans h1); clear h1
      go_wp2_with fail
      refine (C7.out _).mono ?_
      rintro e w11 ⟨rfl, h1⟩
      have A := Lib.hid (A.out.trans h1); clear h1
      go_wp2_with fail
      refine (CSa.out _).mono ?_
      rintro e w' ⟨rfl, rfl⟩
      go_wp2_with fail
      refine (CSb.out _).mono ?_
      rintro e w' ⟨rfl, rfl⟩
      go_wp2_with fail
      refine (works5_any _).mono ?_
      rintro e w12 ⟨rfl, h1⟩
      have A := Lib.hid (A.out.trans h1); clear h1
      go_wp2_with fail
      go_ret
      first | exact ⟨rfl, A.out⟩ | exact ⟨ret_bool (by simp; omega), A.out⟩
  · obtain ⟨q, hq⟩ : ∃ q, doN 4 a b = q := ⟨_, rfl⟩
    obtain ⟨r, hr⟩ : ∃ r, doN 5 a b = r := ⟨_, rfl⟩
    obtain ⟨m, hmm⟩ : ∃ m, doN 3 q b = m := ⟨_, rfl⟩
    have q32 : q < 4294967296 := hq ▸ doN_lt ha hb (byNone_not (.inl hb0))
    have r32 : r < 4294967296 := hr ▸ doN_lt ha hb (byNone_not (.inl hb0))
    have m32 : m < 4294967296 := hmm ▸ doN_lt q32 hb (N 3 (by decide))
    have hrb : r < b := by rw [← hr]; exact Nat.mod_lt _ (by omega)
    have D1 := Lib.hid (gives32 4 (by decide) (by decide) ha hb (.inl hb0) hq)
    have D2 := Lib.hid (gives32 5 (by decide) (by decide) ha hb (.inl hb0) hr)
    have D3 := Lib.hid (gives32 3 (by decide) (by decide) q32 hb (.inr (by decide)) hmm)
    have D4 := Lib.hid (gives32 (n := a) 1 (by decide) (by decide) m32 r32 (.inr (by decide)) (by rw [← hmm, ← hq, ← hr]; exact undo_div ha))
    have CSa := Lib.hid (CS.out a ha)
    have CSb := Lib.hid (CS.out b hb)
    have hrb' : (r : Int) < b := by omega
    have hb0' : ((b : Int) != 0) = true := by simpa using hb0
    clear hp hx hs hlt hq hr hmm N CS p32 x32 s32 q32 r32 m32 hrb hb0
    rcases hh with ⟨i1, rfl⟩ | ⟨i1, i2, i3, rfl⟩ | ⟨i1, i2, i3, rfl⟩ | ⟨i1, i2, rfl⟩
    all_goals
      go_enter Try.func5, Try.ntmps5
      go_wp2_with fail
      refine (C1.out _).mono ?_
      rintro e w1 ⟨rfl, h1⟩
      have A := Lib.hid h1; clear h1
      go_wp2_with fail
      refine (C2.out _).mono ?_
      rintro e w2 ⟨rfl, h1⟩
      have A := Lib.hid (A.out.trans h1); clear h1
      go_wp2_with fail
      refine (C3.out _).mono ?_
      rintro e w3 ⟨rfl, h1⟩
      have A := Lib.hid (A.out.trans h1); clear h1
      go_wp2_with fail
      refine (C4.out _).mono ?_
      rintro e w4 ⟨rfl, h1⟩
      have A := Lib.hid (A.out.trans h1); clear h1
      go_wp2_with fail
      refine (D1.out _).mono ?_
      rintro e w5 ⟨rfl, h1⟩
      have A := Lib.hid (A.out.trans h1); clear h1
      go_wp2_with fail
      refine (D2.out _).mono ?_
      rintro e w6 ⟨rfl, h1⟩
      have A := Lib.hid (A.out.trans h1); clear h1
      go_wp2_with fail
      refine (D3.out _).mono ?_
      rintro e w7 ⟨rfl, h1⟩
      have A := Lib.hid (A.out.trans h1); clear h1
      go_wp2_with fail
      refine (D4.out _).mono ?_
      rintro e w8 ⟨rfl, h1⟩
      have A := Lib.hid (A.out.trans h1); clear h1
      go_wp2_with fail
      refine (C5.out _).mono ?_
      rintro e w9 ⟨rfl, h1⟩
      have A := Lib.hid (A.out.trans h1); clear h1
      go_wp2_with fail
      refine (C6.out _).mono ?_
      rintro e w10 ⟨rfl, h1⟩
      have A := Lib.hid (A.out.trans h1); clear h1
      go_wp2_with fail
      refine (C7.out _).mono ?_
      rintro e w11 ⟨rfl, h1⟩
      have A := Lib.hid (A.out.trans h1); clear h1
      go_wp2_with fail
      refine (CSa.out _).mono ?_
      rintro e w' ⟨rfl, rfl⟩
      go_wp2_with fail
      refine (CSb.out _).mono ?_
      rintro e w' ⟨rfl, rfl⟩
      go_wp2_with fail
      refine (works5_any _).mono ?_
      rintro e w12 ⟨rfl, h1⟩
      have A := Lib.hid (A.out.trans h1); clear h1
      go_wp2_with fail
      go_ret
      first | exact ⟨rfl, A.out⟩ | exact ⟨ret_bool (by simp; omega), A.out⟩
end Go.Proofs.Ytooocgnjefbnkaa
