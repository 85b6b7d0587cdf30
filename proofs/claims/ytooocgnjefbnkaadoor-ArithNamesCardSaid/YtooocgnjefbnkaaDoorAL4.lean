/- The law ArithNames, walked. -/
import Derived.Test.YtooocgnjefbnkaaDoorAK3
namespace Go.Proofs.YtooocgnjefbnkaaDoor
open Go Go.RowKit Go.Shelf

theorem pN_nm (j : Nat) (hj : j < 12) : pN (nm j) 12 = j + 1 := by
  match j, hj with
  | 0, _ => decide +kernel
  | 1, _ => decide +kernel
  | 2, _ => decide +kernel
  | 3, _ => decide +kernel
  | 4, _ => decide +kernel
  | 5, _ => decide +kernel
  | 6, _ => decide +kernel
  | 7, _ => decide +kernel
  | 8, _ => decide +kernel
  | 9, _ => decide +kernel
  | 10, _ => decide +kernel
  | 11, _ => decide +kernel

theorem nm_some (j : Nat) (hj : j < 12) : ((nm j).toList == []) = false := by
  match j, hj with
  | 0, _ => decide +kernel
  | 1, _ => decide +kernel
  | 2, _ => decide +kernel
  | 3, _ => decide +kernel
  | 4, _ => decide +kernel
  | 5, _ => decide +kernel
  | 6, _ => decide +kernel
  | 7, _ => decide +kernel
  | 8, _ => decide +kernel
  | 9, _ => decide +kernel
  | 10, _ => decide +kernel
  | 11, _ => decide +kernel


set_option maxRecDepth 100000 in
set_option maxHeartbeats 4000000 in
theorem law_names5 (x : Int) (hx : (Lit.int .i64 x).wf = true) (s : ByteArray) (w : World) (hN : NamesW w) :
    Calls Tryd.prog 4 #[.int .i64 x, .string s] w (TrueAdds5 w) := by
  have A := Lib.hid (Adds.refl w)
  by_cases hl : 60 < s.size
  · go_enter Tryd.func4, Tryd.ntmps4
    go_wp2_with (go_at_call 16; refine (works5_any _).mono ?_; rintro e w5 ⟨rfl, h1⟩; have A := Lib.hid (A.out.trans h1); clear h1)
    go_ret
    exact ⟨rfl, A.out⟩
  obtain ⟨r, hr⟩ : ∃ r, pN s 12 = r := ⟨_, rfl⟩
  have CP := Lib.hid (fun W (h : Adds w W) => parse_any s W (hN.adds h))
  have CR := Lib.hid (fun W => refParse_any s r hr W)
  unfold ParsePost at CP
  rw [hr] at CP
  clear hr
  by_cases hk : 1 ≤ x ∧ x ≤ 12
  · obtain ⟨j, rfl⟩ : ∃ j : Nat, x = ((j + 1 : Nat) : Int) := ⟨x.toNat - 1, by omega⟩
    have hj : j < 12 := by omega
    have HJ := Lib.hid hj
    have CN := Lib.hid (fun W (h : NamesW W) => name_yes (j + 1) (by omega) (by omega) W h)
    have HNW := Lib.hid hN
    have CP2 := Lib.hid (fun W (h : Adds w W) => by have h2 := parse_any (nm j) W (hN.adds h); unfold ParsePost at h2; rw [pN_nm j hj, if_neg (by omega)] at h2; exact h2)
    have hsm := nm_some j hj
    rw [show j + 1 - 1 = j from rfl] at CN
    unfold nmV at CN
    have hc1 : ((j + 1 : Nat) : Int) - 1 = (j : Int) := by omega
    have hk1 : ¬ ((j : Int) + 1 < 1) := by omega
    have hk2 : (1 : Int) ≤ (j : Int) + 1 := by omega
    have hk3 : (j : Int) + 1 ≤ 12 := by omega
    obtain ⟨y, hy⟩ : ∃ y, nm j = y := ⟨_, rfl⟩
    have HYV := Lib.hid (show nmV j = .string y by unfold nmV; rw [hy])
    rw [hy] at CN CP2 hsm
    have HLS := Lib.hid hl
    clear hk hj hx hN hy
    by_cases hr0 : r = 0
    · subst hr0
      rw [if_pos rfl] at CP
      go_enter Tryd.func4, Tryd.ntmps4
      go_wp2_with (first
            | (go_at_call 17; refine (CN.out _ HNW.out).mono ?_; rintro e w' ⟨rfl, rfl⟩)
            | (go_at_call 18; refine (refNames_any _).mono ?_; rintro e w1 ⟨v, rfl, ⟨b, rfl, hb, hc⟩, h1⟩; have hcell := (hc j HJ.out).trans (congrArg some HYV.out); have A := Lib.hid (A.out.trans h1); clear hb hc h1)
            | (go_at_call 19; refine (CP.out _ A.out).mono ?_; rintro e w2 ⟨rfl, h1⟩; have A := Lib.hid (A.out.trans h1); clear h1 CP)
            | (go_at_call 19; refine (CP2.out _ A.out).mono ?_; rintro e w4 ⟨rfl, h1⟩; have A := Lib.hid (A.out.trans h1); clear h1)
            | (go_at_call 21; refine (CR.out _).mono ?_; rintro e w3 ⟨rfl, h1⟩; have A := Lib.hid (A.out.trans h1); clear h1)
            | (go_at_call 20; refine (num5_any _ _).mono ?_; rintro e w' ⟨rfl, rfl⟩)
            | (go_at_call 16; refine (works5_any _).mono ?_; rintro e w5 ⟨rfl, h1⟩; have A := Lib.hid (A.out.trans h1); clear h1))
      go_ret
      exact ⟨rfl, A.out⟩
    · rw [if_neg hr0] at CP
      obtain ⟨z, hz⟩ : ∃ z : Int, (r : Int) = z := ⟨_, rfl⟩
      have hz0 : ¬ z = 0 := by omega
      rw [hz] at CP CR
      have hri : (z == 0) = false := by rw [beq_eq_false_iff_ne]; exact hz0
      have hrn : (z != 0) = true := by rw [bne_iff_ne]; exact hz0
      clear hr0 hz
      go_enter Tryd.func4, Tryd.ntmps4
      go_wp2_with (first
            | (go_at_call 17; refine (CN.out _ HNW.out).mono ?_; rintro e w' ⟨rfl, rfl⟩)
            | (go_at_call 18; refine (refNames_any _).mono ?_; rintro e w1 ⟨v, rfl, ⟨b, rfl, hb, hc⟩, h1⟩; have hcell := (hc j HJ.out).trans (congrArg some HYV.out); have A := Lib.hid (A.out.trans h1); clear hb hc h1)
            | (go_at_call 19; refine (CP.out _ A.out).mono ?_; rintro e w2 ⟨rfl, h1⟩; have A := Lib.hid (A.out.trans h1); clear h1 CP)
            | (go_at_call 19; refine (CP2.out _ A.out).mono ?_; rintro e w4 ⟨rfl, h1⟩; have A := Lib.hid (A.out.trans h1); clear h1)
            | (go_at_call 21; refine (CR.out _).mono ?_; rintro e w3 ⟨rfl, h1⟩; have A := Lib.hid (A.out.trans h1); clear h1)
            | (go_at_call 20; refine (num5_any _ _).mono ?_; rintro e w' ⟨rfl, rfl⟩)
            | (go_at_call 16; refine (works5_any _).mono ?_; rintro e w5 ⟨rfl, h1⟩; have A := Lib.hid (A.out.trans h1); clear h1))
      go_ret
      exact ⟨rfl, A.out⟩
  · have CN := Lib.hid (fun W (_ : NamesW W) => name_no x hk W)
    have HNW := Lib.hid hN
    have hkk : (1 ≤ x ∧ ¬ x ≤ 12) ∨ (¬ 1 ≤ x) := by omega
    clear hk hx hN
    by_cases hr0 : r = 0
    · subst hr0
      rw [if_pos rfl] at CP
      rcases hkk with ⟨hk1, hk2⟩ | hk1
      all_goals
        go_enter Tryd.func4, Tryd.ntmps4
        go_wp2_with (first
              | (go_at_call 17; refine (CN.out _ HNW.out).mono ?_; rintro e w' ⟨rfl, rfl⟩)
              | (go_at_call 18; refine (refNames_any _).mono ?_; rintro e w1 ⟨v, rfl, ⟨b, rfl, hb, hc⟩, h1⟩; have hcell := (hc j HJ.out).trans (congrArg some HYV.out); have A := Lib.hid (A.out.trans h1); clear hb hc h1)
              | (go_at_call 19; refine (CP.out _ A.out).mono ?_; rintro e w2 ⟨rfl, h1⟩; have A := Lib.hid (A.out.trans h1); clear h1 CP)
              | (go_at_call 19; refine (CP2.out _ A.out).mono ?_; rintro e w4 ⟨rfl, h1⟩; have A := Lib.hid (A.out.trans h1); clear h1)
              | (go_at_call 21; refine (CR.out _).mono ?_; rintro e w3 ⟨rfl, h1⟩; have A := Lib.hid (A.out.trans h1); clear h1)
              | (go_at_call 20; refine (num5_any _ _).mono ?_; rintro e w' ⟨rfl, rfl⟩)
              | (go_at_call 16; refine (works5_any _).mono ?_; rintro e w5 ⟨rfl, h1⟩; have A := Lib.hid (A.out.trans h1); clear h1))
        go_ret
        exact ⟨rfl, A.out⟩
    · rw [if_neg hr0] at CP
      obtain ⟨z, hz⟩ : ∃ z : Int, (r : Int) = z := ⟨_, rfl⟩
      have hz0 : ¬ z = 0 := by omega
      rw [hz] at CP CR
      have hri : (z == 0) = false := by rw [beq_eq_false_iff_ne]; exact hz0
      have hrn : (z != 0) = true := by rw [bne_iff_ne]; exact hz0
      clear hr0 hz
      rcases hkk with ⟨hk1, hk2⟩ | hk1
      all_goals
        go_enter Tryd.func4, Tryd.ntmps4
        go_wp2_with (first
              | (go_at_call 17; refine (CN.out _ HNW.out).mono ?_; rintro e w' ⟨rfl, rfl⟩)
              | (go_at_call 18; refine (refNames_any _).mono ?_; rintro e w1 ⟨v, rfl, ⟨b, rfl, hb, hc⟩, h1⟩; have hcell := (hc j HJ.out).trans (congrArg some HYV.out); have A := Lib.hid (A.out.trans h1); clear hb hc h1)
              | (go_at_call 19; refine (CP.out _ A.out).mono ?_; rintro e w2 ⟨rfl, h1⟩; have A := Lib.hid (A.out.trans h1); clear h1 CP)
              | (go_at_call 19; refine (CP2.out _ A.out).mono ?_; rintro e w4 ⟨rfl, h1⟩; have A := Lib.hid (A.out.trans h1); clear h1)
              | (go_at_call 21; refine (CR.out _).mono ?_; rintro e w3 ⟨rfl, h1⟩; have A := Lib.hid (A.out.trans h1); clear h1)
              | (go_at_call 20; refine (num5_any _ _).mono ?_; rintro e w' ⟨rfl, rfl⟩)
              | (go_at_call 16; refine (works5_any _).mono ?_; rintro e w5 ⟨rfl, h1⟩; have A := Lib.hid (A.out.trans h1); clear h1))
        go_ret
        exact ⟨rfl, A.out⟩
end Go.Proofs.YtooocgnjefbnkaaDoor
