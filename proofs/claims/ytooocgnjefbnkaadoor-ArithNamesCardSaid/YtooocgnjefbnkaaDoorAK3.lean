/- The document's Parse: its contract. -/
import Derived.Test.YtooocgnjefbnkaaDoorAK2
namespace Go.Proofs.YtooocgnjefbnkaaDoor
open Go Go.RowKit Go.Shelf

set_option maxRecDepth 100000 in
set_option maxHeartbeats 2000000 in
theorem refParse_any (s : ByteArray) (r : Nat) (hr : pN s 12 = r) (w : World) : Calls Tryd.prog 21 #[.string s] w fun e w' => e = .returned (.int .i64 r) ∧ Adds w w' := by
  have HR := Lib.hid (refNames_any w)
  have HRR := Lib.hid hr; clear hr
  go_enter Tryd.func21, Tryd.ntmps21
  go_wp2_with (go_at_call 18; refine HR.out.mono ?_; rintro e w1 ⟨v, rfl, ⟨b, rfl, hb, hc⟩, a1⟩; have A1 := Lib.hid a1; have HC := Lib.hid hc; clear a1 hc)
  go_loop [4] (fun i => ∃ m : Nat, m ≤ 12 ∧ i = .int .i64 m ∧ pN s m = 0) (fun i => 12 - (intOf i).toNat)
  case atStart => exact ⟨0, Nat.zero_le _, rfl, rfl⟩
  case round =>
    obtain ⟨m, hm, rfl, hp⟩ := hrel
    have HP := Lib.hid hp; clear hp
    have HM := Lib.hid hm; clear hm
    by_cases hlt : m < 12
    · have hcell := HC.out m hlt
      unfold nmV at hcell
      obtain ⟨y, hy⟩ : ∃ y, nm m = y := ⟨_, rfl⟩
      rw [hy] at hcell
      have HY := Lib.hid hy; clear hy
      have hlt' : (m : Int) < 12 := by omega
      have HLT := Lib.hid hlt; clear hlt hb
      by_cases he : y = s
      · subst he
        have HQ := Lib.hid (pN_hit HLT.out HP.out HY.out)
        have heq : (y.toList == y.toList) = true := by simp
        go_wp2
        go_ret
        have h := HRR.out.symm.trans HQ.out
        exact ⟨ret_int (by rw [h]; simp), A1.out⟩
      · have hne := beq_no he
        have HQ := Lib.hid (pN_no HP.out (by rw [HY.out]; exact he))
        clear he
        go_wp2
        go_round
        case rel => exact ⟨m + 1, HLT.out, by go_num, HQ.out⟩
        case measure => have := HLT.out; simp [intOf]; omega
    · obtain rfl : m = 12 := by have := HM.out; omega
      clear hlt hb
      go_wp2
      go_ret
      have h := HRR.out.symm.trans HP.out
      exact ⟨ret_int (by rw [h]; rfl), A1.out⟩
end Go.Proofs.YtooocgnjefbnkaaDoor
