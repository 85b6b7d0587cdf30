/- The contract of the law's 'works': the chapter's rows. -/
import Derived.Test.YtooocgnjefbnkaaDoorAF4
namespace Go.Proofs.YtooocgnjefbnkaaDoor
open Go Go.RowKit

def TrueAdds5 (w : World) (e : Ending) (w' : World) : Prop := e = .returned (.bool true) ∧ Adds w w'
theorem w_does0 (w : World) : Calls Tryd.prog 31 #[.int .i64 1, .int .u32 4294967295, .int .u32 2] w fun e w' => e = .returned (.int .u32 1) ∧ Adds w w' := by
  have h := does_any 1 (by decide) 4294967295 2 (by decide) (by decide) w
  rw [show doesN 1 4294967295 2 = 1 by decide +kernel] at h
  exact h
theorem w_does1 (w : World) : Calls Tryd.prog 31 #[.int .i64 2, .int .u32 1, .int .u32 2] w fun e w' => e = .returned (.int .u32 4294967295) ∧ Adds w w' := by
  have h := does_any 2 (by decide) 1 2 (by decide) (by decide) w
  rw [show doesN 2 1 2 = 4294967295 by decide +kernel] at h
  exact h
theorem w_does2 (w : World) : Calls Tryd.prog 31 #[.int .i64 3, .int .u32 65536, .int .u32 65537] w fun e w' => e = .returned (.int .u32 65536) ∧ Adds w w' := by
  have h := does_any 3 (by decide) 65536 65537 (by decide) (by decide) w
  rw [show doesN 3 65536 65537 = 65536 by decide +kernel] at h
  exact h
theorem w_does3 (w : World) : Calls Tryd.prog 31 #[.int .i64 4, .int .u32 7, .int .u32 0] w fun e w' => e = .returned (.int .u32 1000150) ∧ Adds w w' := by
  have h := does_any 4 (by decide) 7 0 (by decide) (by decide) w
  rw [show doesN 4 7 0 = 1000150 by decide +kernel] at h
  exact h
theorem w_does4 (w : World) : Calls Tryd.prog 31 #[.int .i64 9, .int .u32 3, .int .u32 33] w fun e w' => e = .returned (.int .u32 6) ∧ Adds w w' := by
  have h := does_any 9 (by decide) 3 33 (by decide) (by decide) w
  rw [show doesN 9 3 33 = 6 by decide +kernel] at h
  exact h
theorem w_does5 (w : World) : Calls Tryd.prog 31 #[.int .i64 10, .int .u32 8, .int .u32 2] w fun e w' => e = .returned (.int .u32 2) ∧ Adds w w' := by
  have h := does_any 10 (by decide) 8 2 (by decide) (by decide) w
  rw [show doesN 10 8 2 = 2 by decide +kernel] at h
  exact h
theorem w_does6 (w : World) : Calls Tryd.prog 31 #[.int .i64 11, .int .u32 1, .int .u32 2] w fun e w' => e = .returned (.int .u32 1) ∧ Adds w w' := by
  have h := does_any 11 (by decide) 1 2 (by decide) (by decide) w
  rw [show doesN 11 1 2 = 1 by decide +kernel] at h
  exact h
theorem w_fold (w : World) : Calls Tryd.prog 30 #[.int .i64 4, .int .u32 100, .slice (some ⟨w.heap.size, 0, none⟩) 3 3] (w.alloc (.cells #[.int .u32 5, .int .u32 0, .int .u32 2] 63)) fun e w' => e = .returned (.tuple #[.int .u32 20, .int .i64 1, .int .i64 150]) ∧ Adds w w' := by
  have h := fold_any 4 (by decide) 100 (by decide) _ [5, 0, 2] _ (cells32_lit w [5, 0, 2] (by simp [maxLen]))
  rw [show foldX 4 100 [5, 0, 2] = (20, 1, 150) by decide +kernel] at h
  exact h.mono fun e w' ⟨h1, h2⟩ => ⟨h1, (adds_box _ _).trans h2⟩
theorem w_signed (w : World) : Calls Tryd.prog 32 #[.int .u32 4294967295] w fun e w' => e = .returned (.int .i64 (-1)) ∧ w = w' := by
  have h := signed_any 4294967295 (by decide) w
  rw [show signN 4294967295 = -1 by decide +kernel] at h
  exact h

set_option maxRecDepth 100000 in
set_option maxHeartbeats 4000000 in
theorem works5_any (w : World) : Calls Tryd.prog 16 #[] w (TrueAdds5 w) := by
  go_enter Tryd.func16, Tryd.ntmps16
  go_wp2_with fail
  refine (w_fold w).mono ?_
  rintro e w1 ⟨rfl, h1⟩
  have A := Lib.hid h1; clear h1
  go_wp2_with fail
  refine (w_does0 _).mono ?_
  rintro e w2 ⟨rfl, h1⟩
  have A := Lib.hid (A.out.trans h1); clear h1
  go_wp2_with fail
  refine (w_does1 _).mono ?_
  rintro e w3 ⟨rfl, h1⟩
  have A := Lib.hid (A.out.trans h1); clear h1
  go_wp2_with fail
  refine (w_does2 _).mono ?_
  rintro e w4 ⟨rfl, h1⟩
  have A := Lib.hid (A.out.trans h1); clear h1
  go_wp2_with fail
  refine (w_does3 _).mono ?_
  rintro e w5 ⟨rfl, h1⟩
  have A := Lib.hid (A.out.trans h1); clear h1
  go_wp2_with fail
  refine (w_does4 _).mono ?_
  rintro e w6 ⟨rfl, h1⟩
  have A := Lib.hid (A.out.trans h1); clear h1
  go_wp2_with fail
  refine (w_does5 _).mono ?_
  rintro e w7 ⟨rfl, h1⟩
  have A := Lib.hid (A.out.trans h1); clear h1
  go_wp2_with fail
  refine (w_does6 _).mono ?_
  rintro e w8 ⟨rfl, h1⟩
  have A := Lib.hid (A.out.trans h1); clear h1
  go_wp2_with fail
  refine (w_signed _).mono ?_
  rintro e w' ⟨rfl, rfl⟩
  go_wp2_with (go_at_call 20; refine (num5_any _ _).mono ?_; rintro e w' ⟨rfl, rfl⟩)
  go_ret
  exact ⟨rfl, A.out⟩
end Go.Proofs.YtooocgnjefbnkaaDoor
