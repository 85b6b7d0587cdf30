/- The contract of the law's 'works': the chapter's rows. -/
import Derived.Deep.RegionWith
import Derived.Test.YtcimppggemdidaaDoorW6
import Derived.Test.YtcimppggemdidaaDoorApp2
import Derived.Test.YtcimppggemdidaaDoorW7
namespace Go.Proofs.YtcimppggemdidaaDoor
open Go.RowKit

theorem num300 : numB 300 = [172, 2] := by rw [numB_ge (by decide), numB_lt (by decide)]; rfl
theorem num0 : numB 0 = [0] := by rw [numB_lt (by decide)]; rfl

theorem w_fixed1 (w : World) (hw : Widths w) : Calls Tryd.prog 45 #[.int .u64 258, .int .i64 2] w (GivesB [2, 1] (fun v => .tuple #[v, .int .i64 0]) w) := fixed_any 258 2 w hw
theorem w_fixed2 (w : World) (hw : Widths w) : Calls Tryd.prog 45 #[.int .u64 256, .int .i64 1] w (GivesB [] (fun v => .tuple #[v, .int .i64 4]) w) := fixed_any 256 1 w hw
theorem w_fixed3 (w : World) (hw : Widths w) : Calls Tryd.prog 45 #[.int .u64 1, .int .i64 3] w (GivesB [] (fun v => .tuple #[v, .int .i64 2]) w) := fixed_any 1 3 w hw
theorem w_read (w : World) (hw : Widths w) : Calls Tryd.prog 46 #[.slice (some ⟨w.heap.size, 0, none⟩) 3 3, .int .i64 2] (w.alloc (.cells #[.int .u8 2, .int .u8 1, .int .u8 7] 5)) fun e w' => e = .returned (.tuple #[.int .u64 258, .int .i64 0]) ∧ Adds w w' :=
  (readFixed_any _ [2, 1, 7] 2 _ (OwnB.lit w [2, 1, 7] (by simp [maxLen])).bytes (hw.adds (adds_alloc _ _))).mono fun _ _ ⟨he, ha⟩ => ⟨he, (adds_alloc _ _).trans ha⟩
theorem w_num1 (w : World) : Calls Tryd.prog 47 #[.slice (some ⟨w.heap.size, 0, none⟩) 3 3] (w.alloc (.cells #[.int .u8 172, .int .u8 2, .int .u8 7] 5)) fun e w' => e = .returned (.tuple #[.int .u64 300, .int .i64 2, .int .i64 0]) ∧ Adds w w' :=
  (readNumber_any _ [172, 2, 7] _ (OwnB.lit w [172, 2, 7] (by simp [maxLen])).bytes).mono fun _ _ ⟨he, ha⟩ => ⟨he, (adds_alloc _ _).trans ha⟩
theorem w_num2 (w : World) : Calls Tryd.prog 47 #[.slice (some ⟨w.heap.size, 0, none⟩) 2 2] (w.alloc (.cells #[.int .u8 128, .int .u8 0] 5)) fun e w' => e = .returned (.tuple #[.int .u64 0, .int .i64 0, .int .i64 111]) ∧ Adds w w' :=
  (readNumber_any _ [128, 0] _ (OwnB.lit w [128, 0] (by simp [maxLen])).bytes).mono fun _ _ ⟨he, ha⟩ => ⟨he, (adds_alloc _ _).trans ha⟩
theorem w_num3 (w : World) : Calls Tryd.prog 47 #[.slice (some ⟨w.heap.size, 0, none⟩) 1 1] (w.alloc (.cells #[.int .u8 128] 5)) fun e w' => e = .returned (.tuple #[.int .u64 0, .int .i64 0, .int .i64 110]) ∧ Adds w w' :=
  (readNumber_any _ [128] _ (OwnB.lit w [128] (by simp [maxLen])).bytes).mono fun _ _ ⟨he, ha⟩ => ⟨he, (adds_alloc _ _).trans ha⟩
theorem w_n0 (w : World) : Calls Tryd.prog 49 #[.int .u64 0] w (GivesB [0] (fun v => v) w) := by
  have := number_new 0 (by unfold U64; omega) w
  rwa [num0] at this
theorem w_n300 (w : World) : Calls Tryd.prog 49 #[.int .u64 300] w (GivesB [172, 2] (fun v => v) w) := by
  have := number_new 300 (by unfold U64; omega) w
  rwa [num300] at this


set_option maxRecDepth 100000 in
set_option maxHeartbeats 4000000 in
theorem works_any (w : World) (hw : Widths w) : Calls Tryd.prog 10 #[] w (TrueAdds w) := by
  obtain ⟨i0, hi, hz0, hz1, hz2⟩ := info_parts info8
  have HW := Lib.hid hw; clear hw
  go_enter Tryd.func10, Tryd.ntmps10
  go_wp2_with fail
  refine (w_fixed1 _ HW.out).mono ?_
  rintro e w1 ⟨v1, rfl, o1, a1⟩
  have O1 := Lib.hid o1.bytes; clear o1
  have A1 := Lib.hid a1; clear a1
  go_wp2_with fail
  refine (w_fixed2 _ (HW.out.adds A1.out)).mono ?_
  rintro e w2 ⟨v2, rfl, o2, a2⟩
  clear o2
  have O2 := Lib.hid (O1.out.adds a2); clear O1
  have A2 := Lib.hid (A1.out.trans a2); clear a2 A1
  go_wp2_with fail
  refine (w_fixed3 _ (HW.out.adds A2.out)).mono ?_
  rintro e w3 ⟨v3, rfl, o3, a3⟩
  clear o3
  have O3 := Lib.hid (O2.out.adds a3); clear O2
  have A3 := Lib.hid (A2.out.trans a3); clear a3 A2
  go_wp2_with fail
  refine (w_read _ (HW.out.adds A3.out)).mono ?_
  rintro e w4 ⟨rfl, a4⟩
  have O4 := Lib.hid (O3.out.adds a4); clear O3
  have A4 := Lib.hid (A3.out.trans a4); clear a4 A3
  go_wp2_with fail
  refine (w_num1 _).mono ?_
  rintro e w5 ⟨rfl, a5⟩
  have O5 := Lib.hid (O4.out.adds a5); clear O4
  have A5 := Lib.hid (A4.out.trans a5); clear a5 A4
  go_wp2_with fail
  refine (w_num2 _).mono ?_
  rintro e w6 ⟨rfl, a6⟩
  have O6 := Lib.hid (O5.out.adds a6); clear O5
  have A6 := Lib.hid (A5.out.trans a6); clear a6 A5
  go_wp2_with fail
  refine (w_num3 _).mono ?_
  rintro e w7 ⟨rfl, a7⟩
  have O7 := Lib.hid (O6.out.adds a7); clear O6
  have A7 := Lib.hid (A6.out.trans a7); clear a7 A6
  have S1 : (convert 22 9 v1).run Tryd.prog w7 = .ok (.string ⟨#[2, 1]⟩) w7 := strAt O7.out
  clear O7
  go_wp2_with (first
    | (go_at_call 48; refine (num_any _ _).mono ?_; rintro e w' ⟨rfl, rfl⟩)
    | (go_at_call_of 49 (Value.int .u64 0); refine (w_n0 _).mono ?_; rintro e w8 ⟨v8, rfl, o8, a8⟩; have S8 : (convert 22 9 v8).run Tryd.prog w8 = .ok (.string ⟨#[0]⟩) w8 := strAt o8.bytes; have A8 := Lib.hid a8; clear o8 a8)
    | (go_at_call_of 49 (Value.int .u64 300); refine (w_n300 _).mono ?_; rintro e w9 ⟨v9, rfl, o9, a9⟩; have S9 : (convert 22 9 v9).run Tryd.prog w9 = .ok (.string ⟨#[172, 2]⟩) w9 := strAt o9.bytes; have A9 := Lib.hid a9; clear o9 a9))
  go_ret
  exact ⟨rfl, (A7.out.trans A8.out).trans A9.out⟩
end Go.Proofs.YtcimppggemdidaaDoor
