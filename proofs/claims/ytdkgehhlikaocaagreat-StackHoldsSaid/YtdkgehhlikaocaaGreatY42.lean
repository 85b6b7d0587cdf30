/- Merged: Z32. -/
import Derived.Test.YtdkgehhlikaocaaGreatY32
import Derived.Test.YtdkgehhlikaocaaGreatY27
import Derived.Test.YtdkgehhlikaocaaGreatY29
import Derived.Test.YtdkgehhlikaocaaGreatY30
import Derived.Test.YtdkgehhlikaocaaGreatY41
import Derived.Test.YtdkgehhlikaocaaGreatY31
namespace Go.Proofs.YtdkgehhlikaocaaGreat
open Go Go.RowKit Go.Shelf

set_option maxRecDepth 100000 in
set_option maxHeartbeats 8000000 in
theorem holds_c1 {w : World} {ap aw aa : Option Addr} {fl cp wl cw nl ca : Nat} {fs : List Fu} {x1 x2 x3 f : Int}
    (HSm : Hid (∀ W, Adds w W → Calls Tryz.prog 5 #[startV (.slice ap fl cp) (fs, x1, x2, x3) f (.slice aw wl cw)] W fun e w' => e = .returned (.bool false) ∧ Adds W w'))
    : Calls Tryz.prog 4 #[startV (.slice ap fl cp) (fs, x1, x2, x3) f (.slice aw wl cw), .slice aa nl ca] w (TrueAdds w) := by
  obtain ⟨w1, hw1⟩ : ∃ w1, w.alloc (.cells #[.slice ap fl cp, .int .i64 x1, .int .i64 x2, .int .i64 x3, .int .i64 f, .slice aw wl cw] 27) = w1 := ⟨_, rfl⟩
  have A1 := Lib.hid (show Adds w w1 by rw [← hw1]; exact (Gr.new _ _).adds)
  have B1 := Lib.hid (show BkS 27 w1 w.heap.size [.slice ap fl cp, .int .i64 x1, .int .i64 x2, .int .i64 x3, .int .i64 f, .slice aw wl cw] by rw [← hw1]; exact BkS.new _ _ _)
  have HX := Lib.hid (fun (W : World) (ha : Adds w1 W) => And.intro ((B1.out.adds ha).cell 0) (And.intro ((B1.out.adds ha).cell 1) (And.intro ((B1.out.adds ha).cell 2) (And.intro ((B1.out.adds ha).cell 3) (And.intro ((B1.out.adds ha).cell 4) ((B1.out.adds ha).cell 5))))))
  go_enter Tryz.func4, Tryz.ntmps4
  go_wp2_with fail
  refine wp_region_loose [] (fun _ _ _ => True) Adds (by kernel_rfl) (by kernel_rfl) (by simp) Adds.refl (fun _ _ _ h k => Adds.trans h k) (fun _ _ _ _ _ _ => trivial) ?_
  repeat (refine wpL_step (fun K hK => ?_); first
    | (refine stepL_ex (v := .bool true) rfl rfl rfl Adds.refl ?_ ?_; (· (intro w' hw'; clear hK; go_simp)); go_simp; refine hK _ ?_; clear hK K)
    | (refine stepL_ex (v := .bool false) rfl rfl rfl Adds.refl ?_ ?_; (· (intro w' hw'; clear hK; go_simp)); go_simp; refine hK _ ?_; clear hK K)
    | (refine stepL_ex rfl rfl rfl Adds.refl (fun w' hw' => rfl) ?_; go_simp; refine hK _ ?_; clear hK K)
    | (refine stepL_skip rfl rfl rfl ?_; go_simp; refine hK _ ?_; clear hK K)
    | (refine stepL_call (v := .bool false) (f := 5) (args := #[startV (.slice ap fl cp) (fs, x1, x2, x3) f (.slice aw wl cw)]) rfl rfl rfl ?_ (fun w' hw' => HSm.out w' (Adds.trans A1.out (Adds.trans (Adds.drew _) hw'))) ?_; (· (intro w'; clear hK; go_simp)); go_simp; refine hK _ ?_; clear hK K)
    | (refine stepL_ex (v := startV (.slice ap fl cp) (fs, x1, x2, x3) f (.slice aw wl cw)) rfl rfl rfl Adds.refl ?_ ?_; (· (intro w' hw'; clear hK; obtain ⟨a0, a1, a2, a3, a4, a5⟩ := HX.out _ (Adds.trans (Adds.drew _) hw'); go_simp)); go_simp; refine hK _ ?_; clear hK K)
    | (refine stepL_ex (v := .int .i64 (nl : Int)) rfl rfl rfl Adds.refl ?_ ?_; (· (intro w' hw'; clear hK; obtain ⟨a0, a1, a2, a3, a4, a5⟩ := HX.out _ (Adds.trans (Adds.drew _) hw'); go_simp)); go_simp; refine hK _ ?_; clear hK K)
    | (refine stepL_ex (v := pgV (.slice ap fl cp) (fs, x1, x2, x3)) rfl rfl rfl Adds.refl ?_ ?_; (· (intro w' hw'; clear hK; obtain ⟨a0, a1, a2, a3, a4, a5⟩ := HX.out _ (Adds.trans (Adds.drew _) hw'); go_simp)); go_simp; refine hK _ ?_; clear hK K)
    | (refine stepL_ex (v := .int .i64 f) rfl rfl rfl Adds.refl ?_ ?_; (· (intro w' hw'; clear hK; obtain ⟨a0, a1, a2, a3, a4, a5⟩ := HX.out _ (Adds.trans (Adds.drew _) hw'); go_simp)); go_simp; refine hK _ ?_; clear hK K)
    | (refine stepL_ex (v := .slice ap fl cp) rfl rfl rfl Adds.refl ?_ ?_; (· (intro w' hw'; clear hK; obtain ⟨a0, a1, a2, a3, a4, a5⟩ := HX.out _ (Adds.trans (Adds.drew _) hw'); go_simp)); go_simp; refine hK _ ?_; clear hK K)
    | (refine stepL_ex (v := .int .i64 (fl : Int)) rfl rfl rfl Adds.refl ?_ ?_; (· (intro w' hw'; clear hK; obtain ⟨a0, a1, a2, a3, a4, a5⟩ := HX.out _ (Adds.trans (Adds.drew _) hw'); go_simp)); go_simp; refine hK _ ?_; clear hK K)
    | (refine stepL_ex (v := .slice aw wl cw) rfl rfl rfl Adds.refl ?_ ?_; (· (intro w' hw'; clear hK; obtain ⟨a0, a1, a2, a3, a4, a5⟩ := HX.out _ (Adds.trans (Adds.drew _) hw'); go_simp)); go_simp; refine hK _ ?_; clear hK K)
    | (refine stepL_ex (v := .int .i64 (wl : Int)) rfl rfl rfl Adds.refl ?_ ?_; (· (intro w' hw'; clear hK; obtain ⟨a0, a1, a2, a3, a4, a5⟩ := HX.out _ (Adds.trans (Adds.drew _) hw'); go_simp)); go_simp; refine hK _ ?_; clear hK K)
    | (refine stepL_ex (v := .int .i64 0) rfl rfl rfl Adds.refl ?_ ?_; (· (intro w' hw'; clear hK; obtain ⟨a0, a1, a2, a3, a4, a5⟩ := HX.out _ (Adds.trans (Adds.drew _) hw'); go_simp)); go_simp; refine hK _ ?_; clear hK K))
  refine wpL_nil ?_
  intro w3 a3
  simp only [forL]
  have A3 := Lib.hid (Adds.trans A1.out (Adds.trans (Adds.drew _) a3))
  clear a3
  go_wp2_with (go_at_call 6; refine (works12 _).mono ?_; rintro e w4 ⟨rfl, a4⟩; have A4 := Lib.hid (Adds.trans A3.out a4); clear a4)
  go_ret
  exact ⟨rfl, A4.out⟩
set_option maxRecDepth 100000 in
set_option maxHeartbeats 8000000 in
theorem holds_c2 {w : World} {ap aw aa : Option Addr} {fl cp wl cw nl ca : Nat} {fs : List Fu} {x1 x2 x3 f : Int}
    (HSm : Hid (∀ W, Adds w W → Calls Tryz.prog 5 #[startV (.slice ap fl cp) (fs, x1, x2, x3) f (.slice aw wl cw)] W fun e w' => e = .returned (.bool true) ∧ Adds W w')) (h1 : (80 : Int) < (nl : Int))
    : Calls Tryz.prog 4 #[startV (.slice ap fl cp) (fs, x1, x2, x3) f (.slice aw wl cw), .slice aa nl ca] w (TrueAdds w) := by
  obtain ⟨w1, hw1⟩ : ∃ w1, w.alloc (.cells #[.slice ap fl cp, .int .i64 x1, .int .i64 x2, .int .i64 x3, .int .i64 f, .slice aw wl cw] 27) = w1 := ⟨_, rfl⟩
  have A1 := Lib.hid (show Adds w w1 by rw [← hw1]; exact (Gr.new _ _).adds)
  have B1 := Lib.hid (show BkS 27 w1 w.heap.size [.slice ap fl cp, .int .i64 x1, .int .i64 x2, .int .i64 x3, .int .i64 f, .slice aw wl cw] by rw [← hw1]; exact BkS.new _ _ _)
  have HX := Lib.hid (fun (W : World) (ha : Adds w1 W) => And.intro ((B1.out.adds ha).cell 0) (And.intro ((B1.out.adds ha).cell 1) (And.intro ((B1.out.adds ha).cell 2) (And.intro ((B1.out.adds ha).cell 3) (And.intro ((B1.out.adds ha).cell 4) ((B1.out.adds ha).cell 5))))))
  go_enter Tryz.func4, Tryz.ntmps4
  go_wp2_with fail
  refine wp_region_loose [] (fun _ _ _ => True) Adds (by kernel_rfl) (by kernel_rfl) (by simp) Adds.refl (fun _ _ _ h k => Adds.trans h k) (fun _ _ _ _ _ _ => trivial) ?_
  repeat (refine wpL_step (fun K hK => ?_); first
    | (refine stepL_ex (v := .bool true) rfl rfl rfl Adds.refl ?_ ?_; (· (intro w' hw'; clear hK; go_simp)); go_simp; refine hK _ ?_; clear hK K)
    | (refine stepL_ex (v := .bool false) rfl rfl rfl Adds.refl ?_ ?_; (· (intro w' hw'; clear hK; go_simp)); go_simp; refine hK _ ?_; clear hK K)
    | (refine stepL_ex rfl rfl rfl Adds.refl (fun w' hw' => rfl) ?_; go_simp; refine hK _ ?_; clear hK K)
    | (refine stepL_skip rfl rfl rfl ?_; go_simp; refine hK _ ?_; clear hK K)
    | (refine stepL_call (v := .bool true) (f := 5) (args := #[startV (.slice ap fl cp) (fs, x1, x2, x3) f (.slice aw wl cw)]) rfl rfl rfl ?_ (fun w' hw' => HSm.out w' (Adds.trans A1.out (Adds.trans (Adds.drew _) hw'))) ?_; (· (intro w'; clear hK; go_simp)); go_simp; refine hK _ ?_; clear hK K)
    | (refine stepL_ex (v := startV (.slice ap fl cp) (fs, x1, x2, x3) f (.slice aw wl cw)) rfl rfl rfl Adds.refl ?_ ?_; (· (intro w' hw'; clear hK; obtain ⟨a0, a1, a2, a3, a4, a5⟩ := HX.out _ (Adds.trans (Adds.drew _) hw'); go_simp)); go_simp; refine hK _ ?_; clear hK K)
    | (refine stepL_ex (v := .int .i64 (nl : Int)) rfl rfl rfl Adds.refl ?_ ?_; (· (intro w' hw'; clear hK; obtain ⟨a0, a1, a2, a3, a4, a5⟩ := HX.out _ (Adds.trans (Adds.drew _) hw'); go_simp)); go_simp; refine hK _ ?_; clear hK K)
    | (refine stepL_ex (v := pgV (.slice ap fl cp) (fs, x1, x2, x3)) rfl rfl rfl Adds.refl ?_ ?_; (· (intro w' hw'; clear hK; obtain ⟨a0, a1, a2, a3, a4, a5⟩ := HX.out _ (Adds.trans (Adds.drew _) hw'); go_simp)); go_simp; refine hK _ ?_; clear hK K)
    | (refine stepL_ex (v := .int .i64 f) rfl rfl rfl Adds.refl ?_ ?_; (· (intro w' hw'; clear hK; obtain ⟨a0, a1, a2, a3, a4, a5⟩ := HX.out _ (Adds.trans (Adds.drew _) hw'); go_simp)); go_simp; refine hK _ ?_; clear hK K)
    | (refine stepL_ex (v := .slice ap fl cp) rfl rfl rfl Adds.refl ?_ ?_; (· (intro w' hw'; clear hK; obtain ⟨a0, a1, a2, a3, a4, a5⟩ := HX.out _ (Adds.trans (Adds.drew _) hw'); go_simp)); go_simp; refine hK _ ?_; clear hK K)
    | (refine stepL_ex (v := .int .i64 (fl : Int)) rfl rfl rfl Adds.refl ?_ ?_; (· (intro w' hw'; clear hK; obtain ⟨a0, a1, a2, a3, a4, a5⟩ := HX.out _ (Adds.trans (Adds.drew _) hw'); go_simp)); go_simp; refine hK _ ?_; clear hK K)
    | (refine stepL_ex (v := .slice aw wl cw) rfl rfl rfl Adds.refl ?_ ?_; (· (intro w' hw'; clear hK; obtain ⟨a0, a1, a2, a3, a4, a5⟩ := HX.out _ (Adds.trans (Adds.drew _) hw'); go_simp)); go_simp; refine hK _ ?_; clear hK K)
    | (refine stepL_ex (v := .int .i64 (wl : Int)) rfl rfl rfl Adds.refl ?_ ?_; (· (intro w' hw'; clear hK; obtain ⟨a0, a1, a2, a3, a4, a5⟩ := HX.out _ (Adds.trans (Adds.drew _) hw'); go_simp)); go_simp; refine hK _ ?_; clear hK K)
    | (refine stepL_ex (v := .int .i64 0) rfl rfl rfl Adds.refl ?_ ?_; (· (intro w' hw'; clear hK; obtain ⟨a0, a1, a2, a3, a4, a5⟩ := HX.out _ (Adds.trans (Adds.drew _) hw'); go_simp)); go_simp; refine hK _ ?_; clear hK K))
  refine wpL_nil ?_
  intro w3 a3
  simp only [forL]
  have A3 := Lib.hid (Adds.trans A1.out (Adds.trans (Adds.drew _) a3))
  clear a3
  go_wp2_with (go_at_call 6; refine (works12 _).mono ?_; rintro e w4 ⟨rfl, a4⟩; have A4 := Lib.hid (Adds.trans A3.out a4); clear a4)
  go_ret
  exact ⟨rfl, A4.out⟩
set_option maxRecDepth 100000 in
set_option maxHeartbeats 8000000 in
theorem holds_c3 {w : World} {ap aw aa : Option Addr} {fl cp wl cw nl ca : Nat} {fs : List Fu} {x1 x2 x3 f : Int}
    (HSm : Hid (∀ W, Adds w W → Calls Tryz.prog 5 #[startV (.slice ap fl cp) (fs, x1, x2, x3) f (.slice aw wl cw)] W fun e w' => e = .returned (.bool true) ∧ Adds W w')) (HRt : Hid (∀ W, Adds w W → Calls Tryz.prog 11 #[pgV (.slice ap fl cp) (fs, x1, x2, x3)] W fun e w' => e = .returned (.bool false) ∧ Adds W w')) (h1 : ¬ (80 : Int) < (nl : Int))
    : Calls Tryz.prog 4 #[startV (.slice ap fl cp) (fs, x1, x2, x3) f (.slice aw wl cw), .slice aa nl ca] w (TrueAdds w) := by
  obtain ⟨w1, hw1⟩ : ∃ w1, w.alloc (.cells #[.slice ap fl cp, .int .i64 x1, .int .i64 x2, .int .i64 x3, .int .i64 f, .slice aw wl cw] 27) = w1 := ⟨_, rfl⟩
  have A1 := Lib.hid (show Adds w w1 by rw [← hw1]; exact (Gr.new _ _).adds)
  have B1 := Lib.hid (show BkS 27 w1 w.heap.size [.slice ap fl cp, .int .i64 x1, .int .i64 x2, .int .i64 x3, .int .i64 f, .slice aw wl cw] by rw [← hw1]; exact BkS.new _ _ _)
  have HX := Lib.hid (fun (W : World) (ha : Adds w1 W) => And.intro ((B1.out.adds ha).cell 0) (And.intro ((B1.out.adds ha).cell 1) (And.intro ((B1.out.adds ha).cell 2) (And.intro ((B1.out.adds ha).cell 3) (And.intro ((B1.out.adds ha).cell 4) ((B1.out.adds ha).cell 5))))))
  go_enter Tryz.func4, Tryz.ntmps4
  go_wp2_with fail
  refine wp_region_loose [] (fun _ _ _ => True) Adds (by kernel_rfl) (by kernel_rfl) (by simp) Adds.refl (fun _ _ _ h k => Adds.trans h k) (fun _ _ _ _ _ _ => trivial) ?_
  repeat (refine wpL_step (fun K hK => ?_); first
    | (refine stepL_ex (v := .bool true) rfl rfl rfl Adds.refl ?_ ?_; (· (intro w' hw'; clear hK; go_simp)); go_simp; refine hK _ ?_; clear hK K)
    | (refine stepL_ex (v := .bool false) rfl rfl rfl Adds.refl ?_ ?_; (· (intro w' hw'; clear hK; go_simp)); go_simp; refine hK _ ?_; clear hK K)
    | (refine stepL_ex rfl rfl rfl Adds.refl (fun w' hw' => rfl) ?_; go_simp; refine hK _ ?_; clear hK K)
    | (refine stepL_skip rfl rfl rfl ?_; go_simp; refine hK _ ?_; clear hK K)
    | (refine stepL_call (v := .bool true) (f := 5) (args := #[startV (.slice ap fl cp) (fs, x1, x2, x3) f (.slice aw wl cw)]) rfl rfl rfl ?_ (fun w' hw' => HSm.out w' (Adds.trans A1.out (Adds.trans (Adds.drew _) hw'))) ?_; (· (intro w'; clear hK; go_simp)); go_simp; refine hK _ ?_; clear hK K)
    | (refine stepL_call (v := .bool false) (f := 11) (args := #[pgV (.slice ap fl cp) (fs, x1, x2, x3)]) rfl rfl rfl ?_ (fun w' hw' => HRt.out w' (Adds.trans A1.out (Adds.trans (Adds.drew _) hw'))) ?_; (· (intro w'; clear hK; go_simp)); go_simp; refine hK _ ?_; clear hK K)
    | (refine stepL_ex (v := startV (.slice ap fl cp) (fs, x1, x2, x3) f (.slice aw wl cw)) rfl rfl rfl Adds.refl ?_ ?_; (· (intro w' hw'; clear hK; obtain ⟨a0, a1, a2, a3, a4, a5⟩ := HX.out _ (Adds.trans (Adds.drew _) hw'); go_simp)); go_simp; refine hK _ ?_; clear hK K)
    | (refine stepL_ex (v := .int .i64 (nl : Int)) rfl rfl rfl Adds.refl ?_ ?_; (· (intro w' hw'; clear hK; obtain ⟨a0, a1, a2, a3, a4, a5⟩ := HX.out _ (Adds.trans (Adds.drew _) hw'); go_simp)); go_simp; refine hK _ ?_; clear hK K)
    | (refine stepL_ex (v := pgV (.slice ap fl cp) (fs, x1, x2, x3)) rfl rfl rfl Adds.refl ?_ ?_; (· (intro w' hw'; clear hK; obtain ⟨a0, a1, a2, a3, a4, a5⟩ := HX.out _ (Adds.trans (Adds.drew _) hw'); go_simp)); go_simp; refine hK _ ?_; clear hK K)
    | (refine stepL_ex (v := .int .i64 f) rfl rfl rfl Adds.refl ?_ ?_; (· (intro w' hw'; clear hK; obtain ⟨a0, a1, a2, a3, a4, a5⟩ := HX.out _ (Adds.trans (Adds.drew _) hw'); go_simp)); go_simp; refine hK _ ?_; clear hK K)
    | (refine stepL_ex (v := .slice ap fl cp) rfl rfl rfl Adds.refl ?_ ?_; (· (intro w' hw'; clear hK; obtain ⟨a0, a1, a2, a3, a4, a5⟩ := HX.out _ (Adds.trans (Adds.drew _) hw'); go_simp)); go_simp; refine hK _ ?_; clear hK K)
    | (refine stepL_ex (v := .int .i64 (fl : Int)) rfl rfl rfl Adds.refl ?_ ?_; (· (intro w' hw'; clear hK; obtain ⟨a0, a1, a2, a3, a4, a5⟩ := HX.out _ (Adds.trans (Adds.drew _) hw'); go_simp)); go_simp; refine hK _ ?_; clear hK K)
    | (refine stepL_ex (v := .slice aw wl cw) rfl rfl rfl Adds.refl ?_ ?_; (· (intro w' hw'; clear hK; obtain ⟨a0, a1, a2, a3, a4, a5⟩ := HX.out _ (Adds.trans (Adds.drew _) hw'); go_simp)); go_simp; refine hK _ ?_; clear hK K)
    | (refine stepL_ex (v := .int .i64 (wl : Int)) rfl rfl rfl Adds.refl ?_ ?_; (· (intro w' hw'; clear hK; obtain ⟨a0, a1, a2, a3, a4, a5⟩ := HX.out _ (Adds.trans (Adds.drew _) hw'); go_simp)); go_simp; refine hK _ ?_; clear hK K)
    | (refine stepL_ex (v := .int .i64 0) rfl rfl rfl Adds.refl ?_ ?_; (· (intro w' hw'; clear hK; obtain ⟨a0, a1, a2, a3, a4, a5⟩ := HX.out _ (Adds.trans (Adds.drew _) hw'); go_simp)); go_simp; refine hK _ ?_; clear hK K))
  refine wpL_nil ?_
  intro w3 a3
  simp only [forL]
  have A3 := Lib.hid (Adds.trans A1.out (Adds.trans (Adds.drew _) a3))
  clear a3
  go_wp2_with (go_at_call 6; refine (works12 _).mono ?_; rintro e w4 ⟨rfl, a4⟩; have A4 := Lib.hid (Adds.trans A3.out a4); clear a4)
  go_ret
  exact ⟨rfl, A4.out⟩
set_option maxRecDepth 100000 in
set_option maxHeartbeats 8000000 in
theorem holds_c4 {w : World} {ap aw aa : Option Addr} {fl cp wl cw nl ca : Nat} {fs : List Fu} {x1 x2 x3 f : Int}
    (HSm : Hid (∀ W, Adds w W → Calls Tryz.prog 5 #[startV (.slice ap fl cp) (fs, x1, x2, x3) f (.slice aw wl cw)] W fun e w' => e = .returned (.bool true) ∧ Adds W w')) (HRt : Hid (∀ W, Adds w W → Calls Tryz.prog 11 #[pgV (.slice ap fl cp) (fs, x1, x2, x3)] W fun e w' => e = .returned (.bool true) ∧ Adds W w')) (h1 : ¬ (80 : Int) < (nl : Int)) (h2 : f < 0)
    : Calls Tryz.prog 4 #[startV (.slice ap fl cp) (fs, x1, x2, x3) f (.slice aw wl cw), .slice aa nl ca] w (TrueAdds w) := by
  obtain ⟨w1, hw1⟩ : ∃ w1, w.alloc (.cells #[.slice ap fl cp, .int .i64 x1, .int .i64 x2, .int .i64 x3, .int .i64 f, .slice aw wl cw] 27) = w1 := ⟨_, rfl⟩
  have A1 := Lib.hid (show Adds w w1 by rw [← hw1]; exact (Gr.new _ _).adds)
  have B1 := Lib.hid (show BkS 27 w1 w.heap.size [.slice ap fl cp, .int .i64 x1, .int .i64 x2, .int .i64 x3, .int .i64 f, .slice aw wl cw] by rw [← hw1]; exact BkS.new _ _ _)
  have HX := Lib.hid (fun (W : World) (ha : Adds w1 W) => And.intro ((B1.out.adds ha).cell 0) (And.intro ((B1.out.adds ha).cell 1) (And.intro ((B1.out.adds ha).cell 2) (And.intro ((B1.out.adds ha).cell 3) (And.intro ((B1.out.adds ha).cell 4) ((B1.out.adds ha).cell 5))))))
  go_enter Tryz.func4, Tryz.ntmps4
  go_wp2_with fail
  refine wp_region_loose [] (fun _ _ _ => True) Adds (by kernel_rfl) (by kernel_rfl) (by simp) Adds.refl (fun _ _ _ h k => Adds.trans h k) (fun _ _ _ _ _ _ => trivial) ?_
  repeat (refine wpL_step (fun K hK => ?_); first
    | (refine stepL_ex (v := .bool true) rfl rfl rfl Adds.refl ?_ ?_; (· (intro w' hw'; clear hK; go_simp)); go_simp; refine hK _ ?_; clear hK K)
    | (refine stepL_ex (v := .bool false) rfl rfl rfl Adds.refl ?_ ?_; (· (intro w' hw'; clear hK; go_simp)); go_simp; refine hK _ ?_; clear hK K)
    | (refine stepL_ex rfl rfl rfl Adds.refl (fun w' hw' => rfl) ?_; go_simp; refine hK _ ?_; clear hK K)
    | (refine stepL_skip rfl rfl rfl ?_; go_simp; refine hK _ ?_; clear hK K)
    | (refine stepL_call (v := .bool true) (f := 5) (args := #[startV (.slice ap fl cp) (fs, x1, x2, x3) f (.slice aw wl cw)]) rfl rfl rfl ?_ (fun w' hw' => HSm.out w' (Adds.trans A1.out (Adds.trans (Adds.drew _) hw'))) ?_; (· (intro w'; clear hK; go_simp)); go_simp; refine hK _ ?_; clear hK K)
    | (refine stepL_call (v := .bool true) (f := 11) (args := #[pgV (.slice ap fl cp) (fs, x1, x2, x3)]) rfl rfl rfl ?_ (fun w' hw' => HRt.out w' (Adds.trans A1.out (Adds.trans (Adds.drew _) hw'))) ?_; (· (intro w'; clear hK; go_simp)); go_simp; refine hK _ ?_; clear hK K)
    | (refine stepL_ex (v := startV (.slice ap fl cp) (fs, x1, x2, x3) f (.slice aw wl cw)) rfl rfl rfl Adds.refl ?_ ?_; (· (intro w' hw'; clear hK; obtain ⟨a0, a1, a2, a3, a4, a5⟩ := HX.out _ (Adds.trans (Adds.drew _) hw'); go_simp)); go_simp; refine hK _ ?_; clear hK K)
    | (refine stepL_ex (v := .int .i64 (nl : Int)) rfl rfl rfl Adds.refl ?_ ?_; (· (intro w' hw'; clear hK; obtain ⟨a0, a1, a2, a3, a4, a5⟩ := HX.out _ (Adds.trans (Adds.drew _) hw'); go_simp)); go_simp; refine hK _ ?_; clear hK K)
    | (refine stepL_ex (v := pgV (.slice ap fl cp) (fs, x1, x2, x3)) rfl rfl rfl Adds.refl ?_ ?_; (· (intro w' hw'; clear hK; obtain ⟨a0, a1, a2, a3, a4, a5⟩ := HX.out _ (Adds.trans (Adds.drew _) hw'); go_simp)); go_simp; refine hK _ ?_; clear hK K)
    | (refine stepL_ex (v := .int .i64 f) rfl rfl rfl Adds.refl ?_ ?_; (· (intro w' hw'; clear hK; obtain ⟨a0, a1, a2, a3, a4, a5⟩ := HX.out _ (Adds.trans (Adds.drew _) hw'); go_simp)); go_simp; refine hK _ ?_; clear hK K)
    | (refine stepL_ex (v := .slice ap fl cp) rfl rfl rfl Adds.refl ?_ ?_; (· (intro w' hw'; clear hK; obtain ⟨a0, a1, a2, a3, a4, a5⟩ := HX.out _ (Adds.trans (Adds.drew _) hw'); go_simp)); go_simp; refine hK _ ?_; clear hK K)
    | (refine stepL_ex (v := .int .i64 (fl : Int)) rfl rfl rfl Adds.refl ?_ ?_; (· (intro w' hw'; clear hK; obtain ⟨a0, a1, a2, a3, a4, a5⟩ := HX.out _ (Adds.trans (Adds.drew _) hw'); go_simp)); go_simp; refine hK _ ?_; clear hK K)
    | (refine stepL_ex (v := .slice aw wl cw) rfl rfl rfl Adds.refl ?_ ?_; (· (intro w' hw'; clear hK; obtain ⟨a0, a1, a2, a3, a4, a5⟩ := HX.out _ (Adds.trans (Adds.drew _) hw'); go_simp)); go_simp; refine hK _ ?_; clear hK K)
    | (refine stepL_ex (v := .int .i64 (wl : Int)) rfl rfl rfl Adds.refl ?_ ?_; (· (intro w' hw'; clear hK; obtain ⟨a0, a1, a2, a3, a4, a5⟩ := HX.out _ (Adds.trans (Adds.drew _) hw'); go_simp)); go_simp; refine hK _ ?_; clear hK K)
    | (refine stepL_ex (v := .int .i64 0) rfl rfl rfl Adds.refl ?_ ?_; (· (intro w' hw'; clear hK; obtain ⟨a0, a1, a2, a3, a4, a5⟩ := HX.out _ (Adds.trans (Adds.drew _) hw'); go_simp)); go_simp; refine hK _ ?_; clear hK K))
  refine wpL_nil ?_
  intro w3 a3
  simp only [forL]
  have A3 := Lib.hid (Adds.trans A1.out (Adds.trans (Adds.drew _) a3))
  clear a3
  go_wp2_with (go_at_call 6; refine (works12 _).mono ?_; rintro e w4 ⟨rfl, a4⟩; have A4 := Lib.hid (Adds.trans A3.out a4); clear a4)
  go_ret
  exact ⟨rfl, A4.out⟩
set_option maxRecDepth 100000 in
set_option maxHeartbeats 8000000 in
theorem holds_c5 {w : World} {ap aw aa : Option Addr} {fl cp wl cw nl ca : Nat} {fs : List Fu} {x1 x2 x3 f : Int}
    (HSm : Hid (∀ W, Adds w W → Calls Tryz.prog 5 #[startV (.slice ap fl cp) (fs, x1, x2, x3) f (.slice aw wl cw)] W fun e w' => e = .returned (.bool true) ∧ Adds W w')) (HRt : Hid (∀ W, Adds w W → Calls Tryz.prog 11 #[pgV (.slice ap fl cp) (fs, x1, x2, x3)] W fun e w' => e = .returned (.bool true) ∧ Adds W w')) (h1 : ¬ (80 : Int) < (nl : Int)) (h2 : ¬ f < 0) (h3 : (fl : Int) ≤ f)
    : Calls Tryz.prog 4 #[startV (.slice ap fl cp) (fs, x1, x2, x3) f (.slice aw wl cw), .slice aa nl ca] w (TrueAdds w) := by
  obtain ⟨w1, hw1⟩ : ∃ w1, w.alloc (.cells #[.slice ap fl cp, .int .i64 x1, .int .i64 x2, .int .i64 x3, .int .i64 f, .slice aw wl cw] 27) = w1 := ⟨_, rfl⟩
  have A1 := Lib.hid (show Adds w w1 by rw [← hw1]; exact (Gr.new _ _).adds)
  have B1 := Lib.hid (show BkS 27 w1 w.heap.size [.slice ap fl cp, .int .i64 x1, .int .i64 x2, .int .i64 x3, .int .i64 f, .slice aw wl cw] by rw [← hw1]; exact BkS.new _ _ _)
  have HX := Lib.hid (fun (W : World) (ha : Adds w1 W) => And.intro ((B1.out.adds ha).cell 0) (And.intro ((B1.out.adds ha).cell 1) (And.intro ((B1.out.adds ha).cell 2) (And.intro ((B1.out.adds ha).cell 3) (And.intro ((B1.out.adds ha).cell 4) ((B1.out.adds ha).cell 5))))))
  go_enter Tryz.func4, Tryz.ntmps4
  go_wp2_with fail
  refine wp_region_loose [] (fun _ _ _ => True) Adds (by kernel_rfl) (by kernel_rfl) (by simp) Adds.refl (fun _ _ _ h k => Adds.trans h k) (fun _ _ _ _ _ _ => trivial) ?_
  repeat (refine wpL_step (fun K hK => ?_); first
    | (refine stepL_ex (v := .bool true) rfl rfl rfl Adds.refl ?_ ?_; (· (intro w' hw'; clear hK; go_simp)); go_simp; refine hK _ ?_; clear hK K)
    | (refine stepL_ex (v := .bool false) rfl rfl rfl Adds.refl ?_ ?_; (· (intro w' hw'; clear hK; go_simp)); go_simp; refine hK _ ?_; clear hK K)
    | (refine stepL_ex rfl rfl rfl Adds.refl (fun w' hw' => rfl) ?_; go_simp; refine hK _ ?_; clear hK K)
    | (refine stepL_skip rfl rfl rfl ?_; go_simp; refine hK _ ?_; clear hK K)
    | (refine stepL_call (v := .bool true) (f := 5) (args := #[startV (.slice ap fl cp) (fs, x1, x2, x3) f (.slice aw wl cw)]) rfl rfl rfl ?_ (fun w' hw' => HSm.out w' (Adds.trans A1.out (Adds.trans (Adds.drew _) hw'))) ?_; (· (intro w'; clear hK; go_simp)); go_simp; refine hK _ ?_; clear hK K)
    | (refine stepL_call (v := .bool true) (f := 11) (args := #[pgV (.slice ap fl cp) (fs, x1, x2, x3)]) rfl rfl rfl ?_ (fun w' hw' => HRt.out w' (Adds.trans A1.out (Adds.trans (Adds.drew _) hw'))) ?_; (· (intro w'; clear hK; go_simp)); go_simp; refine hK _ ?_; clear hK K)
    | (refine stepL_ex (v := startV (.slice ap fl cp) (fs, x1, x2, x3) f (.slice aw wl cw)) rfl rfl rfl Adds.refl ?_ ?_; (· (intro w' hw'; clear hK; obtain ⟨a0, a1, a2, a3, a4, a5⟩ := HX.out _ (Adds.trans (Adds.drew _) hw'); go_simp)); go_simp; refine hK _ ?_; clear hK K)
    | (refine stepL_ex (v := .int .i64 (nl : Int)) rfl rfl rfl Adds.refl ?_ ?_; (· (intro w' hw'; clear hK; obtain ⟨a0, a1, a2, a3, a4, a5⟩ := HX.out _ (Adds.trans (Adds.drew _) hw'); go_simp)); go_simp; refine hK _ ?_; clear hK K)
    | (refine stepL_ex (v := pgV (.slice ap fl cp) (fs, x1, x2, x3)) rfl rfl rfl Adds.refl ?_ ?_; (· (intro w' hw'; clear hK; obtain ⟨a0, a1, a2, a3, a4, a5⟩ := HX.out _ (Adds.trans (Adds.drew _) hw'); go_simp)); go_simp; refine hK _ ?_; clear hK K)
    | (refine stepL_ex (v := .int .i64 f) rfl rfl rfl Adds.refl ?_ ?_; (· (intro w' hw'; clear hK; obtain ⟨a0, a1, a2, a3, a4, a5⟩ := HX.out _ (Adds.trans (Adds.drew _) hw'); go_simp)); go_simp; refine hK _ ?_; clear hK K)
    | (refine stepL_ex (v := .slice ap fl cp) rfl rfl rfl Adds.refl ?_ ?_; (· (intro w' hw'; clear hK; obtain ⟨a0, a1, a2, a3, a4, a5⟩ := HX.out _ (Adds.trans (Adds.drew _) hw'); go_simp)); go_simp; refine hK _ ?_; clear hK K)
    | (refine stepL_ex (v := .int .i64 (fl : Int)) rfl rfl rfl Adds.refl ?_ ?_; (· (intro w' hw'; clear hK; obtain ⟨a0, a1, a2, a3, a4, a5⟩ := HX.out _ (Adds.trans (Adds.drew _) hw'); go_simp)); go_simp; refine hK _ ?_; clear hK K)
    | (refine stepL_ex (v := .slice aw wl cw) rfl rfl rfl Adds.refl ?_ ?_; (· (intro w' hw'; clear hK; obtain ⟨a0, a1, a2, a3, a4, a5⟩ := HX.out _ (Adds.trans (Adds.drew _) hw'); go_simp)); go_simp; refine hK _ ?_; clear hK K)
    | (refine stepL_ex (v := .int .i64 (wl : Int)) rfl rfl rfl Adds.refl ?_ ?_; (· (intro w' hw'; clear hK; obtain ⟨a0, a1, a2, a3, a4, a5⟩ := HX.out _ (Adds.trans (Adds.drew _) hw'); go_simp)); go_simp; refine hK _ ?_; clear hK K)
    | (refine stepL_ex (v := .int .i64 0) rfl rfl rfl Adds.refl ?_ ?_; (· (intro w' hw'; clear hK; obtain ⟨a0, a1, a2, a3, a4, a5⟩ := HX.out _ (Adds.trans (Adds.drew _) hw'); go_simp)); go_simp; refine hK _ ?_; clear hK K))
  refine wpL_nil ?_
  intro w3 a3
  simp only [forL]
  have A3 := Lib.hid (Adds.trans A1.out (Adds.trans (Adds.drew _) a3))
  clear a3
  go_wp2_with (go_at_call 6; refine (works12 _).mono ?_; rintro e w4 ⟨rfl, a4⟩; have A4 := Lib.hid (Adds.trans A3.out a4); clear a4)
  go_ret
  exact ⟨rfl, A4.out⟩

end Go.Proofs.YtdkgehhlikaocaaGreat
