/- The contract of the law's 'works': the chapter's rows. -/
import Derived.Test.YtkodjmdghjcndaaGreatDoorIQ2
namespace Go.Proofs.YtkodjmdghjcndaaGreatDoor
open Go Go.RowKit Go.Shelf

theorem num_ins (x : Int) (W : World) : Calls Tryz.prog 12 #[.int .i64 x] W fun e w' => e = .returned (.int .i64 x) ∧ W = w' := by
  go_enter Tryz.func12, Tryz.ntmps12
  go_wp2
  go_ret
  exact ⟨rfl, rfl⟩
theorem d8_1 : Lib.decDigits 1 = [49] := by rw [dec_lo (by decide)]; rfl
theorem d8_2 : Lib.decDigits 2 = [50] := by rw [dec_lo (by decide)]; rfl
theorem d8_3 : Lib.decDigits 3 = [51] := by rw [dec_lo (by decide)]; rfl
theorem d8_4 : Lib.decDigits 4 = [52] := by rw [dec_lo (by decide)]; rfl
theorem ok_ins (a b c d e : Int) (h1 : (Lit.int .i64 a).wf = true) (h2 : 0 ≤ e ∧ e < 4294967296) : OkIn (a, b, c, d, e) := ⟨h1, h2⟩
theorem txt_i1 : textI (8, 1, 2, 3, 4) = [99, 97, 108, 108, 32, 114, 49, 32, 114, 50, 32, 51, 32, 102, 52] := by
  rw [textI_cons]
  show [99, 97, 108, 108] ++ ((32 :: ([114] ++ Lib.decDigits 1)) ++ ((32 :: ([114] ++ Lib.decDigits 2)) ++ ((32 :: ([] ++ Lib.decDigits 3)) ++ ((32 :: ([102] ++ Lib.decDigits 4)) ++ [])))) = _
  rw [d8_1, d8_2, d8_3, d8_4]
  rfl
theorem txt_i2 : textI (3, 1, 2, 3, 11) = [108, 101, 115, 115, 32, 114, 49, 32, 114, 50, 32, 114, 51] := by
  rw [textI_cons]
  show [108, 101, 115, 115] ++ ((32 :: ([114] ++ Lib.decDigits 1)) ++ ((32 :: ([114] ++ Lib.decDigits 2)) ++ ((32 :: ([114] ++ Lib.decDigits 3)) ++ ([] ++ [])))) = _
  rw [d8_1, d8_2, d8_3]
  rfl
theorem i_text (w : World) (hv : IVars w) : Calls Tryz.prog 9 #[.agg #[.int .i64 8, .int .i64 1, .int .i64 2, .int .i64 3, .int .u32 4]] w fun e w' => e = .returned (.tuple #[.string ⟨#[99, 97, 108, 108, 32, 114, 49, 32, 114, 50, 32, 51, 32, 102, 52]⟩, .int .i64 0]) ∧ Adds w w' := by
  have h := text8_yes (8, 1, 2, 3, 4) (ok_ins _ _ _ _ _ (by decide) (by decide)) (by decide) w hv
  rw [txt_i1] at h
  exact h
theorem i_parse1 (w : World) (hv : IVars w) : Calls Tryz.prog 10 #[.string ⟨#[108, 101, 115, 115, 32, 114, 49, 32, 114, 50, 32, 114, 51]⟩] w fun e w' => e = .returned (.tuple #[insV (3, 1, 2, 3, 11), .int .i64 0]) ∧ Adds w w' := by
  have h := parse8 ⟨#[108, 101, 115, 115, 32, 114, 49, 32, 114, 50, 32, 114, 51]⟩ (by decide) w hv
  have e : parseI [108, 101, 115, 115, 32, 114, 49, 32, 114, 50, 32, 114, 51] = ((3, 1, 2, 3, 11), 0) := by rw [← txt_i2]; exact parseI_yes (by decide)
  rw [show (⟨#[108, 101, 115, 115, 32, 114, 49, 32, 114, 50, 32, 114, 51]⟩ : ByteArray).data.toList = [108, 101, 115, 115, 32, 114, 49, 32, 114, 50, 32, 114, 51] from rfl, e] at h
  exact h
theorem read_i2 : textR [108, 111, 97, 100, 32, 114, 49, 32, 114, 49, 54] = some (6, 1, 16, 0, 0) := by decide +kernel
theorem i_parse2 (w : World) (hv : IVars w) : Calls Tryz.prog 10 #[.string ⟨#[108, 111, 97, 100, 32, 114, 49, 32, 114, 49, 54]⟩] w fun e w' => e = .returned (.tuple #[insV (0, 0, 0, 0, 0), .int .i64 180]) ∧ Adds w w' := by
  have h := parse8 ⟨#[108, 111, 97, 100, 32, 114, 49, 32, 114, 49, 54]⟩ (by decide) w hv
  have e : parseI [108, 111, 97, 100, 32, 114, 49, 32, 114, 49, 54] = ((0, 0, 0, 0, 0), 180) := by
    rw [parseI_is, read_i2]
    exact parseO_no (by decide)
  rw [show (⟨#[108, 111, 97, 100, 32, 114, 49, 32, 114, 49, 54]⟩ : ByteArray).data.toList = [108, 111, 97, 100, 32, 114, 49, 32, 114, 49, 54] from rfl, e] at h
  exact h
theorem i_bytes (w : World) (hv : Widths w) : Calls Tryz.prog 29 #[.agg #[.int .i64 5, .int .i64 1, .int .i64 0, .int .i64 0, .int .u32 258]] w fun e w' => ∃ v, e = .returned (.tuple #[v, .int .i64 0]) ∧ OwnB w' w.heap.size v [5, 1, 2, 1, 0, 0] ∧ Adds w w' :=
  bytes8_yes (5, 1, 0, 0, 258) (ok_ins _ _ _ _ _ (by decide) (by decide)) (by decide) w hv
theorem i_check (w : World) : Calls Tryz.prog 31 #[.agg #[.int .i64 8, .int .i64 0, .int .i64 15, .int .i64 2, .int .u32 0]] w fun e w' => e = .returned (.int .i64 2) ∧ Adds w w' :=
  check8 (8, 0, 15, 2, 0) (ok_ins _ _ _ _ _ (by decide) (by decide)) w
theorem i_read1 (w : World) (hv : Widths w) : Calls Tryz.prog 30 #[.slice (some ⟨w.heap.size, 0, none⟩) 3 3] (w.alloc (.cells #[.int .u8 6, .int .u8 16, .int .u8 0] 5)) fun e w' => e = .returned (.tuple #[insV (0, 0, 0, 0, 0), .int .i64 0, .int .i64 180]) ∧ Adds w w' :=
  (read8 _ [6, 16, 0] _ (OwnB.lit w [6, 16, 0] (by simp [maxLen])).bytes (hv.adds (adds_alloc _ _))).mono fun _ _ ⟨h1, h2⟩ => ⟨h1, (adds_alloc _ _).trans h2⟩
theorem i_read2 (k : Nat) (w : World) (hk : k = w.heap.size) (hv : Widths w) : Calls Tryz.prog 30 #[.slice (some ⟨k, 0, none⟩) 2 2] (w.alloc (.cells #[.int .u8 6, .int .u8 1] 5)) fun e w' => e = .returned (.tuple #[insV (0, 0, 0, 0, 0), .int .i64 0, .int .i64 110]) ∧ Adds w w' :=
  hk ▸ (read8 _ [6, 1] _ (OwnB.lit w [6, 1] (by simp [maxLen])).bytes (hv.adds (adds_alloc _ _))).mono fun _ _ ⟨h1, h2⟩ => ⟨h1, (adds_alloc _ _).trans h2⟩
def TrueI (w : World) (e : Ending) (w' : World) : Prop := e = .returned (.bool true) ∧ Adds w w'
set_option maxRecDepth 100000 in
set_option maxHeartbeats 4000000 in
theorem worksI (w : World) (hv : IVars w) : Calls Tryz.prog 8 #[] w (TrueI w) := by
  have HV := Lib.hid hv; clear hv
  have hn := num_ins
  have hq := ins_eql (3, 1, 2, 3, 11) (3, 1, 2, 3, 11)
  rw [show eqI (3, 1, 2, 3, 11) (3, 1, 2, 3, 11) = true by decide] at hq
  go_enter Tryz.func8, Tryz.ntmps8
  go_wp2_with (first
    | (go_at_call 9; refine (i_text _ HV.out).mono ?_; rintro e w1 ⟨rfl, a1⟩; have A1 := Lib.hid a1; clear a1)
    | (go_at_call 10; refine (i_parse1 _ (HV.out.adds A1.out)).mono ?_; rintro e w2 ⟨rfl, a2⟩; have A2 := Lib.hid (Adds.trans A1.out a2); clear a2 A1)
    | (go_at_call 29; refine (i_bytes _ ((HV.out.adds (Adds.trans A2.out (Gr.new w2 _).adds)).wid)).mono ?_; rintro e w5 ⟨v, rfl, o5, a5⟩; obtain ⟨k3, hk3⟩ : ∃ k3, w2.heap.size = k3 := ⟨_, rfl⟩; have B3 := Lib.hid (show BkS 25 w5 k3 (insC (3, 1, 2, 3, 11)) by rw [← hk3]; exact (BkS.new _ _ _).adds a5); have A5 := Lib.hid (Adds.trans A2.out (Adds.trans (Gr.new w2 _).adds a5)); have O5 := Lib.hid o5.bytes; rw [hk3]; clear a5 A2 hk3 o5)
    | (go_at_call 30; refine (i_read1 _ ((HV.out.adds A5.out).wid)).mono ?_; rintro e w6 ⟨rfl, a6⟩; have A6 := Lib.hid (Adds.trans A5.out a6); have C3 := Lib.hid (B3.out.adds a6); have O6 := Lib.hid (O5.out.below a6); have A56 := Lib.hid a6.size; clear a6 A5 B3)
    | (go_at_call 30; refine (i_read2 _ _ (by simp) ((HV.out.adds (Adds.trans A6.out (Gr.new w6 _).adds)).wid)).mono ?_; rintro e w7 ⟨rfl, a7⟩; have a67 := Adds.trans (Gr.new w6 (.cells #[.int .i64 0, .int .i64 0, .int .i64 0, .int .i64 0, .int .u32 0] 25)).adds a7; have A7 := Lib.hid (Adds.trans A6.out a67); have D3 := Lib.hid (C3.out.adds a67); have O7 := Lib.hid (O6.out.below (a67.mono A56.out)); have A57 := Lib.hid (Nat.le_trans A56.out a67.size); clear a7 a67 A6 C3)
    | (go_at_call 10; refine (i_parse2 _ (HV.out.adds (Adds.trans A7.out (Gr.new w7 _).adds))).mono ?_; rintro e w8 ⟨rfl, a8⟩; have a78 := Adds.trans (Gr.new w7 (.cells #[.int .i64 0, .int .i64 0, .int .i64 0, .int .i64 0, .int .u32 0] 25)).adds a8; have A8 := Lib.hid (Adds.trans A7.out a78); have E3 := Lib.hid (D3.out.adds a78); have O8 := Lib.hid (O7.out.below (a78.mono A57.out)); clear a8 A7 D3; have a9 := (Gr.new w8 (.cells #[.int .i64 0, .int .i64 0, .int .i64 0, .int .i64 0, .int .u32 0] 25)).adds; have b3 := E3.out.adds a9; have c0 := fun o => ((E3.out.adds (Gr.new w8 o).adds).cell 0); have c1 := fun o => ((E3.out.adds (Gr.new w8 o).adds).cell 1); have c2 := fun o => ((E3.out.adds (Gr.new w8 o).adds).cell 2); have c3 := fun o => ((E3.out.adds (Gr.new w8 o).adds).cell 3); have c4 := fun o => ((E3.out.adds (Gr.new w8 o).adds).cell 4); have hcv : ∀ o, (convert 42 9 v).run Tryz.prog (w8.alloc o) = .ok (.string ⟨#[5, 1, 2, 1, 0, 0]⟩) (w8.alloc o) := fun o => strAt ((O8.out.here.below (Gr.new w8 o).adds).here); clear b3 a9)
    | (go_at_call 31; refine (i_check _).mono ?_; rintro e w9 ⟨rfl, a9⟩; have A9 := Lib.hid a9; clear a9)
    | (go_at_call 12; refine (hn _ _).mono ?_; rintro e w10 ⟨rfl, rfl⟩))
  go_ret
  exact ⟨rfl, Adds.trans A8.out (Adds.trans (Gr.new w8 _).adds A9.out)⟩
end Go.Proofs.YtkodjmdghjcndaaGreatDoor
