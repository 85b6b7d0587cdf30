/- The law SiteTexts, walked. -/
import Derived.Test.YtnhapmodgmkbjaaDoorLoose2
import Derived.Test.YtnhapmodgmkbjaaDoorSW
import Derived.Test.YtnhapmodgmkbjaaDoorSR2
namespace Go.Proofs.YtnhapmodgmkbjaaDoor
open Go Go.RowKit Go.Shelf Go.Sort

theorem rdV_form (o : Option Si) : ∃ (x1 x2 er : Int), rdV o = .tuple #[.agg #[.int .i64 x1, .int .i64 x2], .int .i64 er] := by
  cases o with
  | none => exact ⟨0, 0, 170, rfl⟩
  | some s => exact ⟨s.1, s.2, 0, rfl⟩
theorem ref7_at (f p : Int) (W : World) : Calls Tryd.prog 11 #[.agg #[.int .i64 f, .int .i64 p]] W fun e w' => e = .returned (.bool (rightS (f, p))) ∧ Gr W w' := refRight_any (f, p) W
set_option maxRecDepth 100000 in
theorem texts_long (a : Si) (S : ByteArray) (hS : 60 < S.size) (w : World) (hv : SVars w) : Calls Tryd.prog 3 #[siV a, .string S] w (TrueAdds w) := by
  have HW := Lib.hid (works_any _ (hv.gr (Gr.new w (.cells #[.int .i64 a.1, .int .i64 a.2] 23))))
  obtain ⟨a1, a2⟩ := a
  have hI : (60 : Int) < (S.size : Int) := by omega
  clear hv hS
  go_enter Tryd.func3, Tryd.ntmps3
  go_wp2_with (go_at_call 6; refine HW.out.mono ?_; rintro e w2 ⟨rfl, h1⟩; have H1 := Lib.hid (Adds.trans (Gr.new w _).adds h1); clear h1)
  go_ret
  exact ⟨rfl, H1.out⟩
set_option maxRecDepth 100000 in
set_option maxHeartbeats 4000000 in
theorem texts_no (a : Si) (hr : rightS a = false) (l : List UInt8) (hl0 : l.length ≤ 60) (w : World) (hv : SVars w) : Calls Tryd.prog 3 #[siV a, .string (str l)] w (TrueAdds w) := by
  have hl : l.length ≤ 1000000 := by omega
  have hne : ¬ rightS a = true := by rw [hr]; simp
  have HT := Lib.hid (fun (W : World) (_ : Adds w W) => siteText_no a hne W)
  have hn := num_site
  have HP := Lib.hid (fun (W : World) (h : Adds w W) => siteParse_any l hl W (hv.below h))
  have HRP := Lib.hid (fun (W : World) (h : Adds w W) => refParse7_any (str l) (by rw [str_size]; omega) W (hv.below h))
  rw [str_list] at HRP
  obtain ⟨x1, x2, er, hx⟩ := rdV_form (parseT l)
  rw [hx] at HP HRP
  have hq := site_neq x1 x2 x1 x2
  rw [show eqS (x1, x2) (x1, x2) = true from eqS_iff.2 rfl] at hq
  have hI : ((str l).size : Int) ≤ 60 := by rw [str_size]; omega
  obtain ⟨a1, a2⟩ := a
  have HR := Lib.hid (ref7_at a1 a2)
  rw [hr] at HR
  have HV := Lib.hid hv
  have HCk := Lib.hid (show chkE (a1, a2) = 2 by unfold chkE; rw [if_neg hne])
  clear hv hl0 hl hr hx hne
  obtain ⟨S, hS⟩ : ∃ S, str l = S := ⟨_, rfl⟩
  rw [hS] at HP HRP hI ⊢
  clear hS
  go_enter Tryd.func3, Tryd.ntmps3
  go_wp2_with (first
    | (go_at_call 7; refine (HT.out _ (Gr.new w _).adds).mono ?_; rintro e w2 ⟨rfl, h2⟩; have BA := Lib.hid (show BkS 23 w2 w.heap.size [.int .i64 a1, .int .i64 a2] from (BkS.new _ _ _).adds h2.adds); have H2 := Lib.hid (Adds.trans (Gr.new w _).adds h2.adds); clear h2)
    | (go_at_call 8; refine (HP.out _ H2.out).mono ?_; rintro e w3 ⟨rfl, h3⟩; have BA3 := Lib.hid (BA.out.adds h3); have H3 := Lib.hid (Adds.trans H2.out h3); clear h3 BA HP)
    | (go_at_call 9; refine (HRP.out _ (Adds.trans H3.out (Gr.new w3 _).adds)).mono ?_; rintro e w5 ⟨rfl, h5⟩; have b7 : BkS 23 w5 w3.heap.size [.int .i64 x1, .int .i64 x2] := (BkS.new _ _ _).adds h5; have ba5 := (BA3.out.adds (Gr.new w3 _).adds).adds h5; have c70 : w5.cell? ⟨w3.heap.size, 0, none⟩ = some (.int .i64 x1) := b7.cell 0; have c71 : w5.cell? ⟨w3.heap.size, 1, none⟩ = some (.int .i64 x2) := b7.cell 1; have ca0 : w5.cell? ⟨w.heap.size, 0, none⟩ = some (.int .i64 a1) := ba5.cell 0; have ca1 : w5.cell? ⟨w.heap.size, 1, none⟩ = some (.int .i64 a2) := ba5.cell 1; have l7 := b7.lt; have la := ba5.lt; have BA5 := Lib.hid ba5; have H5 := Lib.hid (Adds.trans H3.out (Adds.trans (Gr.new w3 _).adds h5)); clear h5 b7 ba5 BA3)
    | (go_at_call 10; refine (hn _ _).mono ?_; rintro e w10 ⟨rfl, rfl⟩)
    | (go_at_call 11; refine (HR.out _).mono ?_; rintro e w7 ⟨rfl, h7⟩; have BA7 := Lib.hid ((BA5.out.adds (Gr.new w5 _).adds).adds h7.adds); have H7 := Lib.hid (Adds.trans H5.out (Adds.trans (Gr.new w5 _).adds h7.adds)); clear h7 c70 c71 ca0 ca1 l7 la; have ca0 : w7.cell? ⟨w.heap.size, 0, none⟩ = some (.int .i64 a1) := BA7.out.cell 0; have ca1 : w7.cell? ⟨w.heap.size, 1, none⟩ = some (.int .i64 a2) := BA7.out.cell 1)
    | (go_at_call 12; refine (chk_at _ _ _).mono ?_; rintro e w8 ⟨rfl, h8⟩; rw [HCk.out]; have H8 := Lib.hid (Adds.trans H7.out h8.adds); clear h8)
    | (go_at_call 6; refine (works_any _ (HV.out.below H8.out)).mono ?_; rintro e w9 ⟨rfl, h9⟩; have H9 := Lib.hid (Adds.trans H8.out h9); clear h9))
  go_ret
  exact ⟨rfl, H9.out⟩
set_option maxRecDepth 100000 in
set_option maxHeartbeats 4000000 in
theorem texts_yes (a : Si) (hr : rightS a = true) (l : List UInt8) (hl0 : l.length ≤ 60) (w : World) (hv : SVars w) : Calls Tryd.prog 3 #[siV a, .string (str l)] w (TrueAdds w) := by
  have hmx : Tryd.prog.follows .mixedOrders = true := by kernel_rfl
  have hl : l.length ≤ 1000000 := by omega
  have hT := fun (W : World) (h : Adds w W) => siteText_any a W (hv.below h)
  have hRT := fun (W : World) (h : Adds w W) => refText_any a hr W (hv.below h)
  have hP2 : ∀ W, Adds w W → Calls Tryd.prog 8 #[.string (str (txtS a))] W fun e w' => e = .returned (.tuple #[siV a, .int .i64 0]) ∧ Adds W w' := fun W h => by
    have h0 := siteParse_any (txtS a) (by have := rightS_iff.1 hr; have h1 := dec_few a.1.toNat (by omega); have h2 := dec_few a.2.toNat (by omega); unfold txtS; simp; omega) W (hv.below h)
    rw [parseT_iff.2 ⟨hr, rfl⟩] at h0
    exact h0
  unfold textA chkE at hT
  rw [if_pos hr, if_pos hr] at hT
  obtain ⟨T, ht⟩ : ∃ T, str (txtS a) = T := ⟨_, rfl⟩
  rw [ht] at hT hRT hP2
  have HT := Lib.hid hT
  have HRT := Lib.hid hRT
  have HP2 := Lib.hid hP2
  have hqt := beqS_yes T
  have hn := num_site
  have HP := Lib.hid (fun (W : World) (h : Adds w W) => siteParse_any l hl W (hv.below h))
  have HRP := Lib.hid (fun (W : World) (h : Adds w W) => refParse7_any (str l) (by rw [str_size]; omega) W (hv.below h))
  rw [str_list] at HRP
  obtain ⟨x1, x2, er, hx⟩ := rdV_form (parseT l)
  rw [hx] at HP HRP
  have hq := site_neq x1 x2 x1 x2
  rw [show eqS (x1, x2) (x1, x2) = true from eqS_iff.2 rfl] at hq
  have hI : ((str l).size : Int) ≤ 60 := by rw [str_size]; omega
  obtain ⟨a1, a2⟩ := a
  have HR := Lib.hid (ref7_at a1 a2)
  rw [hr] at HR
  have HV := Lib.hid hv
  have hck : chkE (a1, a2) = 0 := by unfold chkE; rw [if_pos hr]
  have HCk := Lib.hid (fun (W : World) (_ : Adds w W) => hck ▸ chk_at a1 a2 W)
  have hqe := site_eql a1 a2 a1 a2
  rw [show eqS (a1, a2) (a1, a2) = true from eqS_iff.2 rfl] at hqe
  have HQE := Lib.hid hqe
  have HWk := Lib.hid (fun (W : World) (h : Adds w W) => works_any W (hv.below h))
  clear hv hl0 hl hr hx hT hRT hP2 ht hck hqe
  obtain ⟨S, hS⟩ : ∃ S, str l = S := ⟨_, rfl⟩
  rw [hS] at HP HRP hI ⊢
  clear hS
  go_enter Tryd.func3, Tryd.ntmps3
  go_wp2_with (first
    | (go_at_call 7; refine (HT.out _ (Gr.new w _).adds).mono ?_; rintro e w2 ⟨rfl, h2⟩; have BA := Lib.hid (show BkS 23 w2 w.heap.size [.int .i64 a1, .int .i64 a2] from (BkS.new _ _ _).adds h2.adds); have H2 := Lib.hid (Adds.trans (Gr.new w _).adds h2.adds); clear h2)
    | (go_at_call 8; refine (HP.out _ H2.out).mono ?_; rintro e w3 ⟨rfl, h3⟩; have BA3 := Lib.hid (BA.out.adds h3); have H3 := Lib.hid (Adds.trans H2.out h3); clear h3 BA HP)
    | (go_at_call 9; refine (HRP.out _ (Adds.trans H3.out (Gr.new w3 _).adds)).mono ?_; rintro e w5 ⟨rfl, h5⟩; have b7 : BkS 23 w5 w3.heap.size [.int .i64 x1, .int .i64 x2] := (BkS.new _ _ _).adds h5; have ba5 := (BA3.out.adds (Gr.new w3 _).adds).adds h5; have c70 : w5.cell? ⟨w3.heap.size, 0, none⟩ = some (.int .i64 x1) := b7.cell 0; have c71 : w5.cell? ⟨w3.heap.size, 1, none⟩ = some (.int .i64 x2) := b7.cell 1; have ca0 : w5.cell? ⟨w.heap.size, 0, none⟩ = some (.int .i64 a1) := ba5.cell 0; have ca1 : w5.cell? ⟨w.heap.size, 1, none⟩ = some (.int .i64 a2) := ba5.cell 1; have l7 := b7.lt; have la := ba5.lt; have BA5 := Lib.hid ba5; have H5 := Lib.hid (Adds.trans H3.out (Adds.trans (Gr.new w3 _).adds h5)); clear h5 b7 ba5 BA3)
    | (go_at_call 10; refine (hn _ _).mono ?_; rintro e w10 ⟨rfl, rfl⟩)
    | (go_at_call 11; refine (HR.out _).mono ?_; rintro e w7 ⟨rfl, h7⟩; have BA7 := Lib.hid ((BA5.out.adds (Gr.new w5 _).adds).adds h7.adds); have H7 := Lib.hid (Adds.trans H5.out (Adds.trans (Gr.new w5 _).adds h7.adds)); clear h7 c70 c71 ca0 ca1 l7 la; have ca0 : w7.cell? ⟨w.heap.size, 0, none⟩ = some (.int .i64 a1) := BA7.out.cell 0; have ca1 : w7.cell? ⟨w.heap.size, 1, none⟩ = some (.int .i64 a2) := BA7.out.cell 1)
    | (go_at_call 8; refine (HP2.out _ H7.out).mono ?_; rintro e w8 ⟨rfl, h8⟩; have BA8 := Lib.hid (BA7.out.adds h8); have H8 := Lib.hid (Adds.trans H7.out h8); clear h8 ca0 ca1))
  obtain ⟨k11, hk11⟩ : ∃ k, w8.heap.size = k := ⟨_, rfl⟩
  obtain ⟨w9, hw9⟩ : ∃ w9, w8.alloc (.cells #[.int .i64 a1, .int .i64 a2] 23) = w9 := ⟨_, rfl⟩
  have A9 := Lib.hid (show Adds w8 w9 by rw [← hw9]; exact (Gr.new _ _).adds)
  have B11 := Lib.hid (show BkS 23 w9 k11 [.int .i64 a1, .int .i64 a2] by rw [← hw9, ← hk11]; exact BkS.new _ _ _)
  have BA9 := Lib.hid (BA8.out.adds A9.out)
  have H9 := Lib.hid (Adds.trans H8.out A9.out)
  obtain ⟨k0, hk0⟩ : ∃ k, w.heap.size = k := ⟨_, rfl⟩
  have HK0 := Lib.hid hk0
  rw [hk0] at BA9
  rw [hk11]
  first | rw [hw9] | skip
  rw [hk0]
  clear hw9 hk11 hk0 BA8 A9
  have HD := Lib.hid (show ∀ w', Adds w9.drew w' → w'.cell? ⟨k0, 0, none⟩ = some (.int .i64 a1) ∧ w'.cell? ⟨k0, 1, none⟩ = some (.int .i64 a2) ∧ w'.cell? ⟨k11, 0, none⟩ = some (.int .i64 a1) ∧ w'.cell? ⟨k11, 1, none⟩ = some (.int .i64 a2) from fun w' h =>
    ⟨(BA9.out.adds (Adds.trans (Adds.drew w9) h)).cell 0, (BA9.out.adds (Adds.trans (Adds.drew w9) h)).cell 1, (B11.out.adds (Adds.trans (Adds.drew w9) h)).cell 0, (B11.out.adds (Adds.trans (Adds.drew w9) h)).cell 1⟩)
  have HN0 := Lib.hid (show ∀ w', Adds w9.drew w' → Calls Tryd.prog 10 #[.int .i64 0] w' (fun e w'' => e = .returned (.int .i64 0) ∧ Adds w' w'') from fun w' _ => (num_site 0 w').mono fun _ _ ⟨h1, h2⟩ => ⟨h1, h2 ▸ Adds.refl w'⟩)
  have HT0 := Lib.hid (show ∀ w', Adds w9.drew w' → Calls Tryd.prog 13 #[.agg #[.int .i64 a1, .int .i64 a2]] w' (fun e w'' => e = .returned (.string T) ∧ Adds w' w'') from fun w' h => (HRT.out w' (Adds.trans H9.out (Adds.trans (Adds.drew w9) h))).mono fun _ _ ⟨h1, h2⟩ => ⟨h1, h2.adds⟩)
  have HC0 := Lib.hid (show ∀ w', Adds w9.drew w' → Calls Tryd.prog 12 #[.agg #[.int .i64 a1, .int .i64 a2]] w' (fun e w'' => e = .returned (.int .i64 0) ∧ Adds w' w'') from fun w' h => (HCk.out w' (Adds.trans H9.out (Adds.trans (Adds.drew w9) h))).mono fun _ _ ⟨h1, h2⟩ => ⟨h1, h2.adds⟩)
  have HW0 := Lib.hid (show ∀ w', Adds w9.drew w' → Calls Tryd.prog 6 #[] w' (fun e w'' => e = .returned (.bool true) ∧ Adds w' w'') from fun w' h => HWk.out w' (Adds.trans H9.out (Adds.trans (Adds.drew w9) h)))
  have hqe := HQE.out
  clear hq hn hI HT HRT HP2 HR HV HCk HQE HWk
  refine wp_region_loose [] (fun _ _ _ => True) Adds (by kernel_rfl) (by kernel_rfl) (by simp) Adds.refl (fun _ _ _ h k => Adds.trans h k) (fun _ _ _ _ _ _ => trivial) ?_
  repeat (refine wpL_step (fun K hK => ?_); first
    | (refine stepL_ex rfl rfl rfl Adds.refl (fun w' hw' => rfl) ?_; go_simp; refine hK _ ?_; clear hK K)
    | (refine stepL_ex (v := .agg #[.int .i64 a1, .int .i64 a2]) rfl rfl rfl Adds.refl ?_ ?_; (· (intro w' hw'; clear hK; have hc := HD.out w' hw'; go_simp)); go_simp; refine hK _ ?_; clear hK K)
    | (refine stepL_ex (v := .bool true) rfl rfl rfl Adds.refl ?_ ?_; (· (intro w' hw'; clear hK; go_simp)); go_simp; refine hK _ ?_; clear hK K)
    | (refine stepL_ex (v := .int .i64 0) rfl rfl rfl Adds.refl ?_ ?_; (· (intro w' hw'; clear hK; go_simp)); go_simp; refine hK _ ?_; clear hK K)
    | (refine stepL_call (f := 10) (args := #[.int .i64 0]) rfl rfl rfl ?_ (fun w' hw' => HN0.out w' hw') ?_; (· (intro w'; clear hK; go_simp)); go_simp; refine hK _ ?_; clear hK K)
    | (refine stepL_call (f := 13) (args := #[.agg #[.int .i64 a1, .int .i64 a2]]) rfl rfl rfl ?_ (fun w' hw' => HT0.out w' hw') ?_; (· (intro w'; clear hK; go_simp)); go_simp; refine hK _ ?_; clear hK K)
    | (refine stepL_call (f := 12) (args := #[.agg #[.int .i64 a1, .int .i64 a2]]) rfl rfl rfl ?_ (fun w' hw' => HC0.out w' hw') ?_; (· (intro w'; clear hK; go_simp)); go_simp; refine hK _ ?_; clear hK K)
    | (refine stepL_call (f := 6) (args := #[]) rfl rfl rfl ?_ (fun w' hw' => HW0.out w' hw') ?_; (· (intro w'; clear hK; go_simp)); go_simp; refine hK _ ?_; clear hK K))
  refine wpL_nil ?_
  intro w12 a12
  simp only [forL]
  have H12 := Lib.hid (Adds.trans H9.out (Adds.trans (Adds.drew w9) a12))
  clear a12
  go_wp2
  go_ret
  exact ⟨rfl, H12.out⟩
theorem law_texts7 (a : Si) (s : ByteArray) (w : World) (hv : SVars w) : Calls Tryd.prog 3 #[siV a, .string s] w (TrueAdds w) := by
  by_cases h : 60 < s.size
  · exact texts_long a s h w hv
  · have hl : s.data.toList.length ≤ 60 := by rw [← Lib.size_eq]; omega
    rw [← str_same s]
    cases hr : rightS a
    · exact texts_no a hr _ hl w hv
    · exact texts_yes a hr _ hl w hv
end Go.Proofs.YtnhapmodgmkbjaaDoor
