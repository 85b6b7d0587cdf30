/- The law SiteBytes, walked. -/
import Derived.Test.YtnhapmodgmkbjaaDoorLoose2
import Derived.Test.YtnhapmodgmkbjaaDoorSW
import Derived.Test.YtnhapmodgmkbjaaDoorSR4
namespace Go.Proofs.YtnhapmodgmkbjaaDoor
open Go Go.RowKit Go.Shelf Go.Sort

theorem rbV_form (l : List UInt8) : ∃ (x1 x2 er : Int), rbV l = .tuple #[.agg #[.int .i64 x1, .int .i64 x2], .int .i64 er] := ⟨_, _, _, rfl⟩
theorem ref7_on (f p : Int) (W : World) : Calls Tryd.prog 11 #[.agg #[.int .i64 f, .int .i64 p]] W fun e w' => e = .returned (.bool (rightS (f, p))) ∧ Gr W w' := refRight_any (f, p) W
set_option maxRecDepth 100000 in
theorem sbytes_long {n : Nat} (a : Si) (v : Value) (l : List UInt8) (hS : 60 < l.length) (w : World) (hb : Bytes n w v l) (hv : SVars w) : Calls Tryd.prog 4 #[siV a, v] w (TrueAdds w) := by
  have HW := Lib.hid (works_any _ (hv.gr (Gr.new w (.cells #[.int .i64 a.1, .int .i64 a.2] 23))))
  obtain ⟨a1, a2⟩ := a
  obtain ⟨ao, cap, rfl, h1, h2, h3⟩ := hb
  have hI : (60 : Int) < (l.length : Int) := by omega
  clear hv hS h1 h2 h3
  go_enter Tryd.func4, Tryd.ntmps4
  go_wp2_with (go_at_call 6; refine HW.out.mono ?_; rintro e w2 ⟨rfl, h1⟩; have H1 := Lib.hid (Adds.trans (Gr.new w _).adds h1); clear h1)
  go_ret
  exact ⟨rfl, H1.out⟩
set_option maxRecDepth 100000 in
set_option maxHeartbeats 4000000 in
theorem sbytes_no {n : Nat} (a : Si) (hr : rightS a = false) (v : Value) (l : List UInt8) (hl0 : l.length ≤ 60) (w : World) (_hnw : n ≤ w.heap.size) (hb : Bytes n w v l) (hv : SVars w) : Calls Tryd.prog 4 #[siV a, v] w (TrueAdds w) := by
  have hne : ¬ rightS a = true := by rw [hr]; simp
  have HB := Lib.hid (fun (W : World) => siteBytes_no a hne W)
  have hn := num_site
  have HRd := Lib.hid (fun (W : World) (h : Adds w W) => siteRead_any v l W (Nat.le_refl _) (bytes_adds hb h) (hv.below h).wid)
  have HRP := Lib.hid (fun (W : World) (h : Adds w W) => refRead7_any v l W (Nat.le_refl _) (bytes_adds hb h))
  have HRB := Lib.hid hb
  obtain ⟨x1, x2, er, hx⟩ := rbV_form l
  rw [hx] at HRd HRP
  have hq := site_neq x1 x2 x1 x2
  rw [show eqS (x1, x2) (x1, x2) = true from eqS_iff.2 rfl] at hq
  have hI : (l.length : Int) ≤ 60 := by omega
  have HV := Lib.hid hv
  obtain ⟨a1, a2⟩ := a
  have HR := Lib.hid (ref7_on a1 a2)
  rw [hr] at HR
  obtain ⟨ao, cap, rfl, h1, h2, h3⟩ := hb
  clear hv hl0 hr hx hne h1 h2 h3
  go_enter Tryd.func4, Tryd.ntmps4
  go_wp2_with (first
    | (go_at_call 14; refine (HB.out _).mono ?_; rintro e w2 ⟨rfl, h2⟩; have BA := Lib.hid (show BkS 23 w2 w.heap.size [.int .i64 a1, .int .i64 a2] from (BkS.new _ _ _).adds h2); have H2 := Lib.hid (Adds.trans (Gr.new w _).adds h2); clear h2)
    | (go_at_call 15; refine (HRd.out _ H2.out).mono ?_; rintro e w3 ⟨rfl, h3⟩; have BA3 := Lib.hid (BA.out.adds h3); have H3 := Lib.hid (Adds.trans H2.out h3);  clear h3 BA HRd)
    | (go_at_call 16; refine (HRP.out _ (Adds.trans H3.out (Gr.new w3 _).adds)).mono ?_; rintro e w5 ⟨rfl, h5⟩; have b7 : BkS 23 w5 w3.heap.size [.int .i64 x1, .int .i64 x2] := (BkS.new _ _ _).adds h5; have ba5 := (BA3.out.adds (Gr.new w3 _).adds).adds h5; have c70 : w5.cell? ⟨w3.heap.size, 0, none⟩ = some (.int .i64 x1) := b7.cell 0; have c71 : w5.cell? ⟨w3.heap.size, 1, none⟩ = some (.int .i64 x2) := b7.cell 1; have ca0 : w5.cell? ⟨w.heap.size, 0, none⟩ = some (.int .i64 a1) := ba5.cell 0; have ca1 : w5.cell? ⟨w.heap.size, 1, none⟩ = some (.int .i64 a2) := ba5.cell 1; have l7 := b7.lt; have la := ba5.lt; have BA5 := Lib.hid ba5; have H5 := Lib.hid (Adds.trans H3.out (Adds.trans (Gr.new w3 _).adds h5));  clear h5 b7 ba5 BA3)
    | (go_at_call 10; refine (hn _ _).mono ?_; rintro e w10 ⟨rfl, rfl⟩)
    | (go_at_call 11; refine (HR.out _).mono ?_; rintro e w7 ⟨rfl, h7⟩; have BA7 := Lib.hid ((BA5.out.adds (Gr.new w5 _).adds).adds h7.adds); have H7 := Lib.hid (Adds.trans H5.out (Adds.trans (Gr.new w5 _).adds h7.adds));  clear h7 c70 c71 ca0 ca1 l7 la; have ca0 : w7.cell? ⟨w.heap.size, 0, none⟩ = some (.int .i64 a1) := BA7.out.cell 0; have ca1 : w7.cell? ⟨w.heap.size, 1, none⟩ = some (.int .i64 a2) := BA7.out.cell 1)
    | (go_at_call 6; refine (works_any _ (HV.out.below H7.out)).mono ?_; rintro e w9 ⟨rfl, h9⟩; have H9 := Lib.hid (Adds.trans H7.out h9); clear h9))
  go_ret
  exact ⟨rfl, H9.out⟩
set_option maxRecDepth 100000 in
set_option maxHeartbeats 4000000 in
theorem sbytes_yes {n : Nat} (a : Si) (hr : rightS a = true) (v : Value) (l : List UInt8) (hl0 : l.length ≤ 60) (w : World) (hnw : n ≤ w.heap.size) (hb : Bytes n w v l) (hv : SVars w) : Calls Tryd.prog 4 #[siV a, v] w (TrueAdds w) := by
  have hmx : Tryd.prog.follows .mixedOrders = true := by kernel_rfl
  have hR := rightS_iff.1 hr
  obtain ⟨f, p, rfl, hf, hp⟩ : ∃ f p : Nat, a = ((f : Int), (p : Int)) ∧ f < 32 ∧ p < 512 := ⟨a.1.toNat, a.2.toNat, by obtain ⟨a1, a2⟩ := a; simp only [Prod.mk.injEq]; simp only at hR; omega, by omega, by omega⟩
  obtain ⟨a1, ha1⟩ : ∃ a1 : Int, (f : Int) = a1 := ⟨_, rfl⟩
  obtain ⟨a2, ha2⟩ : ∃ a2 : Int, (p : Int) = a2 := ⟨_, rfl⟩
  have hby : byS ((f : Int), (p : Int)) = leB 1 f ++ leB 2 p := rfl
  have hR2 : ∀ (u : Value) (W : World), Adds w W → Bytes W.heap.size W u (leB 1 f ++ leB 2 p ++ l) → Calls Tryd.prog 15 #[u] W fun e W' => e = .returned (.tuple #[.agg #[.int .i64 (f : Int), .int .i64 (p : Int)], .int .i64 0]) ∧ Adds W W' := fun u W h hu => by
    have h0 := siteRead_any u _ W (Nat.le_refl _) hu (hv.below h).wid
    unfold rbV at h0
    rw [← hby, readB_by hr] at h0
    exact h0
  have hBy := fun (W : World) (h : Adds w W) => siteBytes_yes f p hf hp W (hv.below h).wid
  have hRB := fun (W : World) => refBytes_any f p hf hp W
  have hck := ref7_on f p
  rw [hr] at hck
  have hL : (leB 1 f ++ leB 2 p).length = 3 := by simp [leB_length]
  rw [ha1, ha2] at hR2 hBy hRB hck
  obtain ⟨L, hLL⟩ : ∃ L, leB 1 f ++ leB 2 p = L := ⟨_, rfl⟩
  rw [hLL] at hR2 hBy hRB hL
  have HR2 := Lib.hid hR2
  have HB := Lib.hid (fun (W : World) (h : Adds w W) => hBy W h)
  have HRB2 := Lib.hid hRB
  have HR := Lib.hid hck
  have hn := num_site
  have HRd := Lib.hid (fun (W : World) (h : Adds w W) => siteRead_any v l W (Nat.le_refl _) (bytes_adds hb h) (hv.below h).wid)
  have HRP := Lib.hid (fun (W : World) (h : Adds w W) => refRead7_any v l W (Nat.le_refl _) (bytes_adds hb h))
  have HRB := Lib.hid hb
  obtain ⟨x1, x2, er, hx⟩ := rbV_form l
  rw [hx] at HRd HRP
  have hq := site_neq x1 x2 x1 x2
  rw [show eqS (x1, x2) (x1, x2) = true from eqS_iff.2 rfl] at hq
  have hI : (l.length : Int) ≤ 60 := by omega
  have HV := Lib.hid hv
  have hqe := site_eql a1 a2 a1 a2
  rw [show eqS (a1, a2) (a1, a2) = true from eqS_iff.2 rfl] at hqe
  have HQE := Lib.hid hqe
  have hqt := beqS_yes (str L)
  have HWk := Lib.hid (fun (W : World) (h : Adds w W) => works_any W (hv.below h))
  have HNW := Lib.hid hnw
  have HLn := Lib.hid hL
  have HLl := Lib.hid hl0
  obtain ⟨ao, cap, rfl, h1, h2, h3⟩ := hb
  rw [ha1, ha2]
  clear hv hl0 hr hx hR hf hp hR2 hBy hRB hck hL hLL hby ha1 ha2 hqe h1 h2 h3 hnw
  go_enter Tryd.func4, Tryd.ntmps4
  go_wp2_with (first
    | (go_at_call 14; refine (HB.out _ (Gr.new w _).adds).mono ?_; rintro e w2 ⟨vl, rfl, o2, h2⟩; have O2 := Lib.hid o2; have BA := Lib.hid (show BkS 23 w2 w.heap.size [.int .i64 a1, .int .i64 a2] from (BkS.new _ _ _).adds h2); have H2 := Lib.hid (Adds.trans (Gr.new w _).adds h2); clear h2 o2 HB)
    | (go_at_call 15; refine (HRd.out _ H2.out).mono ?_; rintro e w3 ⟨rfl, h3⟩; have BA3 := Lib.hid (BA.out.adds h3); have H3 := Lib.hid (Adds.trans H2.out h3); have O3 := Lib.hid (O2.out.adds h3); clear h3 BA HRd)
    | (go_at_call 16; refine (HRP.out _ (Adds.trans H3.out (Gr.new w3 _).adds)).mono ?_; rintro e w5 ⟨rfl, h5⟩; have b7 : BkS 23 w5 w3.heap.size [.int .i64 x1, .int .i64 x2] := (BkS.new _ _ _).adds h5; have ba5 := (BA3.out.adds (Gr.new w3 _).adds).adds h5; have c70 : w5.cell? ⟨w3.heap.size, 0, none⟩ = some (.int .i64 x1) := b7.cell 0; have c71 : w5.cell? ⟨w3.heap.size, 1, none⟩ = some (.int .i64 x2) := b7.cell 1; have ca0 : w5.cell? ⟨w.heap.size, 0, none⟩ = some (.int .i64 a1) := ba5.cell 0; have ca1 : w5.cell? ⟨w.heap.size, 1, none⟩ = some (.int .i64 a2) := ba5.cell 1; have l7 := b7.lt; have la := ba5.lt; have BA5 := Lib.hid ba5; have H5 := Lib.hid (Adds.trans H3.out (Adds.trans (Gr.new w3 _).adds h5)); have O5 := Lib.hid ((O3.out.adds (Gr.new w3 _).adds).adds h5); clear h5 b7 ba5 BA3)
    | (go_at_call 10; refine (hn _ _).mono ?_; rintro e w10 ⟨rfl, rfl⟩)
    | (go_at_call 11; refine (HR.out _).mono ?_; rintro e w7 ⟨rfl, h7⟩; have BA7 := Lib.hid ((BA5.out.adds (Gr.new w5 _).adds).adds h7.adds); have H7 := Lib.hid (Adds.trans H5.out (Adds.trans (Gr.new w5 _).adds h7.adds)); have O7 := Lib.hid ((O5.out.adds (Gr.new w5 _).adds).adds h7.adds); have HE := Lib.hid (own_empty w7); have A0 := Lib.hid (Gr.new w7 (.cells #[] 5)).adds; clear h7 c70 c71 ca0 ca1 l7 la; have ca0 : w7.cell? ⟨w.heap.size, 0, none⟩ = some (.int .i64 a1) := BA7.out.cell 0; have ca1 : w7.cell? ⟨w.heap.size, 1, none⟩ = some (.int .i64 a2) := BA7.out.cell 1)
    | (at_builtin; refine wp_append_bytes rfl (.tmp 56) (.tmp 57) rfl w7.heap.size _ [] rfl (by exact HE.out) _ L _ rfl (by exact (O7.out.adds A0.out).bytes) (by rw [HLn.out]; simp) (by simp) ?_; intro v8 w8 o8 b8; have O8 := Lib.hid o8; have B8 := Lib.hid (Below.trans A0.out b8); clear o8 b8)
    | (at_builtin; refine wp_append_bytes rfl (.tmp 58) (.tmp 59) rfl w7.heap.size _ ([] ++ L) rfl (by exact O8.out) _ l _ rfl (by exact bytes_adds HRB.out (Adds.trans H7.out B8.out)) (by have := HLn.out; have := HLl.out; rw [List.nil_append]; omega) (by exact B8.out.size) ?_; intro v9 w9 o9 b9; have O9 := Lib.hid o9; have B9 := Lib.hid (Below.trans B8.out b9); clear o9 b9)
    | (go_at_call 15; refine (HR2.out _ _ (Adds.trans H7.out B9.out) (by exact O9.out.bytes)).mono ?_; rintro e w10 ⟨rfl, h10⟩; have H10 := Lib.hid (Adds.trans B9.out h10); clear h10))
  obtain ⟨k11, hk11⟩ : ∃ k, w10.heap.size = k := ⟨_, rfl⟩
  obtain ⟨w11, hw11⟩ : ∃ w11, w10.alloc (.cells #[.int .i64 a1, .int .i64 a2] 23) = w11 := ⟨_, rfl⟩
  have A11 := Lib.hid (show Adds w10 w11 by rw [← hw11]; exact (Gr.new _ _).adds)
  have B11 := Lib.hid (show BkS 23 w11 k11 [.int .i64 a1, .int .i64 a2] by rw [← hw11, ← hk11]; exact BkS.new _ _ _)
  have A7 := Lib.hid (Adds.trans H10.out A11.out)
  have BA11 := Lib.hid (BA7.out.adds A7.out)
  have O11 := Lib.hid (O7.out.adds A7.out)
  have H11 := Lib.hid (Adds.trans H7.out A7.out)
  obtain ⟨k0, hk0⟩ : ∃ k, w.heap.size = k := ⟨_, rfl⟩
  rw [hk0] at BA11
  rw [hk11]
  first | rw [hw11] | skip
  rw [hk0]
  clear hw11 hk11 hk0 BA7 A11 ca0 ca1 O9 O8 B9 B8 HE A0 H10 BA5
  have HD := Lib.hid (show ∀ w', Adds w11.drew w' → w'.cell? ⟨k0, 0, none⟩ = some (.int .i64 a1) ∧ w'.cell? ⟨k0, 1, none⟩ = some (.int .i64 a2) ∧ w'.cell? ⟨k11, 0, none⟩ = some (.int .i64 a1) ∧ w'.cell? ⟨k11, 1, none⟩ = some (.int .i64 a2) from fun w' h =>
    ⟨(BA11.out.adds (Adds.trans (Adds.drew w11) h)).cell 0, (BA11.out.adds (Adds.trans (Adds.drew w11) h)).cell 1, (B11.out.adds (Adds.trans (Adds.drew w11) h)).cell 0, (B11.out.adds (Adds.trans (Adds.drew w11) h)).cell 1⟩)
  have HN0 := Lib.hid (show ∀ w', Adds w11.drew w' → Calls Tryd.prog 10 #[.int .i64 0] w' (fun e w'' => e = .returned (.int .i64 0) ∧ Adds w' w'') from fun w' _ => (num_site 0 w').mono fun _ _ ⟨h1, h2⟩ => ⟨h1, h2 ▸ Adds.refl w'⟩)
  have HB0 := Lib.hid (show ∀ w', Adds w11.drew w' → Calls Tryd.prog 17 #[.agg #[.int .i64 a1, .int .i64 a2]] w' (fun e w'' => ∃ u, e = .returned u ∧ Bytes w''.heap.size w'' u L ∧ Adds w' w'') from fun w' _ => (HRB2.out w').mono fun _ _ ⟨u, h1, h2, h3⟩ => ⟨u, h1, h2.bytes, h3⟩)
  have HS0 := Lib.hid (show ∀ w', Adds w11.drew w' → (convert 37 9 vl).run Tryd.prog w' = .ok (.string (str L)) w' from fun w' h => strAt (O11.out.adds (Adds.trans (Adds.drew w11) h)).bytes)
  have HW0 := Lib.hid (show ∀ w', Adds w11.drew w' → Calls Tryd.prog 6 #[] w' (fun e w'' => e = .returned (.bool true) ∧ Adds w' w'') from fun w' h => HWk.out w' (Adds.trans H11.out (Adds.trans (Adds.drew w11) h)))
  have hqe := HQE.out
  clear hq hn hI HR2 HRB2 HR HV HQE HWk HRB HRP HLn HLl
  refine wp_region_loose [67] (fun _ u w => Bytes w.heap.size w u L) Adds (by kernel_rfl) (by kernel_rfl) (by simp []) Adds.refl (fun _ _ _ h k => Adds.trans h k) (fun _ _ _ _ h k => bytes_adds k h) ?_
  repeat (refine wpL_step (fun K hK => ?_); first
    | (refine stepL_ex rfl rfl rfl Adds.refl (fun w' hw' => rfl) ?_; go_simp; refine hK _ ?_; clear hK K)
    | (refine stepL_ex (v := .agg #[.int .i64 a1, .int .i64 a2]) rfl rfl rfl Adds.refl ?_ ?_; (· (intro w' hw'; clear hK; have hc := HD.out w' hw'; go_simp)); go_simp; refine hK _ ?_; clear hK K)
    | (refine stepL_ex (v := .string (str L)) rfl rfl rfl Adds.refl ?_ ?_; (· (intro w' hw'; clear hK; have hS := HS0.out w' hw'; go_simp)); go_simp; refine hK _ ?_; clear hK K)
    | (refine stepL_key (f := 17) (args := #[.agg #[.int .i64 a1, .int .i64 a2]]) 67 rfl rfl rfl rfl ?_ (fun w' hw' => HB0.out w' hw') ?_; (· (intro w'; clear hK; go_simp)); refine hK _ ?_; clear hK K)
    | (refine stepL_ex1 (v := .string (str L)) rfl rfl Adds.refl ?_ ?_; (· (intro w' u hw' hu; refine ⟨rfl, ?_⟩; clear hK; have hS := strAt hu; go_simp)); go_simp; refine hK _ ?_; clear hK K)
    | (refine stepL_ex (v := .bool true) rfl rfl rfl Adds.refl ?_ ?_; (· (intro w' hw'; clear hK; go_simp)); go_simp; refine hK _ ?_; clear hK K)
    | (refine stepL_ex (v := .int .i64 0) rfl rfl rfl Adds.refl ?_ ?_; (· (intro w' hw'; clear hK; go_simp)); go_simp; refine hK _ ?_; clear hK K)
    | (refine stepL_call (f := 10) (args := #[.int .i64 0]) rfl rfl rfl ?_ (fun w' hw' => HN0.out w' hw') ?_; (· (intro w'; clear hK; go_simp)); go_simp; refine hK _ ?_; clear hK K)
    | (refine stepL_call (f := 6) (args := #[]) rfl rfl rfl ?_ (fun w' hw' => HW0.out w' hw') ?_; (· (intro w'; clear hK; go_simp)); go_simp; refine hK _ ?_; clear hK K))
  refine wpL_nil ?_
  intro w12 a12
  simp only [forL]
  intro u hu
  have H12 := Lib.hid (Adds.trans H11.out (Adds.trans (Adds.drew w11) a12))
  clear a12
  go_wp2
  go_ret
  exact ⟨rfl, H12.out⟩
theorem law_bytes7 {n : Nat} (a : Si) (v : Value) (l : List UInt8) (w : World) (hn : n ≤ w.heap.size) (hb : Bytes n w v l) (hv : SVars w) : Calls Tryd.prog 4 #[siV a, v] w (TrueAdds w) := by
  by_cases h : 60 < l.length
  · exact sbytes_long a v l h w hb hv
  · cases hr : rightS a
    · exact sbytes_no a hr v l (by omega) w hn hb hv
    · exact sbytes_yes a hr v l (by omega) w hn hb hv
end Go.Proofs.YtnhapmodgmkbjaaDoor
