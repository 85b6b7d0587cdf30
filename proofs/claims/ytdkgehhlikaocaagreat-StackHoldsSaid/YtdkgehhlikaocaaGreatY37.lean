/- Merged: GDb. -/
import Derived.Test.YtdkgehhlikaocaaGreatY36
namespace Go.Proofs.YtdkgehhlikaocaaGreat
open Go Go.RowKit Go.Shelf

set_option maxRecDepth 100000 in
set_option maxHeartbeats 16000000 in
theorem refFine_b4 {m : Nat} (u : Value) (p : Pg) (f pc : Nat) (w : World) (hf : FuncsW m w u p.1) (hfl : f < p.1.length) (hpc : pc < (p.1.getD f zF).2.length) (hk : mayI ((p.1.getD f zF).2.getD pc zI) = true ∧ regsI ((p.1.getD f zF).2.getD pc zI) ≤ (p.1.getD f zF).1 ∧ ((p.1.getD f zF).2.getD pc zI).1 = 4) : Calls Tryz.prog 53 #[pgV u p, .int .i64 (f : Int), .int .i64 (pc : Int)] w fun e w' => e = .returned (.bool (fineB p.1 (p.1.getD f zF) pc ((p.1.getD f zF).2.getD pc zI))) ∧ Adds w w' := by
  obtain ⟨fs, y1, y2, y3⟩ := p
  simp only at hf hfl hpc hk ⊢
  have HF := Lib.hid hf
  obtain ⟨ao, cap, rfl, h1, h2, _⟩ := hf
  have h2' : (cap : Int) ≤ 9223372036854775807 := by unfold maxLen at h2; omega
  obtain ⟨g, off, rfl, hg, hat⟩ := HF.out.at hfl
  obtain ⟨k0, c, k1, hc, hok⟩ := hat
  obtain ⟨ac, cc, rfl, hcl0, hcc⟩ := hc.form
  have hcc' : (cc : Int) ≤ 9223372036854775807 := by unfold maxLen at hcc; omega
  obtain ⟨⟨r, code⟩, hfu⟩ : ∃ fu, fs.getD f zF = fu := ⟨_, rfl⟩
  rw [hfu] at k0 k1 hc hok hcl0 hpc hk ⊢
  simp only at k0 k1 hc hok hcl0 hpc hk ⊢
  obtain ⟨g2, off2, rfl, hg2, hat2⟩ := hc.at hpc
  have hox : OkIn (code.getD pc zI) := hok _ (mem_getDz _ _ _ hpc)
  obtain ⟨⟨x0, x1, x2, x3, x4⟩, hX⟩ : ∃ X, code.getD pc zI = X := ⟨_, rfl⟩
  rw [hX] at hat2 hox hk ⊢
  have HRt := Lib.hid (fun W => refRight_any (x0, x1, x2, x3, x4) hox W)
  have HRg := Lib.hid (fun W => refRegs_any (x0, x1, x2, x3, x4) hox W)
  have HLv := Lib.hid (fun W => refLeaves_any (x0, x1, x2, x3, x4) hox W)
  obtain ⟨i0, i1, i2, i3, i4⟩ := hat2
  simp only at i0 i1 i2 i3 i4
  obtain ⟨w1, hw1⟩ : ∃ w1, w.alloc (.cells #[.slice (some ⟨g, off, none⟩) fs.length cap, .int .i64 y1, .int .i64 y2, .int .i64 y3] 24) = w1 := ⟨_, rfl⟩
  have A1 := Lib.hid (show Adds w w1 by rw [← hw1]; exact (Gr.new _ _).adds)
  have B1 := Lib.hid (show BkS 24 w1 w.heap.size [.slice (some ⟨g, off, none⟩) fs.length cap, .int .i64 y1, .int .i64 y2, .int .i64 y3] by rw [← hw1]; exact BkS.new _ _ _)
  obtain ⟨w2, hw2⟩ : ∃ w2, w1.alloc (.cells #[.int .i64 x0, .int .i64 x1, .int .i64 x2, .int .i64 x3, .int .u32 x4] 56) = w2 := ⟨_, rfl⟩
  have A12 := Lib.hid (show Adds w1 w2 by rw [← hw2]; exact (Gr.new _ _).adds)
  have B2 := Lib.hid (show BkS 56 w2 w1.heap.size [.int .i64 x0, .int .i64 x1, .int .i64 x2, .int .i64 x3, .int .u32 x4] by rw [← hw2]; exact BkS.new _ _ _)
  have A2 := Lib.hid (Adds.trans A1.out A12.out)
  have b10 : w1.cell? ⟨w.heap.size, 0, none⟩ = some (.slice (some ⟨g, off, none⟩) fs.length cap) := B1.out.cell 0
  have b11 := A1.out.cellAt k1
  have e0 := A1.out.cellAt i0; have e1 := A1.out.cellAt i1; have e2 := A1.out.cellAt i2; have e3 := A1.out.cellAt i3; have e4 := A1.out.cellAt i4
  have b20 : w2.cell? ⟨w1.heap.size, 0, none⟩ = some (.int .i64 x0) := B2.out.cell 0
  have HC : Hid (∀ W, Adds w2 W → W.cell? ⟨w.heap.size, 0, none⟩ = some (.slice (some ⟨g, off, none⟩) fs.length cap) ∧ W.cell? ⟨g, off + f * 2, none⟩ = some (.int .i64 r) ∧ W.cell? ⟨w1.heap.size, 0, none⟩ = some (.int .i64 x0) ∧ W.cell? ⟨w1.heap.size, 1, none⟩ = some (.int .i64 x1) ∧ W.cell? ⟨w1.heap.size, 2, none⟩ = some (.int .i64 x2) ∧ W.cell? ⟨w1.heap.size, 3, none⟩ = some (.int .i64 x3) ∧ W.cell? ⟨w1.heap.size, 4, none⟩ = some (.int .u32 x4)) := Lib.hid fun W h => by
    have q1 := (B1.out.adds A12.out).adds h
    have q2 := B2.out.adds h
    exact ⟨q1.cell 0, (Adds.trans A2.out h).cellAt k0, q2.cell 0, q2.cell 1, q2.cell 2, q2.cell 3, q2.cell 4⟩
  have hfI : (f : Int) < (fs.length : Int) := by omega
  have hpI : (pc : Int) < (code.length : Int) := by omega
  have HI := Lib.hid (show (0 : Int) ≤ x4 ∧ x4 < 4294967296 from hox.2)
  clear k0 k1 hc hok i0 i1 i2 i3 i4 hX hox hg hg2
  obtain ⟨hm, hr, h0⟩ := hk
  simp only at h0
  rw [hm] at HRt
  obtain ⟨rg, hrg⟩ : ∃ rg, regsI (x0, x1, x2, x3, x4) = rg := ⟨_, rfl⟩
  rw [hrg] at HRg
  obtain ⟨b1, hb1⟩ : ∃ b1, decide (r < rg) = b1 := ⟨_, rfl⟩
  have HB1 := Lib.hid hb1
  rw [hrg] at hr
  obtain rfl : b1 = false := by rw [← hb1]; exact decide_eq_false (by omega)
  clear hb1
  obtain ⟨i, rfl⟩ : ∃ i : Nat, x4 = (i : Int) := ⟨x4.toNat, by have := HI.out; omega⟩
  have hi32 : i < 4294967296 := by have := HI.out.2; omega
  have HWr := Lib.hid (show IntKind.i64.wrap (i : Int) = i by rw [IntKind.wrap_i64]; omega)
  have HWq := Lib.hid (show wrap64 (i : Int) = i by unfold wrap64; omega)
  subst h0
  by_cases hge : code.length ≤ i
  case pos =>
    rw [fine_no3 (by simp) (by show (code.length : Int) ≤ (i : Int); omega)]
    have hgI : (code.length : Int) ≤ (i : Int) := by omega
    clear HLv
    clear hm hrg hr
    clear HF hfu
    generalize fs.length = fl at *
    generalize code.length = cl at *
    go_enter Tryz.func53, Tryz.ntmps53
    go_wp2_with fail
    refine wp_region_loose [] (fun _ _ _ => True) Adds (by kernel_rfl) (by kernel_rfl) (by simp []) Adds.refl (fun _ _ _ h k => Adds.trans h k) (fun _ _ _ _ _ _ => trivial) ?_
    (repeat (refine wpL_step (fun K hK => ?_); first
        | (refine stepL_skip rfl rfl rfl ?_; go_simp; refine hK _ ?_; clear hK K)
        | (refine stepL_ex (v := .bool true) rfl rfl rfl Adds.refl ?_ ?_; (· (intro w' hw'; clear hK; have hb1 := HB1.out; go_simp; done)); go_simp; refine hK _ ?_; clear hK K)
        | (refine stepL_ex (v := .bool false) rfl rfl rfl Adds.refl ?_ ?_; (· (intro w' hw'; clear hK; have hb1 := HB1.out; go_simp; done)); go_simp; refine hK _ ?_; clear hK K)
        | (refine stepL_ex rfl rfl rfl Adds.refl (fun w' hw' => rfl) ?_; go_simp; refine hK _ ?_; clear hK K)
        | (refine stepL_ex (v := .agg #[.int .i64 4, .int .i64 x1, .int .i64 x2, .int .i64 x3, .int .u32 (i : Nat)]) rfl rfl rfl Adds.refl ?_ ?_; (· (intro w' hw'; clear hK; obtain ⟨c0, c1, c2, c3, c4, c5, c6⟩ := HC.out w' (Adds.trans (Adds.drew _) hw'); go_simp; done)); go_simp; refine hK _ ?_; clear hK K)
        | (refine stepL_call (v := .bool true) (f := 70) (args := #[.agg #[.int .i64 4, .int .i64 x1, .int .i64 x2, .int .i64 x3, .int .u32 (i : Nat)]]) rfl rfl rfl ?_ (fun w' hw' => HRt.out w') ?_; (· (intro w'; clear hK; go_simp)); go_simp; refine hK _ ?_; clear hK K)
        | (refine stepL_call (v := .int .i64 rg) (f := 71) (args := #[.agg #[.int .i64 4, .int .i64 x1, .int .i64 x2, .int .i64 x3, .int .u32 (i : Nat)]]) rfl rfl rfl ?_ (fun w' hw' => HRg.out w') ?_; (· (intro w'; clear hK; go_simp)); go_simp; refine hK _ ?_; clear hK K)
        | (refine stepL_ex (v := .slice (some ⟨g, off, none⟩) fl cap) rfl rfl rfl Adds.refl ?_ ?_; (· (intro w' hw'; clear hK; obtain ⟨c0, c1, c2, c3, c4, c5, c6⟩ := HC.out w' (Adds.trans (Adds.drew _) hw'); go_simp; done)); go_simp; refine hK _ ?_; clear hK K)
        | (refine stepL_ex (v := .pointer (some ⟨g, off + f * 2, none⟩)) rfl rfl rfl Adds.refl ?_ ?_; (· (intro w' hw'; clear hK; skip; go_simp; done)); go_simp; refine hK _ ?_; clear hK K)
        | (refine stepL_ex (v := .int .i64 r) rfl rfl rfl Adds.refl ?_ ?_; (· (intro w' hw'; clear hK; obtain ⟨c0, c1, c2, c3, c4, c5, c6⟩ := HC.out w' (Adds.trans (Adds.drew _) hw'); go_simp; done)); go_simp; refine hK _ ?_; clear hK K)))
    refine wpL_nil ?_
    intro w7 a7
    simp only [forL]
    have A7 := Lib.hid (Adds.trans (Adds.refl _) (Adds.trans (Adds.drew _) a7))
    clear a7
    obtain ⟨d0, d1, d2, d3, d4, d5, d6⟩ := HC.out _ A7.out
    have hwr := HWq.out
    go_wp2_with fail
    go_ret
    exact ⟨by first | rfl | (apply ret_bool; simp; done) | (apply ret_bool; simp [*]; done), Adds.trans A2.out A7.out⟩
  case neg =>
    rw [fine_is hm (by rw [hrg]; exact hr) (fun _ => ⟨by show (0 : Int) ≤ (i : Int); omega, by show (i : Int) < (code.length : Int); omega⟩) (fun h => by simp only at h; omega)]
    have hgI : (i : Int) < (code.length : Int) := by omega
    clear hm hrg hr
    have hlw : wrap64 ((code.length : Int) - 1) = (code.length : Int) - 1 := by unfold wrap64; omega
    by_cases hl : pc + 1 < code.length
    · rw [leaves_yes hl]
      have hlI : (pc : Int) < (code.length : Int) - 1 := by omega
      clear hl HLv
      clear HF hfu
      generalize fs.length = fl at *
      generalize code.length = cl at *
      go_enter Tryz.func53, Tryz.ntmps53
      go_wp2_with fail
      refine wp_region_loose [] (fun _ _ _ => True) Adds (by kernel_rfl) (by kernel_rfl) (by simp []) Adds.refl (fun _ _ _ h k => Adds.trans h k) (fun _ _ _ _ _ _ => trivial) ?_
      (repeat (refine wpL_step (fun K hK => ?_); first
          | (refine stepL_skip rfl rfl rfl ?_; go_simp; refine hK _ ?_; clear hK K)
          | (refine stepL_ex (v := .bool true) rfl rfl rfl Adds.refl ?_ ?_; (· (intro w' hw'; clear hK; have hb1 := HB1.out; go_simp; done)); go_simp; refine hK _ ?_; clear hK K)
          | (refine stepL_ex (v := .bool false) rfl rfl rfl Adds.refl ?_ ?_; (· (intro w' hw'; clear hK; have hb1 := HB1.out; go_simp; done)); go_simp; refine hK _ ?_; clear hK K)
          | (refine stepL_ex rfl rfl rfl Adds.refl (fun w' hw' => rfl) ?_; go_simp; refine hK _ ?_; clear hK K)
          | (refine stepL_ex (v := .agg #[.int .i64 4, .int .i64 x1, .int .i64 x2, .int .i64 x3, .int .u32 (i : Nat)]) rfl rfl rfl Adds.refl ?_ ?_; (· (intro w' hw'; clear hK; obtain ⟨c0, c1, c2, c3, c4, c5, c6⟩ := HC.out w' (Adds.trans (Adds.drew _) hw'); go_simp; done)); go_simp; refine hK _ ?_; clear hK K)
          | (refine stepL_call (v := .bool true) (f := 70) (args := #[.agg #[.int .i64 4, .int .i64 x1, .int .i64 x2, .int .i64 x3, .int .u32 (i : Nat)]]) rfl rfl rfl ?_ (fun w' hw' => HRt.out w') ?_; (· (intro w'; clear hK; go_simp)); go_simp; refine hK _ ?_; clear hK K)
          | (refine stepL_call (v := .int .i64 rg) (f := 71) (args := #[.agg #[.int .i64 4, .int .i64 x1, .int .i64 x2, .int .i64 x3, .int .u32 (i : Nat)]]) rfl rfl rfl ?_ (fun w' hw' => HRg.out w') ?_; (· (intro w'; clear hK; go_simp)); go_simp; refine hK _ ?_; clear hK K)
          | (refine stepL_ex (v := .slice (some ⟨g, off, none⟩) fl cap) rfl rfl rfl Adds.refl ?_ ?_; (· (intro w' hw'; clear hK; obtain ⟨c0, c1, c2, c3, c4, c5, c6⟩ := HC.out w' (Adds.trans (Adds.drew _) hw'); go_simp; done)); go_simp; refine hK _ ?_; clear hK K)
          | (refine stepL_ex (v := .pointer (some ⟨g, off + f * 2, none⟩)) rfl rfl rfl Adds.refl ?_ ?_; (· (intro w' hw'; clear hK; skip; go_simp; done)); go_simp; refine hK _ ?_; clear hK K)
          | (refine stepL_ex (v := .int .i64 r) rfl rfl rfl Adds.refl ?_ ?_; (· (intro w' hw'; clear hK; obtain ⟨c0, c1, c2, c3, c4, c5, c6⟩ := HC.out w' (Adds.trans (Adds.drew _) hw'); go_simp; done)); go_simp; refine hK _ ?_; clear hK K)))
      refine wpL_nil ?_
      intro w7 a7
      simp only [forL]
      have A7 := Lib.hid (Adds.trans (Adds.refl _) (Adds.trans (Adds.drew _) a7))
      clear a7
      obtain ⟨d0, d1, d2, d3, d4, d5, d6⟩ := HC.out _ A7.out
      have hwr := HWq.out
      go_wp2_with fail
      refine wp_region_loose [] (fun _ _ _ => True) Adds (by kernel_rfl) (by kernel_rfl) (by simp []) Adds.refl (fun _ _ _ h k => Adds.trans h k) (fun _ _ _ _ _ _ => trivial) ?_
      (repeat (refine wpL_step (fun K hK => ?_); first
          | (refine stepL_skip rfl rfl rfl ?_; go_simp; refine hK _ ?_; clear hK K)
          | (refine stepL_ex (v := .bool true) rfl rfl rfl Adds.refl ?_ ?_; (· (intro w' hw'; clear hK; skip; go_simp; done)); go_simp; refine hK _ ?_; clear hK K)
          | (refine stepL_ex (v := .bool false) rfl rfl rfl Adds.refl ?_ ?_; (· (intro w' hw'; clear hK; skip; go_simp; done)); go_simp; refine hK _ ?_; clear hK K)
          | (refine stepL_ex rfl rfl rfl Adds.refl (fun w' hw' => rfl) ?_; go_simp; refine hK _ ?_; clear hK K)))
      refine wpL_nil ?_
      intro w8 a8
      simp only [forL]
      have A8 := Lib.hid (Adds.trans A7.out (Adds.trans (Adds.drew _) a8))
      clear a8
      clear d0 d1 d2 d3 d4 d5 d6
      obtain ⟨d0, d1, d2, d3, d4, d5, d6⟩ := HC.out _ A8.out
      go_wp2_with fail
      go_ret
      exact ⟨by first | rfl | (apply ret_bool; simp; done) | (apply ret_bool; simp [*]; done), Adds.trans A2.out A8.out⟩
    · rw [leaves_end hl]
      have hlI : (code.length : Int) - 1 ≤ (pc : Int) := by omega
      have hlN : ¬ (pc : Int) < (code.length : Int) - 1 := by omega
      have hlD : decide ((pc : Int) < (code.length : Int) - 1) = false := decide_eq_false hlN
      clear hl
      obtain ⟨lv, hlv⟩ : ∃ lv, leavesI (4, x1, x2, x3, (i : Int)) = lv := ⟨_, rfl⟩
      rw [hlv] at HLv ⊢
      clear hlv
      clear HF hfu
      generalize fs.length = fl at *
      generalize code.length = cl at *
      go_enter Tryz.func53, Tryz.ntmps53
      go_wp2_with fail
      refine wp_region_loose [] (fun _ _ _ => True) Adds (by kernel_rfl) (by kernel_rfl) (by simp []) Adds.refl (fun _ _ _ h k => Adds.trans h k) (fun _ _ _ _ _ _ => trivial) ?_
      (repeat (refine wpL_step (fun K hK => ?_); first
          | (refine stepL_skip rfl rfl rfl ?_; go_simp; refine hK _ ?_; clear hK K)
          | (refine stepL_ex (v := .bool true) rfl rfl rfl Adds.refl ?_ ?_; (· (intro w' hw'; clear hK; have hb1 := HB1.out; go_simp; done)); go_simp; refine hK _ ?_; clear hK K)
          | (refine stepL_ex (v := .bool false) rfl rfl rfl Adds.refl ?_ ?_; (· (intro w' hw'; clear hK; have hb1 := HB1.out; go_simp; done)); go_simp; refine hK _ ?_; clear hK K)
          | (refine stepL_ex rfl rfl rfl Adds.refl (fun w' hw' => rfl) ?_; go_simp; refine hK _ ?_; clear hK K)
          | (refine stepL_ex (v := .agg #[.int .i64 4, .int .i64 x1, .int .i64 x2, .int .i64 x3, .int .u32 (i : Nat)]) rfl rfl rfl Adds.refl ?_ ?_; (· (intro w' hw'; clear hK; obtain ⟨c0, c1, c2, c3, c4, c5, c6⟩ := HC.out w' (Adds.trans (Adds.drew _) hw'); go_simp; done)); go_simp; refine hK _ ?_; clear hK K)
          | (refine stepL_call (v := .bool true) (f := 70) (args := #[.agg #[.int .i64 4, .int .i64 x1, .int .i64 x2, .int .i64 x3, .int .u32 (i : Nat)]]) rfl rfl rfl ?_ (fun w' hw' => HRt.out w') ?_; (· (intro w'; clear hK; go_simp)); go_simp; refine hK _ ?_; clear hK K)
          | (refine stepL_call (v := .int .i64 rg) (f := 71) (args := #[.agg #[.int .i64 4, .int .i64 x1, .int .i64 x2, .int .i64 x3, .int .u32 (i : Nat)]]) rfl rfl rfl ?_ (fun w' hw' => HRg.out w') ?_; (· (intro w'; clear hK; go_simp)); go_simp; refine hK _ ?_; clear hK K)
          | (refine stepL_ex (v := .slice (some ⟨g, off, none⟩) fl cap) rfl rfl rfl Adds.refl ?_ ?_; (· (intro w' hw'; clear hK; obtain ⟨c0, c1, c2, c3, c4, c5, c6⟩ := HC.out w' (Adds.trans (Adds.drew _) hw'); go_simp; done)); go_simp; refine hK _ ?_; clear hK K)
          | (refine stepL_ex (v := .pointer (some ⟨g, off + f * 2, none⟩)) rfl rfl rfl Adds.refl ?_ ?_; (· (intro w' hw'; clear hK; skip; go_simp; done)); go_simp; refine hK _ ?_; clear hK K)
          | (refine stepL_ex (v := .int .i64 r) rfl rfl rfl Adds.refl ?_ ?_; (· (intro w' hw'; clear hK; obtain ⟨c0, c1, c2, c3, c4, c5, c6⟩ := HC.out w' (Adds.trans (Adds.drew _) hw'); go_simp; done)); go_simp; refine hK _ ?_; clear hK K)))
      refine wpL_nil ?_
      intro w7 a7
      simp only [forL]
      have A7 := Lib.hid (Adds.trans (Adds.refl _) (Adds.trans (Adds.drew _) a7))
      clear a7
      obtain ⟨d0, d1, d2, d3, d4, d5, d6⟩ := HC.out _ A7.out
      have hwr := HWq.out
      go_wp2_with fail
      refine wp_region_loose [] (fun _ _ _ => True) Adds (by kernel_rfl) (by kernel_rfl) (by simp []) Adds.refl (fun _ _ _ h k => Adds.trans h k) (fun _ _ _ _ _ _ => trivial) ?_
      (repeat (refine wpL_step (fun K hK => ?_); first
          | (refine stepL_skip rfl rfl rfl ?_; go_simp; refine hK _ ?_; clear hK K)
          | (refine stepL_ex (v := .bool true) rfl rfl rfl Adds.refl ?_ ?_; (· (intro w' hw'; clear hK; skip; go_simp; done)); go_simp; refine hK _ ?_; clear hK K)
          | (refine stepL_ex (v := .bool false) rfl rfl rfl Adds.refl ?_ ?_; (· (intro w' hw'; clear hK; skip; go_simp; done)); go_simp; refine hK _ ?_; clear hK K)
          | (refine stepL_ex rfl rfl rfl Adds.refl (fun w' hw' => rfl) ?_; go_simp; refine hK _ ?_; clear hK K)))
      refine wpL_nil ?_
      intro w8 a8
      simp only [forL]
      have A8 := Lib.hid (Adds.trans A7.out (Adds.trans (Adds.drew _) a8))
      clear a8
      clear d0 d1 d2 d3 d4 d5 d6
      obtain ⟨d0, d1, d2, d3, d4, d5, d6⟩ := HC.out _ A8.out
      go_wp2_with (go_at_call 72; refine (HLv.out _).mono ?_; rintro e w9 ⟨rfl, a9⟩; have A9 := Lib.hid (Adds.trans A8.out a9); clear a9)
      go_ret
      exact ⟨by first | rfl | (apply ret_bool; simp; done) | (apply ret_bool; simp [*]; done), Adds.trans A2.out A9.out⟩
set_option maxRecDepth 100000 in
set_option maxHeartbeats 16000000 in
theorem refFine_b5 {m : Nat} (u : Value) (p : Pg) (f pc : Nat) (w : World) (hf : FuncsW m w u p.1) (hfl : f < p.1.length) (hpc : pc < (p.1.getD f zF).2.length) (hk : mayI ((p.1.getD f zF).2.getD pc zI) = true ∧ regsI ((p.1.getD f zF).2.getD pc zI) ≤ (p.1.getD f zF).1 ∧ ((p.1.getD f zF).2.getD pc zI).1 = 5) : Calls Tryz.prog 53 #[pgV u p, .int .i64 (f : Int), .int .i64 (pc : Int)] w fun e w' => e = .returned (.bool (fineB p.1 (p.1.getD f zF) pc ((p.1.getD f zF).2.getD pc zI))) ∧ Adds w w' := by
  obtain ⟨fs, y1, y2, y3⟩ := p
  simp only at hf hfl hpc hk ⊢
  have HF := Lib.hid hf
  obtain ⟨ao, cap, rfl, h1, h2, _⟩ := hf
  have h2' : (cap : Int) ≤ 9223372036854775807 := by unfold maxLen at h2; omega
  obtain ⟨g, off, rfl, hg, hat⟩ := HF.out.at hfl
  obtain ⟨k0, c, k1, hc, hok⟩ := hat
  obtain ⟨ac, cc, rfl, hcl0, hcc⟩ := hc.form
  have hcc' : (cc : Int) ≤ 9223372036854775807 := by unfold maxLen at hcc; omega
  obtain ⟨⟨r, code⟩, hfu⟩ : ∃ fu, fs.getD f zF = fu := ⟨_, rfl⟩
  rw [hfu] at k0 k1 hc hok hcl0 hpc hk ⊢
  simp only at k0 k1 hc hok hcl0 hpc hk ⊢
  obtain ⟨g2, off2, rfl, hg2, hat2⟩ := hc.at hpc
  have hox : OkIn (code.getD pc zI) := hok _ (mem_getDz _ _ _ hpc)
  obtain ⟨⟨x0, x1, x2, x3, x4⟩, hX⟩ : ∃ X, code.getD pc zI = X := ⟨_, rfl⟩
  rw [hX] at hat2 hox hk ⊢
  have HRt := Lib.hid (fun W => refRight_any (x0, x1, x2, x3, x4) hox W)
  have HRg := Lib.hid (fun W => refRegs_any (x0, x1, x2, x3, x4) hox W)
  have HLv := Lib.hid (fun W => refLeaves_any (x0, x1, x2, x3, x4) hox W)
  obtain ⟨i0, i1, i2, i3, i4⟩ := hat2
  simp only at i0 i1 i2 i3 i4
  obtain ⟨w1, hw1⟩ : ∃ w1, w.alloc (.cells #[.slice (some ⟨g, off, none⟩) fs.length cap, .int .i64 y1, .int .i64 y2, .int .i64 y3] 24) = w1 := ⟨_, rfl⟩
  have A1 := Lib.hid (show Adds w w1 by rw [← hw1]; exact (Gr.new _ _).adds)
  have B1 := Lib.hid (show BkS 24 w1 w.heap.size [.slice (some ⟨g, off, none⟩) fs.length cap, .int .i64 y1, .int .i64 y2, .int .i64 y3] by rw [← hw1]; exact BkS.new _ _ _)
  obtain ⟨w2, hw2⟩ : ∃ w2, w1.alloc (.cells #[.int .i64 x0, .int .i64 x1, .int .i64 x2, .int .i64 x3, .int .u32 x4] 56) = w2 := ⟨_, rfl⟩
  have A12 := Lib.hid (show Adds w1 w2 by rw [← hw2]; exact (Gr.new _ _).adds)
  have B2 := Lib.hid (show BkS 56 w2 w1.heap.size [.int .i64 x0, .int .i64 x1, .int .i64 x2, .int .i64 x3, .int .u32 x4] by rw [← hw2]; exact BkS.new _ _ _)
  have A2 := Lib.hid (Adds.trans A1.out A12.out)
  have b10 : w1.cell? ⟨w.heap.size, 0, none⟩ = some (.slice (some ⟨g, off, none⟩) fs.length cap) := B1.out.cell 0
  have b11 := A1.out.cellAt k1
  have e0 := A1.out.cellAt i0; have e1 := A1.out.cellAt i1; have e2 := A1.out.cellAt i2; have e3 := A1.out.cellAt i3; have e4 := A1.out.cellAt i4
  have b20 : w2.cell? ⟨w1.heap.size, 0, none⟩ = some (.int .i64 x0) := B2.out.cell 0
  have HC : Hid (∀ W, Adds w2 W → W.cell? ⟨w.heap.size, 0, none⟩ = some (.slice (some ⟨g, off, none⟩) fs.length cap) ∧ W.cell? ⟨g, off + f * 2, none⟩ = some (.int .i64 r) ∧ W.cell? ⟨w1.heap.size, 0, none⟩ = some (.int .i64 x0) ∧ W.cell? ⟨w1.heap.size, 1, none⟩ = some (.int .i64 x1) ∧ W.cell? ⟨w1.heap.size, 2, none⟩ = some (.int .i64 x2) ∧ W.cell? ⟨w1.heap.size, 3, none⟩ = some (.int .i64 x3) ∧ W.cell? ⟨w1.heap.size, 4, none⟩ = some (.int .u32 x4)) := Lib.hid fun W h => by
    have q1 := (B1.out.adds A12.out).adds h
    have q2 := B2.out.adds h
    exact ⟨q1.cell 0, (Adds.trans A2.out h).cellAt k0, q2.cell 0, q2.cell 1, q2.cell 2, q2.cell 3, q2.cell 4⟩
  have hfI : (f : Int) < (fs.length : Int) := by omega
  have hpI : (pc : Int) < (code.length : Int) := by omega
  have HI := Lib.hid (show (0 : Int) ≤ x4 ∧ x4 < 4294967296 from hox.2)
  clear k0 k1 hc hok i0 i1 i2 i3 i4 hX hox hg hg2
  obtain ⟨hm, hr, h0⟩ := hk
  simp only at h0
  rw [hm] at HRt
  obtain ⟨rg, hrg⟩ : ∃ rg, regsI (x0, x1, x2, x3, x4) = rg := ⟨_, rfl⟩
  rw [hrg] at HRg
  obtain ⟨b1, hb1⟩ : ∃ b1, decide (r < rg) = b1 := ⟨_, rfl⟩
  have HB1 := Lib.hid hb1
  rw [hrg] at hr
  obtain rfl : b1 = false := by rw [← hb1]; exact decide_eq_false (by omega)
  clear hb1
  obtain ⟨i, rfl⟩ : ∃ i : Nat, x4 = (i : Int) := ⟨x4.toNat, by have := HI.out; omega⟩
  have hi32 : i < 4294967296 := by have := HI.out.2; omega
  have HWr := Lib.hid (show IntKind.i64.wrap (i : Int) = i by rw [IntKind.wrap_i64]; omega)
  have HWq := Lib.hid (show wrap64 (i : Int) = i by unfold wrap64; omega)
  subst h0
  by_cases hge : code.length ≤ i
  case pos =>
    rw [fine_no3 (by simp) (by show (code.length : Int) ≤ (i : Int); omega)]
    have hgI : (code.length : Int) ≤ (i : Int) := by omega
    clear HLv
    clear hm hrg hr
    clear HF hfu
    generalize fs.length = fl at *
    generalize code.length = cl at *
    go_enter Tryz.func53, Tryz.ntmps53
    go_wp2_with fail
    refine wp_region_loose [] (fun _ _ _ => True) Adds (by kernel_rfl) (by kernel_rfl) (by simp []) Adds.refl (fun _ _ _ h k => Adds.trans h k) (fun _ _ _ _ _ _ => trivial) ?_
    (repeat (refine wpL_step (fun K hK => ?_); first
        | (refine stepL_skip rfl rfl rfl ?_; go_simp; refine hK _ ?_; clear hK K)
        | (refine stepL_ex (v := .bool true) rfl rfl rfl Adds.refl ?_ ?_; (· (intro w' hw'; clear hK; have hb1 := HB1.out; go_simp; done)); go_simp; refine hK _ ?_; clear hK K)
        | (refine stepL_ex (v := .bool false) rfl rfl rfl Adds.refl ?_ ?_; (· (intro w' hw'; clear hK; have hb1 := HB1.out; go_simp; done)); go_simp; refine hK _ ?_; clear hK K)
        | (refine stepL_ex rfl rfl rfl Adds.refl (fun w' hw' => rfl) ?_; go_simp; refine hK _ ?_; clear hK K)
        | (refine stepL_ex (v := .agg #[.int .i64 5, .int .i64 x1, .int .i64 x2, .int .i64 x3, .int .u32 (i : Nat)]) rfl rfl rfl Adds.refl ?_ ?_; (· (intro w' hw'; clear hK; obtain ⟨c0, c1, c2, c3, c4, c5, c6⟩ := HC.out w' (Adds.trans (Adds.drew _) hw'); go_simp; done)); go_simp; refine hK _ ?_; clear hK K)
        | (refine stepL_call (v := .bool true) (f := 70) (args := #[.agg #[.int .i64 5, .int .i64 x1, .int .i64 x2, .int .i64 x3, .int .u32 (i : Nat)]]) rfl rfl rfl ?_ (fun w' hw' => HRt.out w') ?_; (· (intro w'; clear hK; go_simp)); go_simp; refine hK _ ?_; clear hK K)
        | (refine stepL_call (v := .int .i64 rg) (f := 71) (args := #[.agg #[.int .i64 5, .int .i64 x1, .int .i64 x2, .int .i64 x3, .int .u32 (i : Nat)]]) rfl rfl rfl ?_ (fun w' hw' => HRg.out w') ?_; (· (intro w'; clear hK; go_simp)); go_simp; refine hK _ ?_; clear hK K)
        | (refine stepL_ex (v := .slice (some ⟨g, off, none⟩) fl cap) rfl rfl rfl Adds.refl ?_ ?_; (· (intro w' hw'; clear hK; obtain ⟨c0, c1, c2, c3, c4, c5, c6⟩ := HC.out w' (Adds.trans (Adds.drew _) hw'); go_simp; done)); go_simp; refine hK _ ?_; clear hK K)
        | (refine stepL_ex (v := .pointer (some ⟨g, off + f * 2, none⟩)) rfl rfl rfl Adds.refl ?_ ?_; (· (intro w' hw'; clear hK; skip; go_simp; done)); go_simp; refine hK _ ?_; clear hK K)
        | (refine stepL_ex (v := .int .i64 r) rfl rfl rfl Adds.refl ?_ ?_; (· (intro w' hw'; clear hK; obtain ⟨c0, c1, c2, c3, c4, c5, c6⟩ := HC.out w' (Adds.trans (Adds.drew _) hw'); go_simp; done)); go_simp; refine hK _ ?_; clear hK K)))
    refine wpL_nil ?_
    intro w7 a7
    simp only [forL]
    have A7 := Lib.hid (Adds.trans (Adds.refl _) (Adds.trans (Adds.drew _) a7))
    clear a7
    obtain ⟨d0, d1, d2, d3, d4, d5, d6⟩ := HC.out _ A7.out
    have hwr := HWq.out
    go_wp2_with fail
    go_ret
    exact ⟨by first | rfl | (apply ret_bool; simp; done) | (apply ret_bool; simp [*]; done), Adds.trans A2.out A7.out⟩
  case neg =>
    rw [fine_is hm (by rw [hrg]; exact hr) (fun _ => ⟨by show (0 : Int) ≤ (i : Int); omega, by show (i : Int) < (code.length : Int); omega⟩) (fun h => by simp only at h; omega)]
    have hgI : (i : Int) < (code.length : Int) := by omega
    clear hm hrg hr
    have hlw : wrap64 ((code.length : Int) - 1) = (code.length : Int) - 1 := by unfold wrap64; omega
    by_cases hl : pc + 1 < code.length
    · rw [leaves_yes hl]
      have hlI : (pc : Int) < (code.length : Int) - 1 := by omega
      clear hl HLv
      clear HF hfu
      generalize fs.length = fl at *
      generalize code.length = cl at *
      go_enter Tryz.func53, Tryz.ntmps53
      go_wp2_with fail
      refine wp_region_loose [] (fun _ _ _ => True) Adds (by kernel_rfl) (by kernel_rfl) (by simp []) Adds.refl (fun _ _ _ h k => Adds.trans h k) (fun _ _ _ _ _ _ => trivial) ?_
      (repeat (refine wpL_step (fun K hK => ?_); first
          | (refine stepL_skip rfl rfl rfl ?_; go_simp; refine hK _ ?_; clear hK K)
          | (refine stepL_ex (v := .bool true) rfl rfl rfl Adds.refl ?_ ?_; (· (intro w' hw'; clear hK; have hb1 := HB1.out; go_simp; done)); go_simp; refine hK _ ?_; clear hK K)
          | (refine stepL_ex (v := .bool false) rfl rfl rfl Adds.refl ?_ ?_; (· (intro w' hw'; clear hK; have hb1 := HB1.out; go_simp; done)); go_simp; refine hK _ ?_; clear hK K)
          | (refine stepL_ex rfl rfl rfl Adds.refl (fun w' hw' => rfl) ?_; go_simp; refine hK _ ?_; clear hK K)
          | (refine stepL_ex (v := .agg #[.int .i64 5, .int .i64 x1, .int .i64 x2, .int .i64 x3, .int .u32 (i : Nat)]) rfl rfl rfl Adds.refl ?_ ?_; (· (intro w' hw'; clear hK; obtain ⟨c0, c1, c2, c3, c4, c5, c6⟩ := HC.out w' (Adds.trans (Adds.drew _) hw'); go_simp; done)); go_simp; refine hK _ ?_; clear hK K)
          | (refine stepL_call (v := .bool true) (f := 70) (args := #[.agg #[.int .i64 5, .int .i64 x1, .int .i64 x2, .int .i64 x3, .int .u32 (i : Nat)]]) rfl rfl rfl ?_ (fun w' hw' => HRt.out w') ?_; (· (intro w'; clear hK; go_simp)); go_simp; refine hK _ ?_; clear hK K)
          | (refine stepL_call (v := .int .i64 rg) (f := 71) (args := #[.agg #[.int .i64 5, .int .i64 x1, .int .i64 x2, .int .i64 x3, .int .u32 (i : Nat)]]) rfl rfl rfl ?_ (fun w' hw' => HRg.out w') ?_; (· (intro w'; clear hK; go_simp)); go_simp; refine hK _ ?_; clear hK K)
          | (refine stepL_ex (v := .slice (some ⟨g, off, none⟩) fl cap) rfl rfl rfl Adds.refl ?_ ?_; (· (intro w' hw'; clear hK; obtain ⟨c0, c1, c2, c3, c4, c5, c6⟩ := HC.out w' (Adds.trans (Adds.drew _) hw'); go_simp; done)); go_simp; refine hK _ ?_; clear hK K)
          | (refine stepL_ex (v := .pointer (some ⟨g, off + f * 2, none⟩)) rfl rfl rfl Adds.refl ?_ ?_; (· (intro w' hw'; clear hK; skip; go_simp; done)); go_simp; refine hK _ ?_; clear hK K)
          | (refine stepL_ex (v := .int .i64 r) rfl rfl rfl Adds.refl ?_ ?_; (· (intro w' hw'; clear hK; obtain ⟨c0, c1, c2, c3, c4, c5, c6⟩ := HC.out w' (Adds.trans (Adds.drew _) hw'); go_simp; done)); go_simp; refine hK _ ?_; clear hK K)))
      refine wpL_nil ?_
      intro w7 a7
      simp only [forL]
      have A7 := Lib.hid (Adds.trans (Adds.refl _) (Adds.trans (Adds.drew _) a7))
      clear a7
      obtain ⟨d0, d1, d2, d3, d4, d5, d6⟩ := HC.out _ A7.out
      have hwr := HWq.out
      go_wp2_with fail
      refine wp_region_loose [] (fun _ _ _ => True) Adds (by kernel_rfl) (by kernel_rfl) (by simp []) Adds.refl (fun _ _ _ h k => Adds.trans h k) (fun _ _ _ _ _ _ => trivial) ?_
      (repeat (refine wpL_step (fun K hK => ?_); first
          | (refine stepL_skip rfl rfl rfl ?_; go_simp; refine hK _ ?_; clear hK K)
          | (refine stepL_ex (v := .bool true) rfl rfl rfl Adds.refl ?_ ?_; (· (intro w' hw'; clear hK; skip; go_simp; done)); go_simp; refine hK _ ?_; clear hK K)
          | (refine stepL_ex (v := .bool false) rfl rfl rfl Adds.refl ?_ ?_; (· (intro w' hw'; clear hK; skip; go_simp; done)); go_simp; refine hK _ ?_; clear hK K)
          | (refine stepL_ex rfl rfl rfl Adds.refl (fun w' hw' => rfl) ?_; go_simp; refine hK _ ?_; clear hK K)))
      refine wpL_nil ?_
      intro w8 a8
      simp only [forL]
      have A8 := Lib.hid (Adds.trans A7.out (Adds.trans (Adds.drew _) a8))
      clear a8
      clear d0 d1 d2 d3 d4 d5 d6
      obtain ⟨d0, d1, d2, d3, d4, d5, d6⟩ := HC.out _ A8.out
      go_wp2_with fail
      go_ret
      exact ⟨by first | rfl | (apply ret_bool; simp; done) | (apply ret_bool; simp [*]; done), Adds.trans A2.out A8.out⟩
    · rw [leaves_end hl]
      have hlI : (code.length : Int) - 1 ≤ (pc : Int) := by omega
      have hlN : ¬ (pc : Int) < (code.length : Int) - 1 := by omega
      have hlD : decide ((pc : Int) < (code.length : Int) - 1) = false := decide_eq_false hlN
      clear hl
      obtain ⟨lv, hlv⟩ : ∃ lv, leavesI (5, x1, x2, x3, (i : Int)) = lv := ⟨_, rfl⟩
      rw [hlv] at HLv ⊢
      clear hlv
      clear HF hfu
      generalize fs.length = fl at *
      generalize code.length = cl at *
      go_enter Tryz.func53, Tryz.ntmps53
      go_wp2_with fail
      refine wp_region_loose [] (fun _ _ _ => True) Adds (by kernel_rfl) (by kernel_rfl) (by simp []) Adds.refl (fun _ _ _ h k => Adds.trans h k) (fun _ _ _ _ _ _ => trivial) ?_
      (repeat (refine wpL_step (fun K hK => ?_); first
          | (refine stepL_skip rfl rfl rfl ?_; go_simp; refine hK _ ?_; clear hK K)
          | (refine stepL_ex (v := .bool true) rfl rfl rfl Adds.refl ?_ ?_; (· (intro w' hw'; clear hK; have hb1 := HB1.out; go_simp; done)); go_simp; refine hK _ ?_; clear hK K)
          | (refine stepL_ex (v := .bool false) rfl rfl rfl Adds.refl ?_ ?_; (· (intro w' hw'; clear hK; have hb1 := HB1.out; go_simp; done)); go_simp; refine hK _ ?_; clear hK K)
          | (refine stepL_ex rfl rfl rfl Adds.refl (fun w' hw' => rfl) ?_; go_simp; refine hK _ ?_; clear hK K)
          | (refine stepL_ex (v := .agg #[.int .i64 5, .int .i64 x1, .int .i64 x2, .int .i64 x3, .int .u32 (i : Nat)]) rfl rfl rfl Adds.refl ?_ ?_; (· (intro w' hw'; clear hK; obtain ⟨c0, c1, c2, c3, c4, c5, c6⟩ := HC.out w' (Adds.trans (Adds.drew _) hw'); go_simp; done)); go_simp; refine hK _ ?_; clear hK K)
          | (refine stepL_call (v := .bool true) (f := 70) (args := #[.agg #[.int .i64 5, .int .i64 x1, .int .i64 x2, .int .i64 x3, .int .u32 (i : Nat)]]) rfl rfl rfl ?_ (fun w' hw' => HRt.out w') ?_; (· (intro w'; clear hK; go_simp)); go_simp; refine hK _ ?_; clear hK K)
          | (refine stepL_call (v := .int .i64 rg) (f := 71) (args := #[.agg #[.int .i64 5, .int .i64 x1, .int .i64 x2, .int .i64 x3, .int .u32 (i : Nat)]]) rfl rfl rfl ?_ (fun w' hw' => HRg.out w') ?_; (· (intro w'; clear hK; go_simp)); go_simp; refine hK _ ?_; clear hK K)
          | (refine stepL_ex (v := .slice (some ⟨g, off, none⟩) fl cap) rfl rfl rfl Adds.refl ?_ ?_; (· (intro w' hw'; clear hK; obtain ⟨c0, c1, c2, c3, c4, c5, c6⟩ := HC.out w' (Adds.trans (Adds.drew _) hw'); go_simp; done)); go_simp; refine hK _ ?_; clear hK K)
          | (refine stepL_ex (v := .pointer (some ⟨g, off + f * 2, none⟩)) rfl rfl rfl Adds.refl ?_ ?_; (· (intro w' hw'; clear hK; skip; go_simp; done)); go_simp; refine hK _ ?_; clear hK K)
          | (refine stepL_ex (v := .int .i64 r) rfl rfl rfl Adds.refl ?_ ?_; (· (intro w' hw'; clear hK; obtain ⟨c0, c1, c2, c3, c4, c5, c6⟩ := HC.out w' (Adds.trans (Adds.drew _) hw'); go_simp; done)); go_simp; refine hK _ ?_; clear hK K)))
      refine wpL_nil ?_
      intro w7 a7
      simp only [forL]
      have A7 := Lib.hid (Adds.trans (Adds.refl _) (Adds.trans (Adds.drew _) a7))
      clear a7
      obtain ⟨d0, d1, d2, d3, d4, d5, d6⟩ := HC.out _ A7.out
      have hwr := HWq.out
      go_wp2_with fail
      refine wp_region_loose [] (fun _ _ _ => True) Adds (by kernel_rfl) (by kernel_rfl) (by simp []) Adds.refl (fun _ _ _ h k => Adds.trans h k) (fun _ _ _ _ _ _ => trivial) ?_
      (repeat (refine wpL_step (fun K hK => ?_); first
          | (refine stepL_skip rfl rfl rfl ?_; go_simp; refine hK _ ?_; clear hK K)
          | (refine stepL_ex (v := .bool true) rfl rfl rfl Adds.refl ?_ ?_; (· (intro w' hw'; clear hK; skip; go_simp; done)); go_simp; refine hK _ ?_; clear hK K)
          | (refine stepL_ex (v := .bool false) rfl rfl rfl Adds.refl ?_ ?_; (· (intro w' hw'; clear hK; skip; go_simp; done)); go_simp; refine hK _ ?_; clear hK K)
          | (refine stepL_ex rfl rfl rfl Adds.refl (fun w' hw' => rfl) ?_; go_simp; refine hK _ ?_; clear hK K)))
      refine wpL_nil ?_
      intro w8 a8
      simp only [forL]
      have A8 := Lib.hid (Adds.trans A7.out (Adds.trans (Adds.drew _) a8))
      clear a8
      clear d0 d1 d2 d3 d4 d5 d6
      obtain ⟨d0, d1, d2, d3, d4, d5, d6⟩ := HC.out _ A8.out
      go_wp2_with (go_at_call 72; refine (HLv.out _).mono ?_; rintro e w9 ⟨rfl, a9⟩; have A9 := Lib.hid (Adds.trans A8.out a9); clear a9)
      go_ret
      exact ⟨by first | rfl | (apply ret_bool; simp; done) | (apply ret_bool; simp [*]; done), Adds.trans A2.out A9.out⟩
end Go.Proofs.YtdkgehhlikaocaaGreat
