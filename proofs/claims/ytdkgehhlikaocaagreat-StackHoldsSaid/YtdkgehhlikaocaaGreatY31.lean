/- Merged: G13. -/
import Derived.Test.YtdkgehhlikaocaaGreatY30
namespace Go.Proofs.YtdkgehhlikaocaaGreat
open Go Go.RowKit Go.Shelf

set_option maxRecDepth 100000 in
set_option maxHeartbeats 8000000 in
theorem refAt_any {m : Nat} (u : Value) (p : Pg) (f pc : Int) (w : World) (hf : FuncsW m w u p.1) : Calls Tryz.prog 18 #[pgV u p, .agg #[.int .i64 f, .int .i64 pc]] w fun e w' => e = .returned (.tuple #[insV (atP p.1 f pc).1, .int .i64 (atP p.1 f pc).2]) ∧ Adds w w' := by
  have HF := Lib.hid hf
  obtain ⟨fs, x1, x2, x3⟩ := p
  obtain ⟨ao, cap, rfl, h1, h2, _⟩ := hf
  obtain ⟨fl, hfl⟩ : ∃ fl, fs.length = fl := ⟨_, rfl⟩
  have h2' : (cap : Int) ≤ 9223372036854775807 := by unfold maxLen at h2; omega
  simp only [hfl] at HF h1 ⊢
  obtain ⟨w1, hw1⟩ : ∃ w1, w.alloc (.cells #[.slice ao fl cap, .int .i64 x1, .int .i64 x2, .int .i64 x3] 24) = w1 := ⟨_, rfl⟩
  have A1 := Lib.hid (show Adds w w1 by rw [← hw1]; exact (Gr.new _ _).adds)
  have B1 := Lib.hid (show BkS 24 w1 w.heap.size [.slice ao fl cap, .int .i64 x1, .int .i64 x2, .int .i64 x3] by rw [← hw1]; exact BkS.new _ _ _)
  obtain ⟨w2, hw2⟩ : ∃ w2, w1.alloc (.cells #[.int .i64 f, .int .i64 pc] 58) = w2 := ⟨_, rfl⟩
  have A2 := Lib.hid (show Adds w1 w2 by rw [← hw2]; exact (Gr.new _ _).adds)
  have B2 := Lib.hid (show BkS 58 w2 w1.heap.size [.int .i64 f, .int .i64 pc] by rw [← hw2]; exact BkS.new _ _ _)
  obtain ⟨w3, hw3⟩ : ∃ w3, w2.alloc (.cells #[.int .i64 0, .int .i64 0, .int .i64 0, .int .i64 0, .int .u32 0] 56) = w3 := ⟨_, rfl⟩
  have A23 := Lib.hid (show Adds w2 w3 by rw [← hw3]; exact (Gr.new _ _).adds)
  have B3 := Lib.hid (show BkS 56 w3 w2.heap.size [.int .i64 0, .int .i64 0, .int .i64 0, .int .i64 0, .int .u32 0] by rw [← hw3]; exact BkS.new _ _ _)
  have A3 := Lib.hid (Adds.trans A1.out (Adds.trans A2.out A23.out))
  have HC : Hid (∀ W, Adds w3.drew W → W.cell? ⟨w.heap.size, 0, none⟩ = some (.slice ao fl cap) ∧ W.cell? ⟨w1.heap.size, 0, none⟩ = some (.int .i64 f) ∧ W.cell? ⟨w1.heap.size, 1, none⟩ = some (.int .i64 pc)) := Lib.hid fun W h => by
    have h' := Adds.trans (Adds.drew _) h
    have b1 := ((B1.out.adds A2.out).adds A23.out).adds h'
    have b2 := (B2.out.adds A23.out).adds h'
    exact ⟨b1.cell 0, b2.cell 0, b2.cell 1⟩
  have HBk : Hid (∀ W, Adds w3.drew W → BkS 56 W w2.heap.size [.int .i64 0, .int .i64 0, .int .i64 0, .int .i64 0, .int .u32 0]) := Lib.hid fun W h => B3.out.adds (Adds.trans (Adds.drew _) h)
  have HSz := Lib.hid (show w.heap.size ≤ w2.heap.size from (Adds.trans A1.out A2.out).size)
  unfold atP
  rw [hfl]
  have hfl0 : (fl : Int) ≤ 9223372036854775807 := by omega
  by_cases hn : f < 0
  case pos =>
    rw [show hasB fl f = false by unfold hasB; exact decide_eq_false (by omega)]
    go_enter Tryz.func18, Tryz.ntmps18
    go_wp2
    refine wp_region_loose [] (fun _ _ _ => True) Adds (by kernel_rfl) (by kernel_rfl) (by simp []) Adds.refl (fun _ _ _ h k => Adds.trans h k) (fun _ _ _ _ _ _ => trivial) ?_
    (repeat (refine wpL_step (fun K hK => ?_); first
        | (refine stepL_skip rfl rfl rfl ?_; go_simp; refine hK _ ?_; clear hK K)
        | (refine stepL_ex (v := .bool true) rfl rfl rfl Adds.refl ?_ ?_; (· (intro w' hw'; clear hK; skip; go_simp)); go_simp; refine hK _ ?_; clear hK K)
        | (refine stepL_ex (v := .bool false) rfl rfl rfl Adds.refl ?_ ?_; (· (intro w' hw'; clear hK; skip; go_simp)); go_simp; refine hK _ ?_; clear hK K)
        | (refine stepL_ex rfl rfl rfl Adds.refl (fun w' hw' => rfl) ?_; go_simp; refine hK _ ?_; clear hK K)
        | (refine stepL_ex (v := .slice ao fl cap) rfl rfl rfl Adds.refl ?_ ?_; (· (intro w' hw'; clear hK; obtain ⟨c20, c30, c31⟩ := HC.out w' hw'; go_simp)); go_simp; refine hK _ ?_; clear hK K)
        | (refine stepL_ex (v := .int .i64 f) rfl rfl rfl Adds.refl ?_ ?_; (· (intro w' hw'; clear hK; obtain ⟨c20, c30, c31⟩ := HC.out w' hw'; go_simp)); go_simp; refine hK _ ?_; clear hK K)
        | (refine stepL_ex (v := .int .i64 pc) rfl rfl rfl Adds.refl ?_ ?_; (· (intro w' hw'; clear hK; obtain ⟨c20, c30, c31⟩ := HC.out w' hw'; go_simp)); go_simp; refine hK _ ?_; clear hK K)
        | (refine stepL_ex (v := .int .i64 (fl : Nat)) rfl rfl rfl Adds.refl ?_ ?_; (· (intro w' hw'; clear hK; skip; go_simp)); go_simp; refine hK _ ?_; clear hK K)))
    refine wpL_nil ?_
    intro w7 a7
    simp only [forL]
    have A7 := Lib.hid (Adds.trans A3.out (Adds.trans (Adds.drew _) a7))
    have B7 := Lib.hid (HBk.out w7 a7)
    have z0 : w7.cell? ⟨w2.heap.size, 0, none⟩ = some (.int .i64 0) := B7.out.cell 0; have y0 := B7.out.free 0; have z1 : w7.cell? ⟨w2.heap.size, 1, none⟩ = some (.int .i64 0) := B7.out.cell 1; have y1 := B7.out.free 1; have z2 : w7.cell? ⟨w2.heap.size, 2, none⟩ = some (.int .i64 0) := B7.out.cell 2; have y2 := B7.out.free 2; have z3 : w7.cell? ⟨w2.heap.size, 3, none⟩ = some (.int .i64 0) := B7.out.cell 3; have y3 := B7.out.free 3; have z4 : w7.cell? ⟨w2.heap.size, 4, none⟩ = some (.int .u32 0) := B7.out.cell 4; have y4 := B7.out.free 4
    clear a7
    go_wp2
    try simp only [Exit.inBlock, Exit.then]
    refine bodyPost_ret (res_box2 rfl _ _ _ _ _ _ _ rfl (((((B7.out.set 0 (.int .i64 0)).set 1 (.int .i64 0)).set 2 (.int .i64 0)).set 3 (.int .i64 0)).set 4 (.int .u32 0)) Tryz.underlying56 rfl (by kernel_rfl)) rfl ?_
    exact ⟨rfl, Adds.set (Adds.set (Adds.set (Adds.set (Adds.set A7.out HSz.out _ _) HSz.out _ _) HSz.out _ _) HSz.out _ _) HSz.out _ _⟩
  case neg =>
    obtain ⟨k, rfl⟩ : ∃ k : Nat, f = (k : Int) := ⟨f.toNat, by omega⟩
    by_cases hge : (fl : Int) ≤ (k : Int)
    case pos =>
      rw [show hasB fl (k : Int) = false by unfold hasB; exact decide_eq_false (by omega)]
      go_enter Tryz.func18, Tryz.ntmps18
      go_wp2
      refine wp_region_loose [] (fun _ _ _ => True) Adds (by kernel_rfl) (by kernel_rfl) (by simp []) Adds.refl (fun _ _ _ h k => Adds.trans h k) (fun _ _ _ _ _ _ => trivial) ?_
      (repeat (refine wpL_step (fun K hK => ?_); first
          | (refine stepL_skip rfl rfl rfl ?_; go_simp; refine hK _ ?_; clear hK K)
          | (refine stepL_ex (v := .bool true) rfl rfl rfl Adds.refl ?_ ?_; (· (intro w' hw'; clear hK; skip; go_simp)); go_simp; refine hK _ ?_; clear hK K)
          | (refine stepL_ex (v := .bool false) rfl rfl rfl Adds.refl ?_ ?_; (· (intro w' hw'; clear hK; skip; go_simp)); go_simp; refine hK _ ?_; clear hK K)
          | (refine stepL_ex rfl rfl rfl Adds.refl (fun w' hw' => rfl) ?_; go_simp; refine hK _ ?_; clear hK K)
          | (refine stepL_ex (v := .slice ao fl cap) rfl rfl rfl Adds.refl ?_ ?_; (· (intro w' hw'; clear hK; obtain ⟨c20, c30, c31⟩ := HC.out w' hw'; go_simp)); go_simp; refine hK _ ?_; clear hK K)
          | (refine stepL_ex (v := .int .i64 (k : Nat)) rfl rfl rfl Adds.refl ?_ ?_; (· (intro w' hw'; clear hK; obtain ⟨c20, c30, c31⟩ := HC.out w' hw'; go_simp)); go_simp; refine hK _ ?_; clear hK K)
          | (refine stepL_ex (v := .int .i64 pc) rfl rfl rfl Adds.refl ?_ ?_; (· (intro w' hw'; clear hK; obtain ⟨c20, c30, c31⟩ := HC.out w' hw'; go_simp)); go_simp; refine hK _ ?_; clear hK K)
          | (refine stepL_ex (v := .int .i64 (fl : Nat)) rfl rfl rfl Adds.refl ?_ ?_; (· (intro w' hw'; clear hK; skip; go_simp)); go_simp; refine hK _ ?_; clear hK K)))
      refine wpL_nil ?_
      intro w7 a7
      simp only [forL]
      have A7 := Lib.hid (Adds.trans A3.out (Adds.trans (Adds.drew _) a7))
      have B7 := Lib.hid (HBk.out w7 a7)
      have z0 : w7.cell? ⟨w2.heap.size, 0, none⟩ = some (.int .i64 0) := B7.out.cell 0; have y0 := B7.out.free 0; have z1 : w7.cell? ⟨w2.heap.size, 1, none⟩ = some (.int .i64 0) := B7.out.cell 1; have y1 := B7.out.free 1; have z2 : w7.cell? ⟨w2.heap.size, 2, none⟩ = some (.int .i64 0) := B7.out.cell 2; have y2 := B7.out.free 2; have z3 : w7.cell? ⟨w2.heap.size, 3, none⟩ = some (.int .i64 0) := B7.out.cell 3; have y3 := B7.out.free 3; have z4 : w7.cell? ⟨w2.heap.size, 4, none⟩ = some (.int .u32 0) := B7.out.cell 4; have y4 := B7.out.free 4
      clear a7
      go_wp2
      try simp only [Exit.inBlock, Exit.then]
      refine bodyPost_ret (res_box2 rfl _ _ _ _ _ _ _ rfl (((((B7.out.set 0 (.int .i64 0)).set 1 (.int .i64 0)).set 2 (.int .i64 0)).set 3 (.int .i64 0)).set 4 (.int .u32 0)) Tryz.underlying56 rfl (by kernel_rfl)) rfl ?_
      exact ⟨rfl, Adds.set (Adds.set (Adds.set (Adds.set (Adds.set A7.out HSz.out _ _) HSz.out _ _) HSz.out _ _) HSz.out _ _) HSz.out _ _⟩
    case neg =>
      rw [show hasB fl (k : Int) = true by unfold hasB; exact decide_eq_true (by omega)]
      have hlt : k < fl := by omega
      have hgeN : ¬ fl ≤ k := by omega
      have hn0 : ¬ ((k : Int) < 0) := by omega
      subst hfl
      obtain ⟨g, off, rfl, hg, hat⟩ := HF.out.at hlt
      obtain ⟨k0, c, k1, hc, hok⟩ := hat
      have HCd := Lib.hid hc
      obtain ⟨ac, cc, rfl, hcl0, hcc⟩ := hc.form
      rw [show ((k : Int)).toNat = k from rfl]
      have hltI : (k : Int) < (fs.length : Int) := by omega
      generalize fs.getD k zF = fu at *
      obtain ⟨cl, hcl⟩ : ∃ cl, fu.2.length = cl := ⟨_, rfl⟩
      rw [hcl] at k1 HCd hcl0 ⊢
      have hcc' : (cc : Int) ≤ 9223372036854775807 := by unfold maxLen at hcc; omega
      have HCo : Hid (∀ W, Adds w3.drew W → W.cell? ⟨g, off + k * 2 + 1, none⟩ = some (.slice ac cl cc)) := Lib.hid fun W h => by
        exact (Adds.trans A3.out (Adds.trans (Adds.drew _) h)).cellAt k1
      obtain ⟨fl, hfl⟩ : ∃ fl, fs.length = fl := ⟨_, rfl⟩
      rw [hfl] at HF HC h1 hw1 B1 hltI hlt hge hgeN hfl0
      rw [hfl]
      by_cases hn2 : pc < 0
      case pos =>
        rw [show hasB cl pc = false by unfold hasB; exact decide_eq_false (by omega)]
        go_enter Tryz.func18, Tryz.ntmps18
        go_wp2
        refine wp_region_loose [] (fun _ _ _ => True) Adds (by kernel_rfl) (by kernel_rfl) (by simp []) Adds.refl (fun _ _ _ h k => Adds.trans h k) (fun _ _ _ _ _ _ => trivial) ?_
        (repeat (refine wpL_step (fun K hK => ?_); first
            | (refine stepL_skip rfl rfl rfl ?_; go_simp; refine hK _ ?_; clear hK K)
            | (refine stepL_ex (v := .bool true) rfl rfl rfl Adds.refl ?_ ?_; (· (intro w' hw'; clear hK; skip; go_simp)); go_simp; refine hK _ ?_; clear hK K)
            | (refine stepL_ex (v := .bool false) rfl rfl rfl Adds.refl ?_ ?_; (· (intro w' hw'; clear hK; skip; go_simp)); go_simp; refine hK _ ?_; clear hK K)
            | (refine stepL_ex rfl rfl rfl Adds.refl (fun w' hw' => rfl) ?_; go_simp; refine hK _ ?_; clear hK K)
            | (refine stepL_ex (v := .slice (some ⟨g, off, none⟩) fl cap) rfl rfl rfl Adds.refl ?_ ?_; (· (intro w' hw'; clear hK; obtain ⟨c20, c30, c31⟩ := HC.out w' hw'; go_simp)); go_simp; refine hK _ ?_; clear hK K)
            | (refine stepL_ex (v := .int .i64 (k : Nat)) rfl rfl rfl Adds.refl ?_ ?_; (· (intro w' hw'; clear hK; obtain ⟨c20, c30, c31⟩ := HC.out w' hw'; go_simp)); go_simp; refine hK _ ?_; clear hK K)
            | (refine stepL_ex (v := .int .i64 pc) rfl rfl rfl Adds.refl ?_ ?_; (· (intro w' hw'; clear hK; obtain ⟨c20, c30, c31⟩ := HC.out w' hw'; go_simp)); go_simp; refine hK _ ?_; clear hK K)
            | (refine stepL_ex (v := .int .i64 (fl : Nat)) rfl rfl rfl Adds.refl ?_ ?_; (· (intro w' hw'; clear hK; skip; go_simp)); go_simp; refine hK _ ?_; clear hK K)))
        refine wpL_nil ?_
        intro w7 a7
        simp only [forL]
        have A7 := Lib.hid (Adds.trans A3.out (Adds.trans (Adds.drew _) a7))
        have B7 := Lib.hid (HBk.out w7 a7)
        have z0 : w7.cell? ⟨w2.heap.size, 0, none⟩ = some (.int .i64 0) := B7.out.cell 0; have y0 := B7.out.free 0; have z1 : w7.cell? ⟨w2.heap.size, 1, none⟩ = some (.int .i64 0) := B7.out.cell 1; have y1 := B7.out.free 1; have z2 : w7.cell? ⟨w2.heap.size, 2, none⟩ = some (.int .i64 0) := B7.out.cell 2; have y2 := B7.out.free 2; have z3 : w7.cell? ⟨w2.heap.size, 3, none⟩ = some (.int .i64 0) := B7.out.cell 3; have y3 := B7.out.free 3; have z4 : w7.cell? ⟨w2.heap.size, 4, none⟩ = some (.int .u32 0) := B7.out.cell 4; have y4 := B7.out.free 4
        clear a7
        go_wp2
        try simp only [Exit.inBlock, Exit.then]
        refine bodyPost_ret (res_box2 rfl _ _ _ _ _ _ _ rfl (((((B7.out.set 0 (.int .i64 0)).set 1 (.int .i64 0)).set 2 (.int .i64 0)).set 3 (.int .i64 0)).set 4 (.int .u32 0)) Tryz.underlying56 rfl (by kernel_rfl)) rfl ?_
        exact ⟨rfl, Adds.set (Adds.set (Adds.set (Adds.set (Adds.set A7.out HSz.out _ _) HSz.out _ _) HSz.out _ _) HSz.out _ _) HSz.out _ _⟩
      case neg =>
        obtain ⟨q, rfl⟩ : ∃ q : Nat, pc = (q : Int) := ⟨pc.toNat, by omega⟩
        by_cases hge2 : (cl : Int) ≤ (q : Int)
        case pos =>
          have hge2N : cl ≤ q := by omega
          rw [show hasB cl (q : Int) = false by unfold hasB; exact decide_eq_false (by omega)]
          go_enter Tryz.func18, Tryz.ntmps18
          go_wp2
          refine wp_region_loose [] (fun _ _ _ => True) Adds (by kernel_rfl) (by kernel_rfl) (by simp []) Adds.refl (fun _ _ _ h k => Adds.trans h k) (fun _ _ _ _ _ _ => trivial) ?_
          (repeat (refine wpL_step (fun K hK => ?_); first
              | (refine stepL_skip rfl rfl rfl ?_; go_simp; refine hK _ ?_; clear hK K)
              | (refine stepL_ex (v := .bool true) rfl rfl rfl Adds.refl ?_ ?_; (· (intro w' hw'; clear hK; skip; go_simp)); go_simp; refine hK _ ?_; clear hK K)
              | (refine stepL_ex (v := .bool false) rfl rfl rfl Adds.refl ?_ ?_; (· (intro w' hw'; clear hK; skip; go_simp)); go_simp; refine hK _ ?_; clear hK K)
              | (refine stepL_ex rfl rfl rfl Adds.refl (fun w' hw' => rfl) ?_; go_simp; refine hK _ ?_; clear hK K)
              | (refine stepL_ex (v := .slice (some ⟨g, off, none⟩) fl cap) rfl rfl rfl Adds.refl ?_ ?_; (· (intro w' hw'; clear hK; obtain ⟨c20, c30, c31⟩ := HC.out w' hw'; go_simp)); go_simp; refine hK _ ?_; clear hK K)
              | (refine stepL_ex (v := .int .i64 (k : Nat)) rfl rfl rfl Adds.refl ?_ ?_; (· (intro w' hw'; clear hK; obtain ⟨c20, c30, c31⟩ := HC.out w' hw'; go_simp)); go_simp; refine hK _ ?_; clear hK K)
              | (refine stepL_ex (v := .int .i64 (q : Nat)) rfl rfl rfl Adds.refl ?_ ?_; (· (intro w' hw'; clear hK; obtain ⟨c20, c30, c31⟩ := HC.out w' hw'; go_simp)); go_simp; refine hK _ ?_; clear hK K)
              | (refine stepL_ex (v := .int .i64 (fl : Nat)) rfl rfl rfl Adds.refl ?_ ?_; (· (intro w' hw'; clear hK; skip; go_simp)); go_simp; refine hK _ ?_; clear hK K)
              | (refine stepL_ex (v := .pointer (some ⟨g, off + k * 2, none⟩)) rfl rfl rfl Adds.refl ?_ ?_; (· (intro w' hw'; clear hK; skip; go_simp)); go_simp; refine hK _ ?_; clear hK K)
              | (refine stepL_ex (v := .slice ac cl cc) rfl rfl rfl Adds.refl ?_ ?_; (· (intro w' hw'; clear hK; have cc1 := HCo.out w' hw'; go_simp)); go_simp; refine hK _ ?_; clear hK K)
              | (refine stepL_ex (v := .int .i64 (cl : Nat)) rfl rfl rfl Adds.refl ?_ ?_; (· (intro w' hw'; clear hK; skip; go_simp)); go_simp; refine hK _ ?_; clear hK K)))
          refine wpL_nil ?_
          intro w7 a7
          simp only [forL]
          have A7 := Lib.hid (Adds.trans A3.out (Adds.trans (Adds.drew _) a7))
          have B7 := Lib.hid (HBk.out w7 a7)
          have z0 : w7.cell? ⟨w2.heap.size, 0, none⟩ = some (.int .i64 0) := B7.out.cell 0; have y0 := B7.out.free 0; have z1 : w7.cell? ⟨w2.heap.size, 1, none⟩ = some (.int .i64 0) := B7.out.cell 1; have y1 := B7.out.free 1; have z2 : w7.cell? ⟨w2.heap.size, 2, none⟩ = some (.int .i64 0) := B7.out.cell 2; have y2 := B7.out.free 2; have z3 : w7.cell? ⟨w2.heap.size, 3, none⟩ = some (.int .i64 0) := B7.out.cell 3; have y3 := B7.out.free 3; have z4 : w7.cell? ⟨w2.heap.size, 4, none⟩ = some (.int .u32 0) := B7.out.cell 4; have y4 := B7.out.free 4
          clear a7
          go_wp2
          try simp only [Exit.inBlock, Exit.then]
          refine bodyPost_ret (res_box2 rfl _ _ _ _ _ _ _ rfl (((((B7.out.set 0 (.int .i64 0)).set 1 (.int .i64 0)).set 2 (.int .i64 0)).set 3 (.int .i64 0)).set 4 (.int .u32 0)) Tryz.underlying56 rfl (by kernel_rfl)) rfl ?_
          exact ⟨rfl, Adds.set (Adds.set (Adds.set (Adds.set (Adds.set A7.out HSz.out _ _) HSz.out _ _) HSz.out _ _) HSz.out _ _) HSz.out _ _⟩
        case neg =>
          rw [show hasB cl (q : Int) = true by unfold hasB; exact decide_eq_true (by omega)]
          have hlt2 : q < cl := by omega
          have hge2N : ¬ cl ≤ q := by omega
          rw [show ((q : Int)).toNat = q from rfl]
          subst hcl
          obtain ⟨g2, off2, rfl, hg2, hat2⟩ := HCd.out.at hlt2
          obtain ⟨⟨ox, oa, ob, oc, oi⟩, hX⟩ : ∃ X, fu.2.getD q zI = X := ⟨_, rfl⟩
          rw [hX] at hat2 ⊢
          have HA5 : Hid (∀ W, Adds w3.drew W → At5 W g2 (off2 + q * 5) (ox, oa, ob, oc, oi)) := Lib.hid fun W h => hat2.below (Adds.trans A3.out (Adds.trans (Adds.drew _) h)) (World.block_lt_of_cell? w _ hat2.1)
          have hltJ : (q : Int) < (fu.2.length : Int) := by omega
          generalize fu.2.length = cl at *
          go_enter Tryz.func18, Tryz.ntmps18
          go_wp2
          refine wp_region_loose [] (fun _ _ _ => True) Adds (by kernel_rfl) (by kernel_rfl) (by simp []) Adds.refl (fun _ _ _ h k => Adds.trans h k) (fun _ _ _ _ _ _ => trivial) ?_
          (repeat (refine wpL_step (fun K hK => ?_); first
              | (refine stepL_skip rfl rfl rfl ?_; go_simp; refine hK _ ?_; clear hK K)
              | (refine stepL_ex (v := .bool true) rfl rfl rfl Adds.refl ?_ ?_; (· (intro w' hw'; clear hK; skip; go_simp)); go_simp; refine hK _ ?_; clear hK K)
              | (refine stepL_ex (v := .bool false) rfl rfl rfl Adds.refl ?_ ?_; (· (intro w' hw'; clear hK; skip; go_simp)); go_simp; refine hK _ ?_; clear hK K)
              | (refine stepL_ex rfl rfl rfl Adds.refl (fun w' hw' => rfl) ?_; go_simp; refine hK _ ?_; clear hK K)
              | (refine stepL_ex (v := .slice (some ⟨g, off, none⟩) fl cap) rfl rfl rfl Adds.refl ?_ ?_; (· (intro w' hw'; clear hK; obtain ⟨c20, c30, c31⟩ := HC.out w' hw'; go_simp)); go_simp; refine hK _ ?_; clear hK K)
              | (refine stepL_ex (v := .int .i64 (k : Nat)) rfl rfl rfl Adds.refl ?_ ?_; (· (intro w' hw'; clear hK; obtain ⟨c20, c30, c31⟩ := HC.out w' hw'; go_simp)); go_simp; refine hK _ ?_; clear hK K)
              | (refine stepL_ex (v := .int .i64 (q : Nat)) rfl rfl rfl Adds.refl ?_ ?_; (· (intro w' hw'; clear hK; obtain ⟨c20, c30, c31⟩ := HC.out w' hw'; go_simp)); go_simp; refine hK _ ?_; clear hK K)
              | (refine stepL_ex (v := .int .i64 (fl : Nat)) rfl rfl rfl Adds.refl ?_ ?_; (· (intro w' hw'; clear hK; skip; go_simp)); go_simp; refine hK _ ?_; clear hK K)
              | (refine stepL_ex (v := .pointer (some ⟨g, off + k * 2, none⟩)) rfl rfl rfl Adds.refl ?_ ?_; (· (intro w' hw'; clear hK; skip; go_simp)); go_simp; refine hK _ ?_; clear hK K)
              | (refine stepL_ex (v := .slice (some ⟨g2, off2, none⟩) cl cc) rfl rfl rfl Adds.refl ?_ ?_; (· (intro w' hw'; clear hK; have cc1 := HCo.out w' hw'; go_simp)); go_simp; refine hK _ ?_; clear hK K)
              | (refine stepL_ex (v := .int .i64 (cl : Nat)) rfl rfl rfl Adds.refl ?_ ?_; (· (intro w' hw'; clear hK; skip; go_simp)); go_simp; refine hK _ ?_; clear hK K)))
          refine wpL_nil ?_
          intro w7 a7
          simp only [forL]
          have A7 := Lib.hid (Adds.trans A3.out (Adds.trans (Adds.drew _) a7))
          have B7 := Lib.hid (HBk.out w7 a7)
          have z0 : w7.cell? ⟨w2.heap.size, 0, none⟩ = some (.int .i64 0) := B7.out.cell 0; have y0 := B7.out.free 0; have z1 : w7.cell? ⟨w2.heap.size, 1, none⟩ = some (.int .i64 0) := B7.out.cell 1; have y1 := B7.out.free 1; have z2 : w7.cell? ⟨w2.heap.size, 2, none⟩ = some (.int .i64 0) := B7.out.cell 2; have y2 := B7.out.free 2; have z3 : w7.cell? ⟨w2.heap.size, 3, none⟩ = some (.int .i64 0) := B7.out.cell 3; have y3 := B7.out.free 3; have z4 : w7.cell? ⟨w2.heap.size, 4, none⟩ = some (.int .u32 0) := B7.out.cell 4; have y4 := B7.out.free 4
          obtain ⟨c20, c30, c31⟩ := HC.out w7 a7
          have cc1 := HCo.out w7 a7
          obtain ⟨i0, i1, i2, i3, i4⟩ := HA5.out w7 a7
          simp only at i0 i1 i2 i3 i4
          clear a7
          go_wp2
          go_region
          go_wp2
          try simp only [Exit.inBlock, Exit.then]
          refine bodyPost_ret (res_box2 rfl _ _ _ _ _ _ _ rfl (((((B7.out.set 0 (.int .i64 ox)).set 1 (.int .i64 oa)).set 2 (.int .i64 ob)).set 3 (.int .i64 oc)).set 4 (.int .u32 oi)) Tryz.underlying56 rfl (by kernel_rfl)) rfl ?_
          exact ⟨rfl, Adds.trans (Adds.set (Adds.set (Adds.set (Adds.set (Adds.set A7.out HSz.out _ _) HSz.out _ _) HSz.out _ _) HSz.out _ _) HSz.out _ _) (Adds.drew _)⟩
end Go.Proofs.YtdkgehhlikaocaaGreat
