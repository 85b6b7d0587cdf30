/- Merged: GS1. -/
import Derived.Test.YthhegcngkpfcoaaGreatDoorF43
namespace Go.Proofs.YthhegcngkpfcoaaGreatDoor
open Go Go.RowKit Go.Shelf

set_option maxRecDepth 100000 in
set_option maxHeartbeats 4000000 in
theorem refSame_any {n m : Nat} (u v : Value) (p q : Pg) (w : World) (hf : FuncsW n w u p.1) (hg : FuncsW m w v q.1) : Calls Tryz.prog 13 #[pgV u p, pgV v q] w fun e w' => e = .returned (.bool (samePg p q)) ∧ Adds w w' := by
  obtain ⟨fs, x1, x2, x3⟩ := p
  obtain ⟨gs, y1, y2, y3⟩ := q
  simp only at hf hg
  have HC := Lib.hid hf
  have HD := Lib.hid hg
  obtain ⟨ao, ca, rfl, _, hca, _⟩ := hf
  obtain ⟨bo, cb, rfl, _, hcb, _⟩ := hg
  unfold maxLen at hca hcb
  unfold samePg
  simp only
  obtain ⟨fl, hfl⟩ : ∃ l, fs.length = l := ⟨_, rfl⟩
  obtain ⟨gl, hgl⟩ : ∃ l, gs.length = l := ⟨_, rfl⟩
  have HFl := Lib.hid hfl
  have HGl := Lib.hid hgl
  rw [hfl] at HC ⊢
  rw [hgl] at HD ⊢
  have hflI : (fl : Int) ≤ 9223372036854775807 := by omega
  clear hfl hgl hca hcb
  obtain ⟨w1, hw1⟩ : ∃ w1, w.alloc (.cells #[.slice ao fl ca, .int .i64 x1, .int .i64 x2, .int .i64 x3] 24) = w1 := ⟨_, rfl⟩
  have A1 := Lib.hid (show Adds w w1 by rw [← hw1]; exact (Gr.new _ _).adds)
  have B1 := Lib.hid (show BkS 24 w1 w.heap.size [.slice ao fl ca, .int .i64 x1, .int .i64 x2, .int .i64 x3] by rw [← hw1]; exact BkS.new _ _ _)
  obtain ⟨w2, hw2⟩ : ∃ w2, w1.alloc (.cells #[.slice bo gl cb, .int .i64 y1, .int .i64 y2, .int .i64 y3] 24) = w2 := ⟨_, rfl⟩
  have A2 := Lib.hid (show Adds w1 w2 by rw [← hw2]; exact (Gr.new _ _).adds)
  have B2 := Lib.hid (show BkS 24 w2 w1.heap.size [.slice bo gl cb, .int .i64 y1, .int .i64 y2, .int .i64 y3] by rw [← hw2]; exact BkS.new _ _ _)
  have A12 := Lib.hid (Adds.trans A1.out A2.out)
  have C1 := Lib.hid (B1.out.adds A2.out)
  have b0 : w2.cell? ⟨w.heap.size, 0, none⟩ = some (.slice ao fl ca) := C1.out.cell 0
  have b1 : w2.cell? ⟨w.heap.size, 1, none⟩ = some (.int .i64 x1) := C1.out.cell 1
  have b2 : w2.cell? ⟨w.heap.size, 2, none⟩ = some (.int .i64 x2) := C1.out.cell 2
  have b3 : w2.cell? ⟨w.heap.size, 3, none⟩ = some (.int .i64 x3) := C1.out.cell 3
  have c0 : w2.cell? ⟨w1.heap.size, 0, none⟩ = some (.slice bo gl cb) := B2.out.cell 0
  have c1 : w2.cell? ⟨w1.heap.size, 1, none⟩ = some (.int .i64 y1) := B2.out.cell 1
  have c2 : w2.cell? ⟨w1.heap.size, 2, none⟩ = some (.int .i64 y2) := B2.out.cell 2
  have c3 : w2.cell? ⟨w1.heap.size, 3, none⟩ = some (.int .i64 y3) := B2.out.cell 3
  by_cases h1 : x1 = y1
  · by_cases h2 : x2 = y2
    · by_cases h3 : x3 = y3
      · by_cases hl : fl = gl
        · subst h1 h2 h3 hl
          simp only [and_self, decide_true, Bool.true_and]
          go_enter Tryz.func13, Tryz.ntmps13
          go_wp2
          clear b1 b2 b3 c1 c2 c3
          go_loopw [5] (fun i wr => ∃ k : Nat, i = .int .i64 k ∧ k ≤ fl ∧ Hid (fs.take k = gs.take k) ∧ Hid (Adds w2 wr)) (fun i _ => fl + 1 - (intOf i).toNat)
          case atStart => exact ⟨0, rfl, Nat.zero_le _, Lib.hid (by simp), Lib.hid (Adds.refl _)⟩
          case round =>
            obtain ⟨k, rfl, hk, HT, HA⟩ := hrel
            have d0 : wr.cell? ⟨w.heap.size, 0, none⟩ = some (.slice ao fl ca) := (C1.out.adds HA.out).cell 0
            have e0 : wr.cell? ⟨w1.heap.size, 0, none⟩ = some (.slice bo fl cb) := (B2.out.adds HA.out).cell 0
            by_cases hlt : k < fl
            · obtain ⟨g, off, rfl, _, hx⟩ := (show FuncsW w.heap.size wr (.slice ao fs.length ca) fs by have h := HC.out.adds (Adds.trans A12.out HA.out); rw [← HFl.out] at h; exact h).at (i := k) (by rw [HFl.out]; exact hlt)
              obtain ⟨g', off', rfl, _, hy⟩ := (show FuncsW w.heap.size wr (.slice bo gs.length cb) gs by have h := HD.out.adds (Adds.trans A12.out HA.out); rw [← HGl.out] at h; exact h).at (i := k) (by rw [HGl.out]; exact hlt)
              obtain ⟨⟨r, c⟩, hX⟩ : ∃ X, fs.getD k zF = X := ⟨_, rfl⟩
              obtain ⟨⟨q, d⟩, hY⟩ : ∃ Y, gs.getD k zF = Y := ⟨_, rfl⟩
              rw [hX] at hx
              rw [hY] at hy
              have HX := Lib.hid hX
              have HY := Lib.hid hY
              obtain ⟨i0, u, i1, hcu, _⟩ := hx
              obtain ⟨j0, v, j1, hcv, _⟩ := hy
              simp only at i0 i1 hcu j0 j1 hcv
              obtain ⟨ac, cc, rfl, _, hcc⟩ := hcu.form
              obtain ⟨ad, cd, rfl, _, hcd⟩ := hcv.form
              have HCU := Lib.hid hcu
              have HCV := Lib.hid hcv
              obtain ⟨lc, hlc⟩ : ∃ l, c.length = l := ⟨_, rfl⟩
              obtain ⟨ld, hld⟩ : ∃ l, d.length = l := ⟨_, rfl⟩
              have HLc := Lib.hid hlc
              have HLd := Lib.hid hld
              rw [hlc] at HCU i1
              rw [hld] at HCV j1
              have HLt := Lib.hid hlt
              have hltI : (k : Int) < (fl : Int) := by omega
              have hlcI : (lc : Int) ≤ 9223372036854775807 := by unfold maxLen at hcc; omega
              clear hcu hcv hX hY hlt hk hcc hcd hlc hld
              have al : ∀ (W : World) (o : Obj) (p : Addr) (v : Value), W.cell? p = some v → (W.alloc o).cell? p = some v := fun W o p v h => Lib.cell?_alloc_some _ h
              have i0a := fun o => al wr o _ _ i0
              have i1a := fun o => al wr o _ _ i1
              have j0a := fun o => al wr o _ _ j0
              have j1a := fun o => al wr o _ _ j1
              have d0a := fun o => al wr o _ _ d0
              have e0a := fun o => al wr o _ _ e0
              have i0b := fun o o' => al _ o' _ _ (i0a o)
              have i1b := fun o o' => al _ o' _ _ (i1a o)
              have j0b := fun o o' => al _ o' _ _ (j0a o)
              have j1b := fun o o' => al _ o' _ _ (j1a o)
              have d0b := fun o o' => al _ o' _ _ (d0a o)
              have e0b := fun o o' => al _ o' _ _ (e0a o)
              clear al
              go_wp2
              go_region
              clear i0a i1a j0a j1a d0a e0a i0b i1b j0b j1b d0b e0b i0 i1 j0 j1 d0 e0
              all_goals
                first
                  | (obtain ⟨W, hW⟩ : ∃ W, ((wr.alloc (Obj.cells #[.int .i64 r, .slice ac lc cc] 55)).alloc (Obj.cells #[.int .i64 q, .slice ad ld cd] 55)).drew = W := ⟨_, rfl⟩
                     rw [hW]
                     have es : (wr.alloc (Obj.cells #[.int .i64 r, .slice ac lc cc] 55)).heap.size = wr.heap.size + 1 := by simp
                     have AW := Lib.hid (show Adds wr W by rw [← hW]; exact ((Gr.new _ _).adds.trans (Gr.new _ _).adds).trans (Adds.drew _))
                     have B6 := Lib.hid (show BkS 55 W wr.heap.size [.int .i64 r, .slice ac lc cc] by rw [← hW]; exact (BkS.new _ _ _).adds ((Gr.new _ _).adds.trans (Adds.drew _)))
                     have B7 := Lib.hid (show BkS 55 W (wr.heap.size + 1) [.int .i64 q, .slice ad ld cd] by rw [← hW, ← es]; exact (BkS.new _ _ _).adds (Adds.drew _))
                     clear hW es
                     generalize wr.heap.size + 1 = p7 at *
                     generalize wr.heap.size = p6 at *)
                  | (obtain ⟨W, hW⟩ : ∃ W, ((wr.alloc (Obj.cells #[.int .i64 q, .slice ad ld cd] 55)).alloc (Obj.cells #[.int .i64 r, .slice ac lc cc] 55)).drew = W := ⟨_, rfl⟩
                     rw [hW]
                     have es : (wr.alloc (Obj.cells #[.int .i64 q, .slice ad ld cd] 55)).heap.size = wr.heap.size + 1 := by simp
                     have AW := Lib.hid (show Adds wr W by rw [← hW]; exact ((Gr.new _ _).adds.trans (Gr.new _ _).adds).trans (Adds.drew _))
                     have B6 := Lib.hid (show BkS 55 W (wr.heap.size + 1) [.int .i64 r, .slice ac lc cc] by rw [← hW, ← es]; exact (BkS.new _ _ _).adds (Adds.drew _))
                     have B7 := Lib.hid (show BkS 55 W wr.heap.size [.int .i64 q, .slice ad ld cd] by rw [← hW]; exact (BkS.new _ _ _).adds ((Gr.new _ _).adds.trans (Adds.drew _)))
                     clear hW es
                     generalize wr.heap.size + 1 = p6 at *
                     generalize wr.heap.size = p7 at *)
              all_goals
                have f0 : W.cell? ⟨p6, 0, none⟩ = some (.int .i64 r) := B6.out.cell 0
                have f1 : W.cell? ⟨p6, 1, none⟩ = some (.slice ac lc cc) := B6.out.cell 1
                have g0 : W.cell? ⟨p7, 0, none⟩ = some (.int .i64 q) := B7.out.cell 0
                have g1 : W.cell? ⟨p7, 1, none⟩ = some (.slice ad ld cd) := B7.out.cell 1
                by_cases hr : r = q
                · by_cases hll : lc = ld
                  · subst hr hll
                    go_wp2
                    clear f0 f1 g0 g1
                    go_loopw [8] (fun i wj => ∃ j : Nat, i = .int .i64 j ∧ j ≤ lc ∧ Hid (c.take j = d.take j) ∧ Hid (Adds W wj)) (fun i _ => lc + 1 - (intOf i).toNat)
                    case atStart => exact ⟨0, rfl, Nat.zero_le _, Lib.hid (by simp), Lib.hid (Adds.refl _)⟩
                    case round =>
                      obtain ⟨j, rfl, hj, HU, HB⟩ := hrel
                      have f1 : wr.cell? ⟨p6, 1, none⟩ = some (.slice ac lc cc) := (B6.out.adds HB.out).cell 1
                      have g1 : wr.cell? ⟨p7, 1, none⟩ = some (.slice ad lc cd) := (B7.out.adds HB.out).cell 1
                      by_cases hjl : j < lc
                      · obtain ⟨gx, ox, rfl, _, hx⟩ := (show CodeW wr.heap.size wr (.slice ac c.length cc) c by have h := (HCU.out.adds (Adds.trans AW.out HB.out)).here; rw [← HLc.out] at h; exact h).at (i := j) (by rw [HLc.out]; exact hjl)
                        obtain ⟨gy, oy, rfl, _, hy⟩ := (show CodeW wr.heap.size wr (.slice ad d.length cd) d by have h := (HCV.out.adds (Adds.trans AW.out HB.out)).here; rw [← HLd.out] at h; exact h).at (i := j) (by rw [HLd.out]; exact hjl)
                        obtain ⟨X, hX⟩ : ∃ X, c.getD j zI = X := ⟨_, rfl⟩
                        obtain ⟨Y, hY⟩ : ∃ Y, d.getD j zI = Y := ⟨_, rfl⟩
                        rw [hX] at hx
                        rw [hY] at hy
                        have HXI := Lib.hid hX
                        have HYI := Lib.hid hY
                        have NE0 := fun W => ins_neq X Y W
                        obtain ⟨b, hb⟩ : ∃ b, eqI X Y = b := ⟨_, rfl⟩
                        rw [hb] at NE0
                        have HBI := Lib.hid hb
                        have HJl := Lib.hid hjl
                        obtain ⟨x0, x1', x2', x3', x4⟩ := X
                        obtain ⟨y0, y1, y2, y3, y4⟩ := Y
                        obtain ⟨i0, i1, i2, i3, i4⟩ := hx
                        obtain ⟨j0, j1, j2, j3, j4⟩ := hy
                        simp only at i0 i1 i2 i3 i4 j0 j1 j2 j3 j4
                        have NE : ∀ W, (binOp .neq 59 (.agg #[.int .i64 x0, .int .i64 x1', .int .i64 x2', .int .i64 x3', .int .u32 x4]) (.agg #[.int .i64 y0, .int .i64 y1, .int .i64 y2, .int .i64 y3, .int .u32 y4])).run Tryz.prog W = .ok (.bool (!b)) W := NE0
                        have hjI : (j : Int) < (lc : Int) := by omega
                        clear NE0 hX hY hb hjl hj
                        have HCe : Hid (∀ W', Adds wr.drew W' → (W'.cell? ⟨p6, 1, none⟩ = some (.slice (some ⟨gx, ox, none⟩) lc cc) ∧ W'.cell? ⟨p7, 1, none⟩ = some (.slice (some ⟨gy, oy, none⟩) lc cd)) ∧ (W'.cell? ⟨gx, ox + j * 5, none⟩ = some (.int .i64 x0) ∧ W'.cell? ⟨gx, ox + j * 5 + 1, none⟩ = some (.int .i64 x1') ∧ W'.cell? ⟨gx, ox + j * 5 + 2, none⟩ = some (.int .i64 x2') ∧ W'.cell? ⟨gx, ox + j * 5 + 3, none⟩ = some (.int .i64 x3') ∧ W'.cell? ⟨gx, ox + j * 5 + 4, none⟩ = some (.int .u32 x4)) ∧ (W'.cell? ⟨gy, oy + j * 5, none⟩ = some (.int .i64 y0) ∧ W'.cell? ⟨gy, oy + j * 5 + 1, none⟩ = some (.int .i64 y1) ∧ W'.cell? ⟨gy, oy + j * 5 + 2, none⟩ = some (.int .i64 y2) ∧ W'.cell? ⟨gy, oy + j * 5 + 3, none⟩ = some (.int .i64 y3) ∧ W'.cell? ⟨gy, oy + j * 5 + 4, none⟩ = some (.int .u32 y4))) := Lib.hid fun W' h => by
                          have h' := Adds.trans (Adds.drew wr) h
                          exact ⟨⟨h'.cellAt f1, h'.cellAt g1⟩, ⟨h'.cellAt i0, h'.cellAt i1, h'.cellAt i2, h'.cellAt i3, h'.cellAt i4⟩, ⟨h'.cellAt j0, h'.cellAt j1, h'.cellAt j2, h'.cellAt j3, h'.cellAt j4⟩⟩
                        clear i0 i1 i2 i3 i4 j0 j1 j2 j3 j4
                        go_wp2
                        clear f1 g1
                        refine wp_region_loose [] (fun _ _ _ => True) Adds (by kernel_rfl) (by kernel_rfl) (by simp []) Adds.refl (fun _ _ _ h k => Adds.trans h k) (fun _ _ _ _ _ _ => trivial) ?_
                        (repeat (refine wpL_step (fun K hK => ?_); first
                          | (refine stepL_ex rfl rfl rfl Adds.refl (fun w' hw' => rfl) ?_; go_simp; refine hK _ ?_; clear hK K)
                          | (refine stepL_ex (v := .slice (some ⟨gx, ox, none⟩) lc cc) rfl rfl rfl Adds.refl ?_ ?_; (· (intro w' hw'; clear hK; obtain ⟨⟨u1, u2⟩, _, _⟩ := HCe.out w' hw'; go_simp)); go_simp; refine hK _ ?_; clear hK K)
                          | (refine stepL_ex (v := .pointer (some ⟨gx, ox + j * 5, none⟩)) rfl rfl rfl Adds.refl ?_ ?_; (· (intro w' hw'; clear hK; go_simp)); go_simp; refine hK _ ?_; clear hK K)
                          | (refine stepL_ex (v := .agg #[.int .i64 x0, .int .i64 x1', .int .i64 x2', .int .i64 x3', .int .u32 x4]) rfl rfl rfl Adds.refl ?_ ?_; (· (intro w' hw'; clear hK; obtain ⟨_, ⟨u1, u2, u3, u4, u5⟩, _⟩ := HCe.out w' hw'; go_simp)); go_simp; refine hK _ ?_; clear hK K)
                          | (refine stepL_ex (v := .slice (some ⟨gy, oy, none⟩) lc cd) rfl rfl rfl Adds.refl ?_ ?_; (· (intro w' hw'; clear hK; obtain ⟨⟨u1, u2⟩, _, _⟩ := HCe.out w' hw'; go_simp)); go_simp; refine hK _ ?_; clear hK K)
                          | (refine stepL_ex (v := .pointer (some ⟨gy, oy + j * 5, none⟩)) rfl rfl rfl Adds.refl ?_ ?_; (· (intro w' hw'; clear hK; go_simp)); go_simp; refine hK _ ?_; clear hK K)
                          | (refine stepL_ex (v := .agg #[.int .i64 y0, .int .i64 y1, .int .i64 y2, .int .i64 y3, .int .u32 y4]) rfl rfl rfl Adds.refl ?_ ?_; (· (intro w' hw'; clear hK; obtain ⟨_, _, ⟨u1, u2, u3, u4, u5⟩⟩ := HCe.out w' hw'; go_simp)); go_simp; refine hK _ ?_; clear hK K)
                          | (refine stepL_ex (v := .bool (!b)) rfl rfl rfl Adds.refl ?_ ?_; (· (intro w' hw'; clear hK; have ne := NE w'; go_simp)); go_simp; refine hK _ ?_; clear hK K)))
                        refine wpL_nil ?_
                        intro w7 a7
                        simp only [forL]
                        have A7 := Lib.hid (Adds.trans (Adds.drew _) a7)
                        clear a7
                        cases b
                        · go_wp2
                          go_ret
                          rw [sameFs_no (fun h => by
                            have h1 := HX.out
                            rw [h, HY.out] at h1
                            have h2 := HXI.out
                            rw [← (Prod.mk.inj h1).2, HYI.out] at h2
                            have h3 := eqI_iff.2 h2.symm
                            rw [HBI.out] at h3
                            cases h3)]
                          exact ⟨rfl, Adds.trans A12.out (Adds.trans HA.out (Adds.trans AW.out (Adds.trans HB.out A7.out)))⟩
                        · go_wp2
                          go_roundw
                          case rel => exact ⟨j + 1, by go_num, HJl.out, Lib.hid (take_next zI c d j HU.out (by rw [HLc.out]; exact HJl.out) (by rw [HLd.out]; exact HJl.out) (by rw [HXI.out, HYI.out]; exact eqI_iff.1 HBI.out)), Lib.hid (Adds.trans HB.out A7.out)⟩
                          case measure => simp [intOf]; have := HJl.out; omega
                      · have hgeI : ¬ (j : Int) < (lc : Int) := by omega
                        have e : c = d := by
                          have h := HU.out
                          rwa [List.take_of_length_le (by rw [HLc.out]; omega), List.take_of_length_le (by rw [HLd.out]; omega)] at h
                        have HE := Lib.hid e
                        clear hjl hj e
                        go_wp2
                        go_roundw
                        case rel => exact ⟨k + 1, by go_num, HLt.out, Lib.hid (take_next zF fs gs k HT.out (by rw [HFl.out]; exact HLt.out) (by rw [HGl.out]; exact HLt.out) (by rw [HX.out, HY.out, HE.out])), Lib.hid (Adds.trans HA.out (Adds.trans AW.out HB.out))⟩
                        case measure => simp [intOf]; have := HLt.out; omega
                  · have hlI : ¬ (lc : Int) = (ld : Int) := by omega
                    subst hr
                    go_wp2
                    go_ret
                    rw [sameFs_no (fun h => hll (by
                      have h1 := HX.out
                      rw [h, HY.out] at h1
                      rw [← HLc.out, ← HLd.out, (Prod.mk.inj h1).2]))]
                    exact ⟨rfl, Adds.trans A12.out (Adds.trans HA.out AW.out)⟩
                · go_wp2
                  go_ret
                  rw [sameFs_no (fun h => hr (by
                    have h1 := HX.out
                    rw [h, HY.out] at h1
                    exact (Prod.mk.inj h1).1.symm))]
                  exact ⟨rfl, Adds.trans A12.out (Adds.trans HA.out AW.out)⟩
            · have hge : ¬ (k : Int) < (fl : Int) := by omega
              have e : fs = gs := by
                have h := HT.out
                rwa [List.take_of_length_le (by rw [HFl.out]; omega), List.take_of_length_le (by rw [HGl.out]; omega)] at h
              have HE := Lib.hid e
              clear hk e
              go_wp2
              go_ret
              rw [sameFs_yes HE.out]
              exact ⟨rfl, Adds.trans A12.out HA.out⟩
        · subst h1 h2 h3
          rw [sameFs_no (fun h => hl (by rw [← HFl.out, ← HGl.out, h]))]
          have hlI : ¬ (fl : Int) = (gl : Int) := by omega
          simp only [and_self, decide_true, Bool.true_and]
          go_enter Tryz.func13, Tryz.ntmps13
          go_wp2
          go_ret
          exact ⟨rfl, A12.out⟩
      · subst h1 h2
        rw [decide_eq_false (fun h => h3 h.2.2)]
        go_enter Tryz.func13, Tryz.ntmps13
        go_wp2
        go_ret
        exact ⟨rfl, A12.out⟩
    · subst h1
      rw [decide_eq_false (fun h => h2 h.2.1)]
      go_enter Tryz.func13, Tryz.ntmps13
      go_wp2
      go_ret
      exact ⟨rfl, A12.out⟩
  · rw [decide_eq_false (fun h => h1 h.1)]
    go_enter Tryz.func13, Tryz.ntmps13
    go_wp2
    go_ret
    exact ⟨rfl, A12.out⟩
end Go.Proofs.YthhegcngkpfcoaaGreatDoor
