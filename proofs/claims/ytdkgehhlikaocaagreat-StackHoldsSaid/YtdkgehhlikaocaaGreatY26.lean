/- Merged: Z28. -/
import Derived.Test.YtdkgehhlikaocaaGreatY24
import Derived.Test.YtdkgehhlikaocaaGreatY25
namespace Go.Proofs.YtdkgehhlikaocaaGreat
open Go Go.RowKit Go.Shelf

section
variable {n : Nat} {w : World}
set_option maxRecDepth 100000 in
theorem copiedL_any {v : Value} {R : List (Fr × Value)} (h : FrsO n w v R) (hr : ∀ x ∈ R, x.1.2.2.2 ≠ [] ∧ x.1.2.2.2.length ≤ 65536) (hl : R.length ≤ 1000000) :
    Calls Tryz.prog 50 #[v] w fun e w' => ∃ v' C, e = .returned v' ∧ FrsO w.heap.size w' v' C ∧ C.map Prod.fst = R.map Prod.fst ∧ Adds w w' := by
  have HC := Lib.hid (copiedFr_any h hr hl)
  obtain ⟨ao, cap, rfl, _, _⟩ := h.form
  generalize R.length = nl at *
  clear h hr hl
  go_enter Tryz.func50, Tryz.ntmps50
  go_wp2_with (go_at_call 66; refine HC.out.mono ?_; clear HC; rintro e w2 ⟨v', C, rfl, ho, hm, a2⟩; have HO := Lib.hid ho; have HM := Lib.hid hm; have A2 := Lib.hid a2; clear ho hm a2)
  go_ret
  exact ⟨_, _, rfl, HO.out, HM.out, A2.out⟩
/-- What is wanted of a pile so that it can be copied. -/
structure MayCopy (p : Pg) (L : List Fr) : Prop where
  ok : ∀ f ∈ p.1, ∀ i ∈ f.2, OkIn i
  l1 : p.1.length ≤ 40
  l2 : ∀ f ∈ p.1, f.2.length ≤ 1600
  rs : ∀ x ∈ L, x.2.2.2 ≠ [] ∧ x.2.2.2.length ≤ 65536
  deep : L.length ≤ 1000000
set_option maxRecDepth 100000 in
set_option maxHeartbeats 8000000 in
theorem copiedP_any {t : TypeId} {b : Nat} {p : Pg} {L : List Fr} {res : UInt32} (h : PileP t n w b p L res) (hM : MayCopy p L) (_hn : n ≤ w.heap.size) :
    Calls Tryz.prog 34 #[.pointer (some ⟨b, 0, none⟩)] w fun e w' => ∃ fv lv C, e = .returned (.agg #[fv, .int .i64 p.2.1, .int .i64 p.2.2.1, .int .i64 p.2.2.2, lv, .int .u32 (res.toNat : Nat)]) ∧ CopyO w.heap.size w' fv p.1 ∧ FrsO w.heap.size w' lv C ∧ C.map Prod.fst = L ∧ Adds w w' := by
  obtain ⟨fv, lv, R, h, hR⟩ := h
  have hlen : R.length = L.length := by rw [← hR]; simp
  obtain ⟨aof, cf, rfl, _, _⟩ := h.fo.form12
  obtain ⟨aol, cl, rfl, _, _⟩ := h.lo.form
  have HP := Lib.hid (fun W (hW : Adds w W) => copy_any _ p W ((h.fo.adds hW).funcs hM.ok) (Nat.le_refl _) hM.l1 hM.l2)
  have HQ := Lib.hid (fun W (hW : Adds w W) => copiedL_any (h.lo.adds hW) (fun x hx => hM.rs x.1 (by rw [← hR]; exact List.mem_map_of_mem hx)) (by rw [hlen]; exact hM.deep))
  obtain ⟨w1, hw1⟩ : ∃ w1, w.alloc (.cells #[.slice none 0 0, .int .i64 0, .int .i64 0, .int .i64 0, .slice none 0 0, .int .u32 0] 70) = w1 := ⟨_, rfl⟩
  have A1 := Lib.hid (show Adds w w1 by rw [← hw1]; exact Adds.new _ _)
  have B1 := Lib.hid (show BkS 70 w1 w.heap.size [.slice none 0 0, .int .i64 0, .int .i64 0, .int .i64 0, .slice none 0 0, .int .u32 0] by rw [← hw1]; exact BkS.new _ _ _)
  have BX := Lib.hid h.bx
  have HRL := Lib.hid hR
  obtain ⟨u, hu⟩ : ∃ u, res.toNat = u := ⟨_, rfl⟩
  obtain ⟨nf, hnf⟩ : ∃ nf, p.1.length = nf := ⟨_, rfl⟩
  obtain ⟨nl, hnl⟩ : ∃ nl, R.length = nl := ⟨_, rfl⟩
  have HNF := Lib.hid hnf
  have HNL := Lib.hid hnl
  obtain ⟨fs, x1, x2, x3⟩ := p
  simp only at hnf HNF HP BX ⊢
  simp only [hu, hnf, hnl] at BX HP HQ ⊢
  have key := fun W (hW : Adds w1 W) => (BX.out.adds (Adds.trans A1.out hW))
  have KC := Lib.hid (fun W (hW : Adds w1 W) => And.intro ((key W hW).cell 0) (And.intro ((key W hW).cell 1) (And.intro ((key W hW).cell 2) (And.intro ((key W hW).cell 3) (And.intro ((key W hW).cell 4) ((key W hW).cell 5))))))
  clear h hR hlen hM hu hnf hnl key _hn
  obtain ⟨c0, c1, c2, c3, c4, c5⟩ := KC.out _ (Adds.refl w1)
  have d0 := B1.out.cell 0
  have d1 := B1.out.cell 1
  have d2 := B1.out.cell 2
  have d3 := B1.out.cell 3
  have d4 := B1.out.cell 4
  have d5 := B1.out.cell 5
  have y0 := B1.out.free 0
  have y1 := B1.out.free 1
  have y2 := B1.out.free 2
  have y3 := B1.out.free 3
  have y4 := B1.out.free 4
  have y5 := B1.out.free 5
  have AX := Lib.hid (Adds.drew w1)
  go_enter Tryz.func34, Tryz.ntmps34
  go_wp2
  refine wp_calmC ?_
  go_region_with (first
    | (go_at_call 48; refine (HP.out _ (Adds.trans A1.out (by exact AX.out))).mono ?_; clear HP; rintro e w3 ⟨fv', rfl, ho, a3⟩; have HS1 := Lib.hid (Nat.le_trans A1.out.size AX.out.size); have HO1 := Lib.hid ho; have AZ := Lib.hid a3; have AX := Lib.hid (Adds.trans AX.out a3); obtain ⟨aof', cf', ef, _, _⟩ := ho.form12; simp only [HNF.out] at ef; subst ef; obtain ⟨c0, c1, c2, c3, c4, c5⟩ := KC.out _ AX.out; have D := B1.out.adds AX.out; have d0 := D.cell 0; have d1 := D.cell 1; have d2 := D.cell 2; have d3 := D.cell 3; have d4 := D.cell 4; have d5 := D.cell 5; have y0 := D.free 0; have y1 := D.free 1; have y2 := D.free 2; have y3 := D.free 3; have y4 := D.free 4; have y5 := D.free 5; clear ho a3 D)
    | (go_at_call 50; refine (HQ.out _ (Adds.trans A1.out (by exact AX.out))).mono ?_; clear HQ; rintro e w4 ⟨lv', C, rfl, ho, hm, a4⟩; have HS2 := Lib.hid (Nat.le_trans A1.out.size AX.out.size); have HO2 := Lib.hid ho; have HM2 := Lib.hid hm; have AY := Lib.hid a4; have AX := Lib.hid (Adds.trans AX.out a4); obtain ⟨aol', cl', el, _, _⟩ := ho.form; rw [show C.length = nl by rw [← HNL.out]; have := congrArg List.length hm; simpa using this] at el; subst el; obtain ⟨c0, c1, c2, c3, c4, c5⟩ := KC.out _ AX.out; have D := B1.out.adds AX.out; have d0 := D.cell 0; have d1 := D.cell 1; have d2 := D.cell 2; have d3 := D.cell 3; have d4 := D.cell 4; have d5 := D.cell 5; have y0 := D.free 0; have y1 := D.free 1; have y2 := D.free 2; have y3 := D.free 3; have y4 := D.free 4; have y5 := D.free 5; clear ho hm a4 D))
  all_goals
    simp only [Exit.then]
    go_simp
    go_wp2
    have hD := B1.out.adds AX.out
    have hE := (((((hD.set 0 (.slice aof' nf cf')).set 1 (.int .i64 x1)).set 2 (.int .i64 x2)).set 3 (.int .i64 x3)).set 4 (.slice aol' nl cl')).set 5 (.int .u32 (u : Int))
    have hT := fun W => (((((TnS.setCell w.heap.size 0 W (.slice aof' nf cf')).trans (TnS.setCell w.heap.size 1 _ (.int .i64 x1))).trans (TnS.setCell w.heap.size 2 _ (.int .i64 x2))).trans (TnS.setCell w.heap.size 3 _ (.int .i64 x3))).trans (TnS.setCell w.heap.size 4 _ (.slice aol' nl cl'))).trans (TnS.setCell w.heap.size 5 _ (.int .u32 (u : Int)))
    (try simp only [Exit.inBlock, Exit.then])
    refine bodyPost_ret (res_box1 rfl _ _ _ _ _ _ _ rfl hE Tryz.underlying70 rfl (by kernel_rfl)) rfl ?_
    refine ⟨_, _, C, rfl, ?_, ?_, by rw [HM2.out, HRL.out], ?_⟩
    · first
        | exact ((HO1.out.adds AY.out).lower12 HS1.out).blk hD (by decide) (by decide) (hT _)
        | exact (HO1.out.lower12 HS1.out).blk hD (by decide) (by decide) (hT _)
    · first
        | exact ((HO2.out.adds AZ.out).lower HS2.out).blk hD (by decide) (by decide) (hT _)
        | exact (HO2.out.lower HS2.out).blk hD (by decide) (by decide) (hT _)
    · exact TnS.own (Adds.trans A1.out AX.out) (Nat.le_refl _) (hT _)
end
end Go.Proofs.YtdkgehhlikaocaaGreat
