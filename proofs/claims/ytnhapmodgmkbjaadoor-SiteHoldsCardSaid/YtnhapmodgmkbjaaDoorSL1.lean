/- The law SiteHolds, walked. -/
import Derived.Test.YtnhapmodgmkbjaaDoorTurn
import Derived.Test.YtnhapmodgmkbjaaDoorSW
namespace Go.Proofs.YtnhapmodgmkbjaaDoor
open Go Go.RowKit Go.Shelf Go.Sort

def HoldF (a1 a2 b1 b2 c1 c2 : Int) (k0 : Nat) (aa : Act) : Prop := ∃ f : Nat → Value, aa = { tmps := #[siV (a1, a2), siV (b1, b2), siV (c1, c2), Value.pointer (some { block := k0, off := 0 }), Value.pointer (some { block := k0 + 1, off := 0 }), Value.pointer (some { block := k0 + 1 + 1, off := 0 }), Value.bool false, f 7, f 8, f 9, f 10, f 11, f 12, f 13, f 14, f 15, f 16, f 17, f 18, f 19, f 20, f 21, f 22, f 23, f 24, f 25, f 26, f 27, f 28, f 29, f 30, f 31, f 32, f 33, f 34, f 35, f 36, f 37, f 38, f 39, f 40, f 41, f 42, f 43, f 44, f 45, Value.bool false, f 47, f 48, f 49, f 50, f 51, f 52, f 53, f 54, f 55, f 56, f 57, f 58, f 59, f 60, f 61, f 62, f 63, f 64, f 65, f 66, f 67, f 68, f 69, f 70, f 71, f 72, f 73, f 74, f 75, f 76, f 77, f 78, f 79, f 80, f 81, f 82, f 83, f 84, f 85, f 86, f 87, f 88, f 89, f 90, f 91, f 92, f 93, f 94, f 95, f 96, f 97, f 98, f 99, f 100, f 101, f 102, f 103, f 104, f 105, f 106, f 107, f 108, f 109, f 110, f 111, f 112, f 113, f 114, f 115, f 116, f 117, f 118, f 119, f 120], defers := [] }
set_option maxRecDepth 100000 in
theorem HoldF.mk (a1 a2 b1 b2 c1 c2 : Int) (k0 : Nat) {aa : Act} (hs : aa.tmps.size = 121) (hd : aa.defers = []) (h0 : aa.tmps[0]? = some (siV (a1, a2))) (h1 : aa.tmps[1]? = some (siV (b1, b2))) (h2 : aa.tmps[2]? = some (siV (c1, c2))) (h3 : aa.tmps[3]? = some (Value.pointer (some { block := k0, off := 0 }))) (h4 : aa.tmps[4]? = some (Value.pointer (some { block := k0 + 1, off := 0 }))) (h5 : aa.tmps[5]? = some (Value.pointer (some { block := k0 + 1 + 1, off := 0 }))) (h6 : aa.tmps[6]? = some (Value.bool false)) (h46 : aa.tmps[46]? = some (Value.bool false)) : HoldF a1 a2 b1 b2 c1 c2 k0 aa := by
  rcases aa with ⟨tmps, ds⟩
  simp only at hd
  subst hd
  obtain ⟨f, rfl⟩ := arr_fun tmps 121 hs
  have e0 : f 0 = siV (a1, a2) := Option.some.inj h0; have e1 : f 1 = siV (b1, b2) := Option.some.inj h1; have e2 : f 2 = siV (c1, c2) := Option.some.inj h2; have e3 : f 3 = Value.pointer (some { block := k0, off := 0 }) := Option.some.inj h3; have e4 : f 4 = Value.pointer (some { block := k0 + 1, off := 0 }) := Option.some.inj h4; have e5 : f 5 = Value.pointer (some { block := k0 + 1 + 1, off := 0 }) := Option.some.inj h5; have e6 : f 6 = Value.bool false := Option.some.inj h6; have e46 : f 46 = Value.bool false := Option.some.inj h46
  refine ⟨f, ?_⟩
  show ({ tmps := #[f 0, f 1, f 2, f 3, f 4, f 5, f 6, f 7, f 8, f 9, f 10, f 11, f 12, f 13, f 14, f 15, f 16, f 17, f 18, f 19, f 20, f 21, f 22, f 23, f 24, f 25, f 26, f 27, f 28, f 29, f 30, f 31, f 32, f 33, f 34, f 35, f 36, f 37, f 38, f 39, f 40, f 41, f 42, f 43, f 44, f 45, f 46, f 47, f 48, f 49, f 50, f 51, f 52, f 53, f 54, f 55, f 56, f 57, f 58, f 59, f 60, f 61, f 62, f 63, f 64, f 65, f 66, f 67, f 68, f 69, f 70, f 71, f 72, f 73, f 74, f 75, f 76, f 77, f 78, f 79, f 80, f 81, f 82, f 83, f 84, f 85, f 86, f 87, f 88, f 89, f 90, f 91, f 92, f 93, f 94, f 95, f 96, f 97, f 98, f 99, f 100, f 101, f 102, f 103, f 104, f 105, f 106, f 107, f 108, f 109, f 110, f 111, f 112, f 113, f 114, f 115, f 116, f 117, f 118, f 119, f 120], defers := [] } : Act) = _
  simp only [e0, e1, e2, e3, e4, e5, e6, e46]

theorem ofV_swap (a b : Si) : ofV b a = ofV a b := by
  unfold ofV
  rw [ofP_swap b a, Bool.and_comm]
theorem num_gr (x : Int) (W : World) : Calls Tryd.prog 10 #[.int .i64 x] W fun e w' => e = .returned (.int .i64 x) ∧ Gr W w' := (num_site x W).mono fun _ _ ⟨h1, h2⟩ => ⟨h1, h2 ▸ Gr.refl W⟩
set_option maxRecDepth 100000 in
set_option maxHeartbeats 4000000 in
theorem law_holds7 (a b c : Si) (w : World) (hv : SVars w) : Calls Tryd.prog 5 #[siV a, siV b, siV c] w (TrueAdds w) := by
  have hmx : Tryd.prog.follows .mixedOrders = true := by kernel_rfl
  have HV := Lib.hid hv; clear hv
  have HNg := Lib.hid (ordS_neg a b)
  have HEq := Lib.hid (show ordS a b = 0 ↔ eqS a b = true by rw [ordS_eq, eqS_iff])
  have HTr := Lib.hid (fun h1 h2 => ordS_trans (a := a) (b := b) (c := c) h1 h2)
  have HSw := Lib.hid (ofV_swap a b)
  obtain ⟨a1, a2⟩ := a
  obtain ⟨b1, b2⟩ := b
  obtain ⟨c1, c2⟩ := c
  go_enter Tryd.func5, Tryd.ntmps5
  go_wp2_with fail
  obtain ⟨k0, hk0⟩ : ∃ k0, w.heap.size = k0 := ⟨_, rfl⟩
  have hBs : ∀ w1, ((w.alloc (.cells #[.int .i64 a1, .int .i64 a2] 23)).alloc (.cells #[.int .i64 b1, .int .i64 b2] 23)).alloc (.cells #[.int .i64 c1, .int .i64 c2] 23) = w1 →
      BkS 23 w1 k0 [.int .i64 a1, .int .i64 a2] ∧ BkS 23 w1 (k0 + 1) [.int .i64 b1, .int .i64 b2] ∧ BkS 23 w1 (k0 + 1 + 1) [.int .i64 c1, .int .i64 c2] ∧ Gr w w1 := by
    rintro w1 rfl
    refine ⟨?_, ?_, ?_, ((Gr.new w _).alloc _).alloc _⟩
    · rw [← hk0]; exact ((BkS.new _ w _).adds (Gr.new _ _).adds).adds (Gr.new _ _).adds
    · have := BkS.new 23 (w.alloc (.cells #[.int .i64 a1, .int .i64 a2] 23)) [.int .i64 b1, .int .i64 b2]
      rw [World.size_alloc, hk0] at this
      exact this.adds (Gr.new _ _).adds
    · have := BkS.new 23 ((w.alloc (.cells #[.int .i64 a1, .int .i64 a2] 23)).alloc (.cells #[.int .i64 b1, .int .i64 b2] 23)) [.int .i64 c1, .int .i64 c2]
      rw [World.size_alloc, World.size_alloc, hk0] at this
      exact this
  obtain ⟨w1, hw1⟩ : ∃ w1, ((w.alloc (.cells #[.int .i64 a1, .int .i64 a2] 23)).alloc (.cells #[.int .i64 b1, .int .i64 b2] 23)).alloc (.cells #[.int .i64 c1, .int .i64 c2] 23) = w1 := ⟨_, rfl⟩
  obtain ⟨ba, bb, bc, hg⟩ := hBs w1 hw1
  rw [hw1, hk0]
  have BA := Lib.hid ba; have BB := Lib.hid bb; have BC := Lib.hid bc; have HG := Lib.hid hg
  clear hw1 hk0 hBs ba bb bc hg
  refine Code.wp_mono (Q := fun e A W => e = .normal ∧ HoldF a1 a2 b1 b2 c1 c2 k0 A ∧ Gr w1 W) ?_ ?_
  case refine_2 =>
    have g0 := grc (show w1.cell? ⟨k0, 0, none⟩ = some (.int .i64 a1) from BA.out.cell 0)
    have g1 := grc (show w1.cell? ⟨k0, 1, none⟩ = some (.int .i64 a2) from BA.out.cell 1)
    have g2 := grc (show w1.cell? ⟨k0 + 1, 0, none⟩ = some (.int .i64 b1) from BB.out.cell 0)
    have g3 := grc (show w1.cell? ⟨k0 + 1, 1, none⟩ = some (.int .i64 b2) from BB.out.cell 1)
    have g4 := grc (show w1.cell? ⟨k0 + 1 + 1, 0, none⟩ = some (.int .i64 c1) from BC.out.cell 0)
    have g5 := grc (show w1.cell? ⟨k0 + 1 + 1, 1, none⟩ = some (.int .i64 c2) from BC.out.cell 1)
    have hq := site_eql
    have hwa : IntKind.i64.wrap (-1) = -1 := rfl
    have hwb : IntKind.i64.wrap 0 = 0 := rfl
    have hwc : IntKind.i64.wrap 1 = 1 := rfl
    obtain ⟨z2, hz2⟩ : ∃ z2, ordS (b1, b2) (c1, c2) = z2 := ⟨_, rfl⟩
    obtain ⟨z3, hz3⟩ : ∃ z3, ordS (a1, a2) (c1, c2) = z3 := ⟨_, rfl⟩
    have hng := HNg.out
    have heq := HEq.out
    have htr := HTr.out
    rw [hz2, hz3] at htr
    rcases ordS_cases (a1, a2) (b1, b2) with hx | hx | hx
    · rw [hx] at hng heq htr
      have hy : ordS (b1, b2) (a1, a2) = 1 := hng.trans (by decide)
      have he : eqS (a1, a2) (b1, b2) = false := by rw [Bool.eq_false_iff]; intro h; have := heq.2 h; omega
      by_cases h2 : z2 ≤ 0
      · have h3 : z3 ≤ 0 := htr (by omega) h2
        clear htr hng heq
        go_quiet_grown ((go_at_call 18; exact Calls.gr (ord_at _ _ _ _)))
        exact ⟨rfl, HoldF.mk a1 a2 b1 b2 c1 c2 k0 rfl rfl rfl rfl rfl rfl rfl rfl rfl (congrArg (fun x => some (Value.bool x)) (decide_eq_false (by omega))), Gr.grown w1 nq osq⟩
      · clear htr hng heq
        go_quiet_grown ((go_at_call 18; exact Calls.gr (ord_at _ _ _ _)))
        exact ⟨rfl, HoldF.mk a1 a2 b1 b2 c1 c2 k0 rfl rfl rfl rfl rfl rfl rfl rfl rfl rfl, Gr.grown w1 nq osq⟩
    · rw [hx] at hng heq htr
      have hy : ordS (b1, b2) (a1, a2) = 0 := hng.trans (by decide)
      have he : eqS (a1, a2) (b1, b2) = true := by exact heq.1 rfl
      by_cases h2 : z2 ≤ 0
      · have h3 : z3 ≤ 0 := htr (by omega) h2
        clear htr hng heq
        go_quiet_grown ((go_at_call 18; exact Calls.gr (ord_at _ _ _ _)))
        exact ⟨rfl, HoldF.mk a1 a2 b1 b2 c1 c2 k0 rfl rfl rfl rfl rfl rfl rfl rfl rfl (congrArg (fun x => some (Value.bool x)) (decide_eq_false (by omega))), Gr.grown w1 nq osq⟩
      · clear htr hng heq
        go_quiet_grown ((go_at_call 18; exact Calls.gr (ord_at _ _ _ _)))
        exact ⟨rfl, HoldF.mk a1 a2 b1 b2 c1 c2 k0 rfl rfl rfl rfl rfl rfl rfl rfl rfl rfl, Gr.grown w1 nq osq⟩
    · rw [hx] at hng heq htr
      have hy : ordS (b1, b2) (a1, a2) = -1 := hng.trans (by decide)
      have he : eqS (a1, a2) (b1, b2) = false := by rw [Bool.eq_false_iff]; intro h; have := heq.2 h; omega
      clear htr hng heq
      go_quiet_grown ((go_at_call 18; exact Calls.gr (ord_at _ _ _ _)))
      exact ⟨rfl, HoldF.mk a1 a2 b1 b2 c1 c2 k0 rfl rfl rfl rfl rfl rfl rfl rfl rfl rfl, Gr.grown w1 nq osq⟩
  · rintro e A W ⟨rfl, ⟨f, rfl⟩, hg⟩
    have HW := Lib.hid (HG.out.trans hg)
    have PA := Lib.hid (BA.out.adds hg.adds); have PB := Lib.hid (BB.out.adds hg.adds)
    clear hg BA BB BC HG HTr HEq HNg
    simp only [Exit.then]
    have m0 : W.cell? ⟨k0, 0, none⟩ = some (.int .i64 a1) := PA.out.cell 0
    have m1 : W.cell? ⟨k0, 1, none⟩ = some (.int .i64 a2) := PA.out.cell 1
    have m2 : W.cell? ⟨k0 + 1, 0, none⟩ = some (.int .i64 b1) := PB.out.cell 0
    have m3 : W.cell? ⟨k0 + 1, 1, none⟩ = some (.int .i64 b2) := PB.out.cell 1
    have hn := num_site
    cases ha : rightS (a1, a2) <;> cases hb : rightS (b1, b2)
    · have HCA := Lib.hid (show chkE (a1, a2) = 2 by unfold chkE; rw [ha]; rfl)
      have HCB := Lib.hid (show chkE (b1, b2) = 2 by unfold chkE; rw [hb]; rfl)
      have hov : ofV (a1, a2) (b1, b2) = .tuple #[prV ((0, 0), (0, 0)), .int .i64 2] := by unfold ofV; rw [ha, hb]; rfl
      have HO1 := Lib.hid (fun W => hov ▸ of_any (a1, a2) (b1, b2) W)
      have HO2 := Lib.hid (fun W => (HSw.out.trans hov) ▸ of_any (b1, b2) (a1, a2) W)
      clear hov ha hb
      have hq := pair_neq 0 0 0 0 0 0 0 0
      rw [show eqP ((0, 0), (0, 0)) ((0, 0), (0, 0)) = true from eqP_iff.2 rfl] at hq
      have HQ := Lib.hid hq
      clear hq
      go_wp2_with (first
        | (go_at_call 19; refine (HO1.out _).mono ?_; rintro e w3 ⟨rfl, h3⟩; have m0 : w3.cell? ⟨k0, 0, none⟩ = some (.int .i64 a1) := (PA.out.adds h3).cell 0; have m1 : w3.cell? ⟨k0, 1, none⟩ = some (.int .i64 a2) := (PA.out.adds h3).cell 1; have m2 : w3.cell? ⟨k0 + 1, 0, none⟩ = some (.int .i64 b1) := (PB.out.adds h3).cell 0; have m3 : w3.cell? ⟨k0 + 1, 1, none⟩ = some (.int .i64 b2) := (PB.out.adds h3).cell 1; have hlt := (PB.out.adds h3).lt; have hlt0 := (PA.out.adds h3).lt; have QA := Lib.hid (PA.out.adds h3); have QB := Lib.hid (PB.out.adds h3); have H3 := Lib.hid (Adds.trans HW.out.adds h3); clear h3 HO1)
        | (go_at_call 19; refine (HO2.out _).mono ?_; rintro e w5 ⟨rfl, h5⟩; have B7 := Lib.hid (show BkS 46 w5 w3.heap.size [.int .i64 0, .int .i64 0, .int .i64 0, .int .i64 0] from (BkS.new _ _ _).adds h5); have RA := Lib.hid ((QA.out.adds (Gr.new w3 _).adds).adds h5); have RB := Lib.hid ((QB.out.adds (Gr.new w3 _).adds).adds h5); have H5 := Lib.hid (Adds.trans H3.out (Adds.trans (Gr.new w3 _).adds h5)); clear h5 m0 m1 m2 m3 hlt hlt0))
      obtain ⟨k7, hk7⟩ : ∃ k7, w3.heap.size = k7 := ⟨_, rfl⟩
      obtain ⟨k9, hk9⟩ : ∃ k9, w5.heap.size = k9 := ⟨_, rfl⟩
      obtain ⟨w6, hw6⟩ : ∃ w6, w5.alloc (.cells #[.int .i64 0, .int .i64 0, .int .i64 0, .int .i64 0] 46) = w6 := ⟨_, rfl⟩
      have G6 := Lib.hid (show Gr w5 w6 by rw [← hw6]; exact Gr.new _ _)
      have B9 := Lib.hid (show BkS 46 w6 k9 [.int .i64 0, .int .i64 0, .int .i64 0, .int .i64 0] by rw [← hw6, ← hk9]; exact BkS.new _ _ _)
      have C7 := Lib.hid (show BkS 46 w6 k7 [.int .i64 0, .int .i64 0, .int .i64 0, .int .i64 0] by have := B7.out.adds G6.out.adds; rwa [hk7] at this)
      have SA := Lib.hid (RA.out.adds G6.out.adds)
      have SB := Lib.hid (RB.out.adds G6.out.adds)
      have H6 := Lib.hid (Adds.trans H5.out G6.out.adds)
      rw [hw6, hk7, hk9]
      clear hw6 hk7 hk9
      have g0 := grc (show w6.cell? ⟨k7, 0, none⟩ = some (.int .i64 0) from C7.out.cell 0)
      have l0 := grc (show w6.cell? ⟨k9, 0, none⟩ = some (.int .i64 0) from B9.out.cell 0)
      have g1 := grc (show w6.cell? ⟨k7, 1, none⟩ = some (.int .i64 0) from C7.out.cell 1)
      have l1 := grc (show w6.cell? ⟨k9, 1, none⟩ = some (.int .i64 0) from B9.out.cell 1)
      have g2 := grc (show w6.cell? ⟨k7, 2, none⟩ = some (.int .i64 0) from C7.out.cell 2)
      have l2 := grc (show w6.cell? ⟨k9, 2, none⟩ = some (.int .i64 0) from B9.out.cell 2)
      have g3 := grc (show w6.cell? ⟨k7, 3, none⟩ = some (.int .i64 0) from C7.out.cell 3)
      have l3 := grc (show w6.cell? ⟨k9, 3, none⟩ = some (.int .i64 0) from B9.out.cell 3)
      have r0 := grc (show w6.cell? ⟨k0, 0, none⟩ = some (.int .i64 a1) from SA.out.cell 0)
      have r1 := grc (show w6.cell? ⟨k0, 1, none⟩ = some (.int .i64 a2) from SA.out.cell 1)
      have r2 := grc (show w6.cell? ⟨k0 + 1, 0, none⟩ = some (.int .i64 b1) from SB.out.cell 0)
      have r3 := grc (show w6.cell? ⟨k0 + 1, 1, none⟩ = some (.int .i64 b2) from SB.out.cell 1)
      have hq := HQ.out
      have hca := HCA.out
      have hcb := HCB.out
      go_quiet_grown (first | (go_at_call 10; exact Calls.gr (num_gr _)) | (go_at_call 12; exact Calls.gr (chk_at _ _)))
      obtain ⟨w7, hw7⟩ : ∃ w7, grow (w6.drewN nq) osq = w7 := ⟨_, rfl⟩
      have G7 := Lib.hid (show Gr w6 w7 by rw [← hw7]; exact Gr.grown w6 nq osq)
      clear g0 g1 g2 g3 l0 l1 l2 l3 r0 r1 r2 r3 hq hca hcb
      have g0 : w7.cell? ⟨k7, 0, none⟩ = some (.int .i64 0) := (C7.out.adds G7.out.adds).cell 0
      have g1 : w7.cell? ⟨k7, 1, none⟩ = some (.int .i64 0) := (C7.out.adds G7.out.adds).cell 1
      have g2 : w7.cell? ⟨k7, 2, none⟩ = some (.int .i64 0) := (C7.out.adds G7.out.adds).cell 2
      have g3 : w7.cell? ⟨k7, 3, none⟩ = some (.int .i64 0) := (C7.out.adds G7.out.adds).cell 3
      have r0 : w7.cell? ⟨k0, 0, none⟩ = some (.int .i64 a1) := (SA.out.adds G7.out.adds).cell 0
      have r1 : w7.cell? ⟨k0, 1, none⟩ = some (.int .i64 a2) := (SA.out.adds G7.out.adds).cell 1
      have r2 : w7.cell? ⟨k0 + 1, 0, none⟩ = some (.int .i64 b1) := (SB.out.adds G7.out.adds).cell 0
      have r3 : w7.cell? ⟨k0 + 1, 1, none⟩ = some (.int .i64 b2) := (SB.out.adds G7.out.adds).cell 1
      have H7 := Lib.hid (Adds.trans H6.out G7.out.adds)
      have D7 := Lib.hid (C7.out.adds G7.out.adds); have TA := Lib.hid (SA.out.adds G7.out.adds); have TB := Lib.hid (SB.out.adds G7.out.adds)
      simp only []
      rw [hw7]
      clear hw7
      go_wp2_with (first
        | (go_at_call 10; refine (hn _ _).mono ?_; rintro e w10 ⟨rfl, rfl⟩)
        | (go_at_call 6; refine (works_any _ (HV.out.below H7.out)).mono ?_; rintro e w11 ⟨rfl, h11⟩; have H11 := Lib.hid (Adds.trans H7.out h11); clear h11))
      go_ret
      exact ⟨rfl, H11.out⟩
    · have HCA := Lib.hid (show chkE (a1, a2) = 2 by unfold chkE; rw [ha]; rfl)
      have HCB := Lib.hid (show chkE (b1, b2) = 0 by unfold chkE; rw [hb]; rfl)
      have hov : ofV (a1, a2) (b1, b2) = .tuple #[prV ((0, 0), (0, 0)), .int .i64 2] := by unfold ofV; rw [ha, hb]; rfl
      have HO1 := Lib.hid (fun W => hov ▸ of_any (a1, a2) (b1, b2) W)
      have HO2 := Lib.hid (fun W => (HSw.out.trans hov) ▸ of_any (b1, b2) (a1, a2) W)
      clear hov ha hb
      have hq := pair_neq 0 0 0 0 0 0 0 0
      rw [show eqP ((0, 0), (0, 0)) ((0, 0), (0, 0)) = true from eqP_iff.2 rfl] at hq
      have HQ := Lib.hid hq
      clear hq
      go_wp2_with (first
        | (go_at_call 19; refine (HO1.out _).mono ?_; rintro e w3 ⟨rfl, h3⟩; have m0 : w3.cell? ⟨k0, 0, none⟩ = some (.int .i64 a1) := (PA.out.adds h3).cell 0; have m1 : w3.cell? ⟨k0, 1, none⟩ = some (.int .i64 a2) := (PA.out.adds h3).cell 1; have m2 : w3.cell? ⟨k0 + 1, 0, none⟩ = some (.int .i64 b1) := (PB.out.adds h3).cell 0; have m3 : w3.cell? ⟨k0 + 1, 1, none⟩ = some (.int .i64 b2) := (PB.out.adds h3).cell 1; have hlt := (PB.out.adds h3).lt; have hlt0 := (PA.out.adds h3).lt; have QA := Lib.hid (PA.out.adds h3); have QB := Lib.hid (PB.out.adds h3); have H3 := Lib.hid (Adds.trans HW.out.adds h3); clear h3 HO1)
        | (go_at_call 19; refine (HO2.out _).mono ?_; rintro e w5 ⟨rfl, h5⟩; have B7 := Lib.hid (show BkS 46 w5 w3.heap.size [.int .i64 0, .int .i64 0, .int .i64 0, .int .i64 0] from (BkS.new _ _ _).adds h5); have RA := Lib.hid ((QA.out.adds (Gr.new w3 _).adds).adds h5); have RB := Lib.hid ((QB.out.adds (Gr.new w3 _).adds).adds h5); have H5 := Lib.hid (Adds.trans H3.out (Adds.trans (Gr.new w3 _).adds h5)); clear h5 m0 m1 m2 m3 hlt hlt0))
      obtain ⟨k7, hk7⟩ : ∃ k7, w3.heap.size = k7 := ⟨_, rfl⟩
      obtain ⟨k9, hk9⟩ : ∃ k9, w5.heap.size = k9 := ⟨_, rfl⟩
      obtain ⟨w6, hw6⟩ : ∃ w6, w5.alloc (.cells #[.int .i64 0, .int .i64 0, .int .i64 0, .int .i64 0] 46) = w6 := ⟨_, rfl⟩
      have G6 := Lib.hid (show Gr w5 w6 by rw [← hw6]; exact Gr.new _ _)
      have B9 := Lib.hid (show BkS 46 w6 k9 [.int .i64 0, .int .i64 0, .int .i64 0, .int .i64 0] by rw [← hw6, ← hk9]; exact BkS.new _ _ _)
      have C7 := Lib.hid (show BkS 46 w6 k7 [.int .i64 0, .int .i64 0, .int .i64 0, .int .i64 0] by have := B7.out.adds G6.out.adds; rwa [hk7] at this)
      have SA := Lib.hid (RA.out.adds G6.out.adds)
      have SB := Lib.hid (RB.out.adds G6.out.adds)
      have H6 := Lib.hid (Adds.trans H5.out G6.out.adds)
      rw [hw6, hk7, hk9]
      clear hw6 hk7 hk9
      have g0 := grc (show w6.cell? ⟨k7, 0, none⟩ = some (.int .i64 0) from C7.out.cell 0)
      have l0 := grc (show w6.cell? ⟨k9, 0, none⟩ = some (.int .i64 0) from B9.out.cell 0)
      have g1 := grc (show w6.cell? ⟨k7, 1, none⟩ = some (.int .i64 0) from C7.out.cell 1)
      have l1 := grc (show w6.cell? ⟨k9, 1, none⟩ = some (.int .i64 0) from B9.out.cell 1)
      have g2 := grc (show w6.cell? ⟨k7, 2, none⟩ = some (.int .i64 0) from C7.out.cell 2)
      have l2 := grc (show w6.cell? ⟨k9, 2, none⟩ = some (.int .i64 0) from B9.out.cell 2)
      have g3 := grc (show w6.cell? ⟨k7, 3, none⟩ = some (.int .i64 0) from C7.out.cell 3)
      have l3 := grc (show w6.cell? ⟨k9, 3, none⟩ = some (.int .i64 0) from B9.out.cell 3)
      have r0 := grc (show w6.cell? ⟨k0, 0, none⟩ = some (.int .i64 a1) from SA.out.cell 0)
      have r1 := grc (show w6.cell? ⟨k0, 1, none⟩ = some (.int .i64 a2) from SA.out.cell 1)
      have r2 := grc (show w6.cell? ⟨k0 + 1, 0, none⟩ = some (.int .i64 b1) from SB.out.cell 0)
      have r3 := grc (show w6.cell? ⟨k0 + 1, 1, none⟩ = some (.int .i64 b2) from SB.out.cell 1)
      have hq := HQ.out
      have hca := HCA.out
      have hcb := HCB.out
      go_quiet_grown (first | (go_at_call 10; exact Calls.gr (num_gr _)) | (go_at_call 12; exact Calls.gr (chk_at _ _)))
      obtain ⟨w7, hw7⟩ : ∃ w7, grow (w6.drewN nq) osq = w7 := ⟨_, rfl⟩
      have G7 := Lib.hid (show Gr w6 w7 by rw [← hw7]; exact Gr.grown w6 nq osq)
      clear g0 g1 g2 g3 l0 l1 l2 l3 r0 r1 r2 r3 hq hca hcb
      have g0 : w7.cell? ⟨k7, 0, none⟩ = some (.int .i64 0) := (C7.out.adds G7.out.adds).cell 0
      have g1 : w7.cell? ⟨k7, 1, none⟩ = some (.int .i64 0) := (C7.out.adds G7.out.adds).cell 1
      have g2 : w7.cell? ⟨k7, 2, none⟩ = some (.int .i64 0) := (C7.out.adds G7.out.adds).cell 2
      have g3 : w7.cell? ⟨k7, 3, none⟩ = some (.int .i64 0) := (C7.out.adds G7.out.adds).cell 3
      have r0 : w7.cell? ⟨k0, 0, none⟩ = some (.int .i64 a1) := (SA.out.adds G7.out.adds).cell 0
      have r1 : w7.cell? ⟨k0, 1, none⟩ = some (.int .i64 a2) := (SA.out.adds G7.out.adds).cell 1
      have r2 : w7.cell? ⟨k0 + 1, 0, none⟩ = some (.int .i64 b1) := (SB.out.adds G7.out.adds).cell 0
      have r3 : w7.cell? ⟨k0 + 1, 1, none⟩ = some (.int .i64 b2) := (SB.out.adds G7.out.adds).cell 1
      have H7 := Lib.hid (Adds.trans H6.out G7.out.adds)
      have D7 := Lib.hid (C7.out.adds G7.out.adds); have TA := Lib.hid (SA.out.adds G7.out.adds); have TB := Lib.hid (SB.out.adds G7.out.adds)
      simp only []
      rw [hw7]
      clear hw7
      go_wp2_with (first
        | (go_at_call 10; refine (hn _ _).mono ?_; rintro e w10 ⟨rfl, rfl⟩)
        | (go_at_call 6; refine (works_any _ (HV.out.below H7.out)).mono ?_; rintro e w11 ⟨rfl, h11⟩; have H11 := Lib.hid (Adds.trans H7.out h11); clear h11))
      go_ret
      exact ⟨rfl, H11.out⟩
    · have HCA := Lib.hid (show chkE (a1, a2) = 0 by unfold chkE; rw [ha]; rfl)
      have HCB := Lib.hid (show chkE (b1, b2) = 2 by unfold chkE; rw [hb]; rfl)
      have hov : ofV (a1, a2) (b1, b2) = .tuple #[prV ((0, 0), (0, 0)), .int .i64 2] := by unfold ofV; rw [ha, hb]; rfl
      have HO1 := Lib.hid (fun W => hov ▸ of_any (a1, a2) (b1, b2) W)
      have HO2 := Lib.hid (fun W => (HSw.out.trans hov) ▸ of_any (b1, b2) (a1, a2) W)
      clear hov ha hb
      have hq := pair_neq 0 0 0 0 0 0 0 0
      rw [show eqP ((0, 0), (0, 0)) ((0, 0), (0, 0)) = true from eqP_iff.2 rfl] at hq
      have HQ := Lib.hid hq
      clear hq
      go_wp2_with (first
        | (go_at_call 19; refine (HO1.out _).mono ?_; rintro e w3 ⟨rfl, h3⟩; have m0 : w3.cell? ⟨k0, 0, none⟩ = some (.int .i64 a1) := (PA.out.adds h3).cell 0; have m1 : w3.cell? ⟨k0, 1, none⟩ = some (.int .i64 a2) := (PA.out.adds h3).cell 1; have m2 : w3.cell? ⟨k0 + 1, 0, none⟩ = some (.int .i64 b1) := (PB.out.adds h3).cell 0; have m3 : w3.cell? ⟨k0 + 1, 1, none⟩ = some (.int .i64 b2) := (PB.out.adds h3).cell 1; have hlt := (PB.out.adds h3).lt; have hlt0 := (PA.out.adds h3).lt; have QA := Lib.hid (PA.out.adds h3); have QB := Lib.hid (PB.out.adds h3); have H3 := Lib.hid (Adds.trans HW.out.adds h3); clear h3 HO1)
        | (go_at_call 19; refine (HO2.out _).mono ?_; rintro e w5 ⟨rfl, h5⟩; have B7 := Lib.hid (show BkS 46 w5 w3.heap.size [.int .i64 0, .int .i64 0, .int .i64 0, .int .i64 0] from (BkS.new _ _ _).adds h5); have RA := Lib.hid ((QA.out.adds (Gr.new w3 _).adds).adds h5); have RB := Lib.hid ((QB.out.adds (Gr.new w3 _).adds).adds h5); have H5 := Lib.hid (Adds.trans H3.out (Adds.trans (Gr.new w3 _).adds h5)); clear h5 m0 m1 m2 m3 hlt hlt0))
      obtain ⟨k7, hk7⟩ : ∃ k7, w3.heap.size = k7 := ⟨_, rfl⟩
      obtain ⟨k9, hk9⟩ : ∃ k9, w5.heap.size = k9 := ⟨_, rfl⟩
      obtain ⟨w6, hw6⟩ : ∃ w6, w5.alloc (.cells #[.int .i64 0, .int .i64 0, .int .i64 0, .int .i64 0] 46) = w6 := ⟨_, rfl⟩
      have G6 := Lib.hid (show Gr w5 w6 by rw [← hw6]; exact Gr.new _ _)
      have B9 := Lib.hid (show BkS 46 w6 k9 [.int .i64 0, .int .i64 0, .int .i64 0, .int .i64 0] by rw [← hw6, ← hk9]; exact BkS.new _ _ _)
      have C7 := Lib.hid (show BkS 46 w6 k7 [.int .i64 0, .int .i64 0, .int .i64 0, .int .i64 0] by have := B7.out.adds G6.out.adds; rwa [hk7] at this)
      have SA := Lib.hid (RA.out.adds G6.out.adds)
      have SB := Lib.hid (RB.out.adds G6.out.adds)
      have H6 := Lib.hid (Adds.trans H5.out G6.out.adds)
      rw [hw6, hk7, hk9]
      clear hw6 hk7 hk9
      have g0 := grc (show w6.cell? ⟨k7, 0, none⟩ = some (.int .i64 0) from C7.out.cell 0)
      have l0 := grc (show w6.cell? ⟨k9, 0, none⟩ = some (.int .i64 0) from B9.out.cell 0)
      have g1 := grc (show w6.cell? ⟨k7, 1, none⟩ = some (.int .i64 0) from C7.out.cell 1)
      have l1 := grc (show w6.cell? ⟨k9, 1, none⟩ = some (.int .i64 0) from B9.out.cell 1)
      have g2 := grc (show w6.cell? ⟨k7, 2, none⟩ = some (.int .i64 0) from C7.out.cell 2)
      have l2 := grc (show w6.cell? ⟨k9, 2, none⟩ = some (.int .i64 0) from B9.out.cell 2)
      have g3 := grc (show w6.cell? ⟨k7, 3, none⟩ = some (.int .i64 0) from C7.out.cell 3)
      have l3 := grc (show w6.cell? ⟨k9, 3, none⟩ = some (.int .i64 0) from B9.out.cell 3)
      have r0 := grc (show w6.cell? ⟨k0, 0, none⟩ = some (.int .i64 a1) from SA.out.cell 0)
      have r1 := grc (show w6.cell? ⟨k0, 1, none⟩ = some (.int .i64 a2) from SA.out.cell 1)
      have r2 := grc (show w6.cell? ⟨k0 + 1, 0, none⟩ = some (.int .i64 b1) from SB.out.cell 0)
      have r3 := grc (show w6.cell? ⟨k0 + 1, 1, none⟩ = some (.int .i64 b2) from SB.out.cell 1)
      have hq := HQ.out
      have hca := HCA.out
      have hcb := HCB.out
      go_quiet_grown (first | (go_at_call 10; exact Calls.gr (num_gr _)) | (go_at_call 12; exact Calls.gr (chk_at _ _)))
      obtain ⟨w7, hw7⟩ : ∃ w7, grow (w6.drewN nq) osq = w7 := ⟨_, rfl⟩
      have G7 := Lib.hid (show Gr w6 w7 by rw [← hw7]; exact Gr.grown w6 nq osq)
      clear g0 g1 g2 g3 l0 l1 l2 l3 r0 r1 r2 r3 hq hca hcb
      have g0 : w7.cell? ⟨k7, 0, none⟩ = some (.int .i64 0) := (C7.out.adds G7.out.adds).cell 0
      have g1 : w7.cell? ⟨k7, 1, none⟩ = some (.int .i64 0) := (C7.out.adds G7.out.adds).cell 1
      have g2 : w7.cell? ⟨k7, 2, none⟩ = some (.int .i64 0) := (C7.out.adds G7.out.adds).cell 2
      have g3 : w7.cell? ⟨k7, 3, none⟩ = some (.int .i64 0) := (C7.out.adds G7.out.adds).cell 3
      have r0 : w7.cell? ⟨k0, 0, none⟩ = some (.int .i64 a1) := (SA.out.adds G7.out.adds).cell 0
      have r1 : w7.cell? ⟨k0, 1, none⟩ = some (.int .i64 a2) := (SA.out.adds G7.out.adds).cell 1
      have r2 : w7.cell? ⟨k0 + 1, 0, none⟩ = some (.int .i64 b1) := (SB.out.adds G7.out.adds).cell 0
      have r3 : w7.cell? ⟨k0 + 1, 1, none⟩ = some (.int .i64 b2) := (SB.out.adds G7.out.adds).cell 1
      have H7 := Lib.hid (Adds.trans H6.out G7.out.adds)
      have D7 := Lib.hid (C7.out.adds G7.out.adds); have TA := Lib.hid (SA.out.adds G7.out.adds); have TB := Lib.hid (SB.out.adds G7.out.adds)
      simp only []
      rw [hw7]
      clear hw7
      go_wp2_with (first
        | (go_at_call 10; refine (hn _ _).mono ?_; rintro e w10 ⟨rfl, rfl⟩)
        | (go_at_call 6; refine (works_any _ (HV.out.below H7.out)).mono ?_; rintro e w11 ⟨rfl, h11⟩; have H11 := Lib.hid (Adds.trans H7.out h11); clear h11))
      go_ret
      exact ⟨rfl, H11.out⟩
    · have HCA := Lib.hid (show chkE (a1, a2) = 0 by unfold chkE; rw [ha]; rfl)
      have HCB := Lib.hid (show chkE (b1, b2) = 0 by unfold chkE; rw [hb]; rfl)
      by_cases hs : 0 < ordS (a1, a2) (b1, b2)
      · have hov : ofV (a1, a2) (b1, b2) = .tuple #[prV ((b1, b2), (a1, a2)), .int .i64 0] := by unfold ofV ofP; rw [ha, hb, if_pos hs]; rfl
        have HO1 := Lib.hid (fun W => hov ▸ of_any (a1, a2) (b1, b2) W)
        have HO2 := Lib.hid (fun W => (HSw.out.trans hov) ▸ of_any (b1, b2) (a1, a2) W)
        have E1 : eqS (b1, b2) (a1, a2) = false := by rw [Bool.eq_false_iff]; intro h; rw [eqS_iff.1 h, ordS_eq.2 rfl] at hs; omega
        obtain ⟨z, hz⟩ : ∃ z, ordS (b1, b2) (a1, a2) = z := ⟨_, rfl⟩
        have hz0 : z ≤ 0 := by rw [← hz, ordS_neg (a1, a2) (b1, b2)]; omega
        have HOr := Lib.hid (ord_at b1 b2 a1 a2)
        rw [hz] at HOr
        clear hov ha hb hs hz
        have hq := pair_neq b1 b2 a1 a2 b1 b2 a1 a2
        rw [show eqP ((b1, b2), (a1, a2)) ((b1, b2), (a1, a2)) = true from eqP_iff.2 rfl] at hq
        have HQ := Lib.hid hq
        clear hq
        go_wp2_with (first
          | (go_at_call 19; refine (HO1.out _).mono ?_; rintro e w3 ⟨rfl, h3⟩; have m0 : w3.cell? ⟨k0, 0, none⟩ = some (.int .i64 a1) := (PA.out.adds h3).cell 0; have m1 : w3.cell? ⟨k0, 1, none⟩ = some (.int .i64 a2) := (PA.out.adds h3).cell 1; have m2 : w3.cell? ⟨k0 + 1, 0, none⟩ = some (.int .i64 b1) := (PB.out.adds h3).cell 0; have m3 : w3.cell? ⟨k0 + 1, 1, none⟩ = some (.int .i64 b2) := (PB.out.adds h3).cell 1; have hlt := (PB.out.adds h3).lt; have hlt0 := (PA.out.adds h3).lt; have QA := Lib.hid (PA.out.adds h3); have QB := Lib.hid (PB.out.adds h3); have H3 := Lib.hid (Adds.trans HW.out.adds h3); clear h3 HO1)
          | (go_at_call 19; refine (HO2.out _).mono ?_; rintro e w5 ⟨rfl, h5⟩; have B7 := Lib.hid (show BkS 46 w5 w3.heap.size [.int .i64 b1, .int .i64 b2, .int .i64 a1, .int .i64 a2] from (BkS.new _ _ _).adds h5); have RA := Lib.hid ((QA.out.adds (Gr.new w3 _).adds).adds h5); have RB := Lib.hid ((QB.out.adds (Gr.new w3 _).adds).adds h5); have H5 := Lib.hid (Adds.trans H3.out (Adds.trans (Gr.new w3 _).adds h5)); clear h5 m0 m1 m2 m3 hlt hlt0))
        obtain ⟨k7, hk7⟩ : ∃ k7, w3.heap.size = k7 := ⟨_, rfl⟩
        obtain ⟨k9, hk9⟩ : ∃ k9, w5.heap.size = k9 := ⟨_, rfl⟩
        obtain ⟨w6, hw6⟩ : ∃ w6, w5.alloc (.cells #[.int .i64 b1, .int .i64 b2, .int .i64 a1, .int .i64 a2] 46) = w6 := ⟨_, rfl⟩
        have G6 := Lib.hid (show Gr w5 w6 by rw [← hw6]; exact Gr.new _ _)
        have B9 := Lib.hid (show BkS 46 w6 k9 [.int .i64 b1, .int .i64 b2, .int .i64 a1, .int .i64 a2] by rw [← hw6, ← hk9]; exact BkS.new _ _ _)
        have C7 := Lib.hid (show BkS 46 w6 k7 [.int .i64 b1, .int .i64 b2, .int .i64 a1, .int .i64 a2] by have := B7.out.adds G6.out.adds; rwa [hk7] at this)
        have SA := Lib.hid (RA.out.adds G6.out.adds)
        have SB := Lib.hid (RB.out.adds G6.out.adds)
        have H6 := Lib.hid (Adds.trans H5.out G6.out.adds)
        rw [hw6, hk7, hk9]
        clear hw6 hk7 hk9
        have g0 := grc (show w6.cell? ⟨k7, 0, none⟩ = some (.int .i64 b1) from C7.out.cell 0)
        have l0 := grc (show w6.cell? ⟨k9, 0, none⟩ = some (.int .i64 b1) from B9.out.cell 0)
        have g1 := grc (show w6.cell? ⟨k7, 1, none⟩ = some (.int .i64 b2) from C7.out.cell 1)
        have l1 := grc (show w6.cell? ⟨k9, 1, none⟩ = some (.int .i64 b2) from B9.out.cell 1)
        have g2 := grc (show w6.cell? ⟨k7, 2, none⟩ = some (.int .i64 a1) from C7.out.cell 2)
        have l2 := grc (show w6.cell? ⟨k9, 2, none⟩ = some (.int .i64 a1) from B9.out.cell 2)
        have g3 := grc (show w6.cell? ⟨k7, 3, none⟩ = some (.int .i64 a2) from C7.out.cell 3)
        have l3 := grc (show w6.cell? ⟨k9, 3, none⟩ = some (.int .i64 a2) from B9.out.cell 3)
        have r0 := grc (show w6.cell? ⟨k0, 0, none⟩ = some (.int .i64 a1) from SA.out.cell 0)
        have r1 := grc (show w6.cell? ⟨k0, 1, none⟩ = some (.int .i64 a2) from SA.out.cell 1)
        have r2 := grc (show w6.cell? ⟨k0 + 1, 0, none⟩ = some (.int .i64 b1) from SB.out.cell 0)
        have r3 := grc (show w6.cell? ⟨k0 + 1, 1, none⟩ = some (.int .i64 b2) from SB.out.cell 1)
        have hq := HQ.out
        have hca := HCA.out
        have hcb := HCB.out
        go_quiet_grown (first | (go_at_call 10; exact Calls.gr (num_gr _)) | (go_at_call 12; exact Calls.gr (chk_at _ _)))
        obtain ⟨w7, hw7⟩ : ∃ w7, grow (w6.drewN nq) osq = w7 := ⟨_, rfl⟩
        have G7 := Lib.hid (show Gr w6 w7 by rw [← hw7]; exact Gr.grown w6 nq osq)
        clear g0 g1 g2 g3 l0 l1 l2 l3 r0 r1 r2 r3 hq hca hcb
        have g0 : w7.cell? ⟨k7, 0, none⟩ = some (.int .i64 b1) := (C7.out.adds G7.out.adds).cell 0
        have g1 : w7.cell? ⟨k7, 1, none⟩ = some (.int .i64 b2) := (C7.out.adds G7.out.adds).cell 1
        have g2 : w7.cell? ⟨k7, 2, none⟩ = some (.int .i64 a1) := (C7.out.adds G7.out.adds).cell 2
        have g3 : w7.cell? ⟨k7, 3, none⟩ = some (.int .i64 a2) := (C7.out.adds G7.out.adds).cell 3
        have r0 : w7.cell? ⟨k0, 0, none⟩ = some (.int .i64 a1) := (SA.out.adds G7.out.adds).cell 0
        have r1 : w7.cell? ⟨k0, 1, none⟩ = some (.int .i64 a2) := (SA.out.adds G7.out.adds).cell 1
        have r2 : w7.cell? ⟨k0 + 1, 0, none⟩ = some (.int .i64 b1) := (SB.out.adds G7.out.adds).cell 0
        have r3 : w7.cell? ⟨k0 + 1, 1, none⟩ = some (.int .i64 b2) := (SB.out.adds G7.out.adds).cell 1
        have H7 := Lib.hid (Adds.trans H6.out G7.out.adds)
        have D7 := Lib.hid (C7.out.adds G7.out.adds); have TA := Lib.hid (SA.out.adds G7.out.adds); have TB := Lib.hid (SB.out.adds G7.out.adds)
        simp only []
        rw [hw7]
        clear hw7
        have q1 := site_eql b1 b2 a1 a2
        rw [E1] at q1
        have q2 := site_eql a1 a2 b1 b2
        try rw [show eqS (b1, b2) (b1, b2) = true from eqS_iff.2 rfl] at q2
        have q3 := site_eql b1 b2 b1 b2
        try rw [show eqS (b1, b2) (b1, b2) = true from eqS_iff.2 rfl] at q3
        have q4 := site_eql a1 a2 a1 a2
        try rw [show eqS (a1, a2) (a1, a2) = true from eqS_iff.2 rfl] at q4
        go_wp2_with (first
          | (go_at_call 10; refine (hn _ _).mono ?_; rintro e w10 ⟨rfl, rfl⟩)
          | (go_at_call 18; refine (HOr.out _).mono ?_; rintro e w8 ⟨rfl, h8⟩; have g0 : w8.cell? ⟨k7, 0, none⟩ = some (.int .i64 b1) := (D7.out.adds h8.adds).cell 0; have g1 : w8.cell? ⟨k7, 1, none⟩ = some (.int .i64 b2) := (D7.out.adds h8.adds).cell 1; have g2 : w8.cell? ⟨k7, 2, none⟩ = some (.int .i64 a1) := (D7.out.adds h8.adds).cell 2; have g3 : w8.cell? ⟨k7, 3, none⟩ = some (.int .i64 a2) := (D7.out.adds h8.adds).cell 3; have r0 : w8.cell? ⟨k0, 0, none⟩ = some (.int .i64 a1) := (TA.out.adds h8.adds).cell 0; have r1 : w8.cell? ⟨k0, 1, none⟩ = some (.int .i64 a2) := (TA.out.adds h8.adds).cell 1; have r2 : w8.cell? ⟨k0 + 1, 0, none⟩ = some (.int .i64 b1) := (TB.out.adds h8.adds).cell 0; have r3 : w8.cell? ⟨k0 + 1, 1, none⟩ = some (.int .i64 b2) := (TB.out.adds h8.adds).cell 1; have H8 := Lib.hid (Adds.trans H7.out h8.adds); clear h8)
          | (go_at_call 6; refine (works_any _ (HV.out.below H8.out)).mono ?_; rintro e w11 ⟨rfl, h11⟩; have H11 := Lib.hid (Adds.trans H8.out h11); clear h11))
        go_ret
        exact ⟨rfl, H11.out⟩
      · have hov : ofV (a1, a2) (b1, b2) = .tuple #[prV ((a1, a2), (b1, b2)), .int .i64 0] := by unfold ofV ofP; rw [ha, hb, if_neg hs]; rfl
        have HO1 := Lib.hid (fun W => hov ▸ of_any (a1, a2) (b1, b2) W)
        have HO2 := Lib.hid (fun W => (HSw.out.trans hov) ▸ of_any (b1, b2) (a1, a2) W)
        have E1 : eqS (a1, a2) (a1, a2) = true := eqS_iff.2 rfl
        obtain ⟨z, hz⟩ : ∃ z, ordS (a1, a2) (b1, b2) = z := ⟨_, rfl⟩
        have hz0 : z ≤ 0 := by rw [← hz]; omega
        have HOr := Lib.hid (ord_at a1 a2 b1 b2)
        rw [hz] at HOr
        clear hov ha hb hs hz
        have hq := pair_neq a1 a2 b1 b2 a1 a2 b1 b2
        rw [show eqP ((a1, a2), (b1, b2)) ((a1, a2), (b1, b2)) = true from eqP_iff.2 rfl] at hq
        have HQ := Lib.hid hq
        clear hq
        go_wp2_with (first
          | (go_at_call 19; refine (HO1.out _).mono ?_; rintro e w3 ⟨rfl, h3⟩; have m0 : w3.cell? ⟨k0, 0, none⟩ = some (.int .i64 a1) := (PA.out.adds h3).cell 0; have m1 : w3.cell? ⟨k0, 1, none⟩ = some (.int .i64 a2) := (PA.out.adds h3).cell 1; have m2 : w3.cell? ⟨k0 + 1, 0, none⟩ = some (.int .i64 b1) := (PB.out.adds h3).cell 0; have m3 : w3.cell? ⟨k0 + 1, 1, none⟩ = some (.int .i64 b2) := (PB.out.adds h3).cell 1; have hlt := (PB.out.adds h3).lt; have hlt0 := (PA.out.adds h3).lt; have QA := Lib.hid (PA.out.adds h3); have QB := Lib.hid (PB.out.adds h3); have H3 := Lib.hid (Adds.trans HW.out.adds h3); clear h3 HO1)
          | (go_at_call 19; refine (HO2.out _).mono ?_; rintro e w5 ⟨rfl, h5⟩; have B7 := Lib.hid (show BkS 46 w5 w3.heap.size [.int .i64 a1, .int .i64 a2, .int .i64 b1, .int .i64 b2] from (BkS.new _ _ _).adds h5); have RA := Lib.hid ((QA.out.adds (Gr.new w3 _).adds).adds h5); have RB := Lib.hid ((QB.out.adds (Gr.new w3 _).adds).adds h5); have H5 := Lib.hid (Adds.trans H3.out (Adds.trans (Gr.new w3 _).adds h5)); clear h5 m0 m1 m2 m3 hlt hlt0))
        obtain ⟨k7, hk7⟩ : ∃ k7, w3.heap.size = k7 := ⟨_, rfl⟩
        obtain ⟨k9, hk9⟩ : ∃ k9, w5.heap.size = k9 := ⟨_, rfl⟩
        obtain ⟨w6, hw6⟩ : ∃ w6, w5.alloc (.cells #[.int .i64 a1, .int .i64 a2, .int .i64 b1, .int .i64 b2] 46) = w6 := ⟨_, rfl⟩
        have G6 := Lib.hid (show Gr w5 w6 by rw [← hw6]; exact Gr.new _ _)
        have B9 := Lib.hid (show BkS 46 w6 k9 [.int .i64 a1, .int .i64 a2, .int .i64 b1, .int .i64 b2] by rw [← hw6, ← hk9]; exact BkS.new _ _ _)
        have C7 := Lib.hid (show BkS 46 w6 k7 [.int .i64 a1, .int .i64 a2, .int .i64 b1, .int .i64 b2] by have := B7.out.adds G6.out.adds; rwa [hk7] at this)
        have SA := Lib.hid (RA.out.adds G6.out.adds)
        have SB := Lib.hid (RB.out.adds G6.out.adds)
        have H6 := Lib.hid (Adds.trans H5.out G6.out.adds)
        rw [hw6, hk7, hk9]
        clear hw6 hk7 hk9
        have g0 := grc (show w6.cell? ⟨k7, 0, none⟩ = some (.int .i64 a1) from C7.out.cell 0)
        have l0 := grc (show w6.cell? ⟨k9, 0, none⟩ = some (.int .i64 a1) from B9.out.cell 0)
        have g1 := grc (show w6.cell? ⟨k7, 1, none⟩ = some (.int .i64 a2) from C7.out.cell 1)
        have l1 := grc (show w6.cell? ⟨k9, 1, none⟩ = some (.int .i64 a2) from B9.out.cell 1)
        have g2 := grc (show w6.cell? ⟨k7, 2, none⟩ = some (.int .i64 b1) from C7.out.cell 2)
        have l2 := grc (show w6.cell? ⟨k9, 2, none⟩ = some (.int .i64 b1) from B9.out.cell 2)
        have g3 := grc (show w6.cell? ⟨k7, 3, none⟩ = some (.int .i64 b2) from C7.out.cell 3)
        have l3 := grc (show w6.cell? ⟨k9, 3, none⟩ = some (.int .i64 b2) from B9.out.cell 3)
        have r0 := grc (show w6.cell? ⟨k0, 0, none⟩ = some (.int .i64 a1) from SA.out.cell 0)
        have r1 := grc (show w6.cell? ⟨k0, 1, none⟩ = some (.int .i64 a2) from SA.out.cell 1)
        have r2 := grc (show w6.cell? ⟨k0 + 1, 0, none⟩ = some (.int .i64 b1) from SB.out.cell 0)
        have r3 := grc (show w6.cell? ⟨k0 + 1, 1, none⟩ = some (.int .i64 b2) from SB.out.cell 1)
        have hq := HQ.out
        have hca := HCA.out
        have hcb := HCB.out
        go_quiet_grown (first | (go_at_call 10; exact Calls.gr (num_gr _)) | (go_at_call 12; exact Calls.gr (chk_at _ _)))
        obtain ⟨w7, hw7⟩ : ∃ w7, grow (w6.drewN nq) osq = w7 := ⟨_, rfl⟩
        have G7 := Lib.hid (show Gr w6 w7 by rw [← hw7]; exact Gr.grown w6 nq osq)
        clear g0 g1 g2 g3 l0 l1 l2 l3 r0 r1 r2 r3 hq hca hcb
        have g0 : w7.cell? ⟨k7, 0, none⟩ = some (.int .i64 a1) := (C7.out.adds G7.out.adds).cell 0
        have g1 : w7.cell? ⟨k7, 1, none⟩ = some (.int .i64 a2) := (C7.out.adds G7.out.adds).cell 1
        have g2 : w7.cell? ⟨k7, 2, none⟩ = some (.int .i64 b1) := (C7.out.adds G7.out.adds).cell 2
        have g3 : w7.cell? ⟨k7, 3, none⟩ = some (.int .i64 b2) := (C7.out.adds G7.out.adds).cell 3
        have r0 : w7.cell? ⟨k0, 0, none⟩ = some (.int .i64 a1) := (SA.out.adds G7.out.adds).cell 0
        have r1 : w7.cell? ⟨k0, 1, none⟩ = some (.int .i64 a2) := (SA.out.adds G7.out.adds).cell 1
        have r2 : w7.cell? ⟨k0 + 1, 0, none⟩ = some (.int .i64 b1) := (SB.out.adds G7.out.adds).cell 0
        have r3 : w7.cell? ⟨k0 + 1, 1, none⟩ = some (.int .i64 b2) := (SB.out.adds G7.out.adds).cell 1
        have H7 := Lib.hid (Adds.trans H6.out G7.out.adds)
        have D7 := Lib.hid (C7.out.adds G7.out.adds); have TA := Lib.hid (SA.out.adds G7.out.adds); have TB := Lib.hid (SB.out.adds G7.out.adds)
        simp only []
        rw [hw7]
        clear hw7
        have q1 := site_eql a1 a2 a1 a2
        rw [E1] at q1
        have q2 := site_eql b1 b2 b1 b2
        try rw [show eqS (b1, b2) (b1, b2) = true from eqS_iff.2 rfl] at q2
        have q3 := site_eql a1 a2 b1 b2
        try rw [show eqS (b1, b2) (b1, b2) = true from eqS_iff.2 rfl] at q3
        have q4 := site_eql b1 b2 a1 a2
        try rw [show eqS (a1, a2) (a1, a2) = true from eqS_iff.2 rfl] at q4
        go_wp2_with (first
          | (go_at_call 10; refine (hn _ _).mono ?_; rintro e w10 ⟨rfl, rfl⟩)
          | (go_at_call 18; refine (HOr.out _).mono ?_; rintro e w8 ⟨rfl, h8⟩; have g0 : w8.cell? ⟨k7, 0, none⟩ = some (.int .i64 a1) := (D7.out.adds h8.adds).cell 0; have g1 : w8.cell? ⟨k7, 1, none⟩ = some (.int .i64 a2) := (D7.out.adds h8.adds).cell 1; have g2 : w8.cell? ⟨k7, 2, none⟩ = some (.int .i64 b1) := (D7.out.adds h8.adds).cell 2; have g3 : w8.cell? ⟨k7, 3, none⟩ = some (.int .i64 b2) := (D7.out.adds h8.adds).cell 3; have r0 : w8.cell? ⟨k0, 0, none⟩ = some (.int .i64 a1) := (TA.out.adds h8.adds).cell 0; have r1 : w8.cell? ⟨k0, 1, none⟩ = some (.int .i64 a2) := (TA.out.adds h8.adds).cell 1; have r2 : w8.cell? ⟨k0 + 1, 0, none⟩ = some (.int .i64 b1) := (TB.out.adds h8.adds).cell 0; have r3 : w8.cell? ⟨k0 + 1, 1, none⟩ = some (.int .i64 b2) := (TB.out.adds h8.adds).cell 1; have H8 := Lib.hid (Adds.trans H7.out h8.adds); clear h8)
          | (go_at_call 6; refine (works_any _ (HV.out.below H8.out)).mono ?_; rintro e w11 ⟨rfl, h11⟩; have H11 := Lib.hid (Adds.trans H8.out h11); clear h11))
        go_ret
        exact ⟨rfl, H11.out⟩
end Go.Proofs.YtnhapmodgmkbjaaDoor
