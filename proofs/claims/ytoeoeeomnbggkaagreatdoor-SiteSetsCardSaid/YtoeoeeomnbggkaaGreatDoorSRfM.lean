/- Merged: SRf, SRh. -/
import Derived.Deep.RegionLaw
import Derived.Test.YtoeoeeomnbggkaaGreatDoorSR1
import Derived.Test.YtoeoeeomnbggkaaGreatDoorSNM
import Derived.Test.YtoeoeeomnbggkaaGreatDoorSEq
import Derived.BigQuiet
import Derived.Shelf.SlSortCmp.QuietGrown
namespace Go.Proofs.YtoeoeeomnbggkaaGreatDoor
open Go Go.RowKit Go.Shelf Go.Sort

set_option maxRecDepth 100000 in
set_option maxHeartbeats 1000000 in
theorem refOrder_any (a b c d : Int) (w : World) : Calls Tryz.prog 22 #[.agg #[.int .i64 a, .int .i64 b], .agg #[.int .i64 c, .int .i64 d]] w fun e w' => e = .returned (.int .i64 (ordS (a, b) (c, d))) ∧ Gr w w' := by
  have hq := site_eql a b c d
  by_cases h1 : a = c
  · subst h1
    by_cases h2 : b = d
    · subst h2
      rw [show eqS (a, b) (a, b) = true from eqS_iff.2 rfl] at hq
      rw [show ordS _ _ = 0 by simp [ordS, ordI]]
      go_enter Tryz.func22, Tryz.ntmps22
      go_wp2
      go_ret
      exact ⟨rfl, (Gr.new _ _).alloc _⟩
    · rw [show eqS (a, b) (a, d) = false by rw [Bool.eq_false_iff]; intro e; have := eqS_iff.1 e; simp at this; exact h2 this] at hq
      by_cases h3 : b < d
      · rw [show ordS _ _ = -1 by simp [ordS, ordI, h3]]
        go_enter Tryz.func22, Tryz.ntmps22
        go_wp2
        go_ret
        exact ⟨rfl, (Gr.new _ _).alloc _⟩
      · rw [show ordS _ _ = 1 by simp [ordS, ordI, h3, show d < b by omega]]
        go_enter Tryz.func22, Tryz.ntmps22
        go_wp2
        go_ret
        exact ⟨rfl, (Gr.new _ _).alloc _⟩
  · rw [show eqS (a, b) (c, d) = false by rw [Bool.eq_false_iff]; intro e; have := eqS_iff.1 e; simp at this; exact h1 this.1] at hq
    by_cases h3 : a < c
    · rw [show ordS _ _ = -1 by simp [ordS, ordI, h3]]
      go_enter Tryz.func22, Tryz.ntmps22
      go_wp2
      go_ret
      exact ⟨rfl, (Gr.new _ _).alloc _⟩
    · rw [show ordS _ _ = 1 by simp [ordS, ordI, h3, show c < a by omega]]
      go_enter Tryz.func22, Tryz.ntmps22
      go_wp2
      go_ret
      exact ⟨rfl, (Gr.new _ _).alloc _⟩
theorem ref7_in (f p : Int) (W : World) : Calls Tryz.prog 21 #[.agg #[.int .i64 f, .int .i64 p]] W fun e w' => e = .returned (.bool (rightS (f, p))) ∧ Gr W w' := refRight_any (f, p) W
set_option maxRecDepth 100000 in
set_option maxHeartbeats 2000000 in
theorem refPair_any (x : Pr) (w : World) : Calls Tryz.prog 8 #[prV x] w fun e w' => e = .returned (.bool (mayP x)) ∧ Gr w w' := by
  obtain ⟨⟨a, b⟩, ⟨c, d⟩⟩ := x
  have H1 := Lib.hid (ref7_in a b)
  have H2 := Lib.hid (ref7_in c d)
  have HO := Lib.hid (refOrder_any a b c d)
  have hm : mayP ((a, b), (c, d)) = (rightS (a, b) && rightS (c, d) && decide (ordS (a, b) (c, d) ≤ 0)) := by first | rfl | (unfold mayP; simp)
  rw [hm]
  clear hm
  obtain ⟨z, hz⟩ : ∃ z, ordS (a, b) (c, d) = z := ⟨_, rfl⟩
  rw [hz] at HO ⊢
  clear hz
  have bk := BkS.new 32 w [.int .i64 a, .int .i64 b, .int .i64 c, .int .i64 d]
  obtain ⟨wb, hwb⟩ : ∃ wb, w.alloc (.cells #[.int .i64 a, .int .i64 b, .int .i64 c, .int .i64 d] 32) = wb := ⟨_, rfl⟩
  have HG := Lib.hid (show Gr w wb by rw [← hwb]; exact Gr.new _ _)
  have HB := Lib.hid (show BkS 32 wb w.heap.size [.int .i64 a, .int .i64 b, .int .i64 c, .int .i64 d] by rw [← hwb]; exact bk)
  have c0 : wb.cell? ⟨w.heap.size, 0, none⟩ = some (.int .i64 a) := HB.out.cell 0
  have c1 : wb.cell? ⟨w.heap.size, 1, none⟩ = some (.int .i64 b) := HB.out.cell 1
  clear bk
  cases hr1 : rightS (a, b)
  · rw [hr1] at H1
    go_enter Tryz.func8, Tryz.ntmps8
    go_wp2_with (go_at_call 21; refine (H1.out _).mono ?_; rintro e w2 ⟨rfl, h2⟩; have G2 := Lib.hid h2; clear h2)
    go_ret
    exact ⟨rfl, HG.out.trans G2.out⟩
  · rw [hr1] at H1
    cases hr2 : rightS (c, d)
    · rw [hr2] at H2
      go_enter Tryz.func8, Tryz.ntmps8
      go_wp2_with (first
        | (go_at_call 21; refine (H1.out wb).mono ?_; rintro e w2 ⟨rfl, h2⟩; have b2 := HB.out.adds h2.adds; have e2 : w2.cell? ⟨w.heap.size, 2, none⟩ = some (.int .i64 c) := b2.cell 2; have e3 : w2.cell? ⟨w.heap.size, 3, none⟩ = some (.int .i64 d) := b2.cell 3; have G2 := Lib.hid h2; clear h2 b2 H1)
        | (go_at_call 21; refine (H2.out _).mono ?_; rintro e w3 ⟨rfl, h3⟩; have G3 := Lib.hid (G2.out.trans h3); clear h3))
      go_ret
      exact ⟨rfl, HG.out.trans G3.out⟩
    · rw [hr2] at H2
      go_enter Tryz.func8, Tryz.ntmps8
      go_wp2_with (first
        | (go_at_call 21; refine (H1.out wb).mono ?_; rintro e w2 ⟨rfl, h2⟩; have b2 := HB.out.adds h2.adds; have e2 : w2.cell? ⟨w.heap.size, 2, none⟩ = some (.int .i64 c) := b2.cell 2; have e3 : w2.cell? ⟨w.heap.size, 3, none⟩ = some (.int .i64 d) := b2.cell 3; have HB2 := Lib.hid b2; have G2 := Lib.hid h2; clear h2 b2 H1 c0 c1)
        | (go_at_call 21; refine (H2.out _).mono ?_; rintro e w3 ⟨rfl, h3⟩; have b3 := HB2.out.adds h3.adds; have f0 : w3.cell? ⟨w.heap.size, 0, none⟩ = some (.int .i64 a) := b3.cell 0; have f1 : w3.cell? ⟨w.heap.size, 1, none⟩ = some (.int .i64 b) := b3.cell 1; have f2 : w3.cell? ⟨w.heap.size, 2, none⟩ = some (.int .i64 c) := b3.cell 2; have f3 : w3.cell? ⟨w.heap.size, 3, none⟩ = some (.int .i64 d) := b3.cell 3; have G3 := Lib.hid (G2.out.trans h3); clear h3 b3 e2 e3)
        | (go_at_call 22; refine (HO.out _).mono ?_; rintro e w4 ⟨rfl, h4⟩; have G4 := Lib.hid (G3.out.trans h4); clear h4))
      go_ret
      exact ⟨rfl, HG.out.trans G4.out⟩
end Go.Proofs.YtoeoeeomnbggkaaGreatDoor
namespace Go.Proofs.YtoeoeeomnbggkaaGreatDoor
open Go Go.RowKit Go.Shelf Go.Sort

set_option maxRecDepth 100000 in
set_option maxHeartbeats 4000000 in
theorem refHas_any {n : Nat} (v : Value) (l : List Pr) (x : Pr) (hl : l.length ≤ 1048576) (w : World) (hnw : n ≤ w.heap.size) (hP : PairsW n w v l) :
    Calls Tryz.prog 6 #[v, prV x] w fun e w' => e = .returned (.bool (decide (x ∈ l))) ∧ Gr w w' := by
  have hmx : Tryz.prog.follows .mixedOrders = true := by kernel_rfl
  have HL := Lib.hid (fun (W : World) (h : Adds w W) => hP.below (h.mono hnw))
  have HN := Lib.hid hl
  obtain ⟨ao, cap, rfl, hp1, hp2, hp3⟩ := hP
  clear hp1 hp2 hp3
  obtain ⟨⟨x1, x2⟩, ⟨x3, x4⟩⟩ := x
  clear hl
  go_enter Tryz.func6, Tryz.ntmps6
  go_wp2_with fail
  obtain ⟨wb, hwb⟩ : ∃ wb, w.alloc (.cells #[.int .i64 x1, .int .i64 x2, .int .i64 x3, .int .i64 x4] 32) = wb := ⟨_, rfl⟩
  have HG := Lib.hid (show Gr w wb by rw [← hwb]; exact Gr.new _ _)
  have HB := Lib.hid (show BkS 32 wb w.heap.size [.int .i64 x1, .int .i64 x2, .int .i64 x3, .int .i64 x4] by rw [← hwb]; exact BkS.new _ _ _)
  first | rw [hwb] | skip
  clear hwb
  go_loopw [5] (fun i wr => ∃ k : Nat, i = .int .i64 k ∧ k ≤ l.length ∧ Gr wb wr ∧ ∀ j, j < k → atP l j ≠ ((x1, x2), (x3, x4))) (fun i _ => l.length + 1 - (intOf i).toNat)
  case atStart => exact ⟨0, rfl, Nat.zero_le _, Gr.refl _, fun j h => by omega⟩
  case round =>
    obtain ⟨k, rfl, hk, hg, hno⟩ := hrel
    have HGr := Lib.hid hg; have HNo := Lib.hid hno; have HK := Lib.hid hk
    clear hg hno hk
    by_cases hlt : k < l.length
    · obtain ⟨ao', cap', e, hq1, hq2, h3⟩ := HL.out wr (HG.out.trans HGr.out).adds
      simp only [Value.slice.injEq, true_and] at e
      obtain ⟨rfl, rfl⟩ := e
      obtain ⟨g, off, rfl, hq3, hc⟩ := h3 (by rintro rfl; simp at hlt)
      obtain ⟨k0, k1, k2, k3⟩ := hc k hlt
      obtain ⟨⟨⟨y1, y2⟩, ⟨y3, y4⟩⟩, hye⟩ : ∃ y, atP l k = y := ⟨_, rfl⟩
      rw [hye] at k0 k1 k2 k3
      try simp only at k0 k1 k2 k3
      have b2 := HB.out.adds HGr.out.adds
      have g0 := grc k0; have g1 := grc k1; have g2 := grc k2; have g3 := grc k3
      have d0 := grc (show wr.cell? ⟨w.heap.size, 0, none⟩ = some (.int .i64 x1) from b2.cell 0)
      have d1 := grc (show wr.cell? ⟨w.heap.size, 1, none⟩ = some (.int .i64 x2) from b2.cell 1)
      have d2 := grc (show wr.cell? ⟨w.heap.size, 2, none⟩ = some (.int .i64 x3) from b2.cell 2)
      have d3 := grc (show wr.cell? ⟨w.heap.size, 3, none⟩ = some (.int .i64 x4) from b2.cell 3)
      have hq := pair_eql y1 y2 y3 y4 x1 x2 x3 x4
      have hltI : (k : Int) < (l.length : Int) := by omega
      have hcapI : (l.length : Int) ≤ 1048576 := by have := HN.out; omega
      have HLt := Lib.hid hlt
      have HY := Lib.hid hye
      clear hq1 hq2 hq3 h3 hc b2 hlt k0 k1 k2 k3 hye
      by_cases he : ((y1, y2), (y3, y4)) = ((x1, x2), (x3, x4))
      · rw [show eqP ((y1, y2), (y3, y4)) ((x1, x2), (x3, x4)) = true from eqP_iff.2 he] at hq
        have hin := Lib.hid (show ((x1, x2), (x3, x4)) ∈ l by rw [← he, ← HY.out]; exact atP_mem HLt.out)
        clear he
        go_wp2_with fail
        go_quiet_grown (fail)
        have HW6 := Lib.hid (HG.out.trans (HGr.out.trans (Gr.grown wr nq osq)))
        simp only [Exit.then]
        go_simp
        go_wp2_with fail
        go_ret
        exact ⟨by rw [decide_eq_true hin.out]; rfl, HW6.out⟩
      · rw [show eqP ((y1, y2), (y3, y4)) ((x1, x2), (x3, x4)) = false by rw [Bool.eq_false_iff]; intro e; exact he (eqP_iff.1 e)] at hq
        have HE := Lib.hid he
        clear he
        go_wp2_with fail
        go_quiet_grown (fail)
        have HW6 := Lib.hid (HGr.out.trans (Gr.grown wr nq osq))
        simp only [Exit.then]
        go_simp
        go_wp2_with fail
        go_roundw
        case rel => exact ⟨k + 1, by go_num, HLt.out, HW6.out, fun j hj => by
          by_cases e : j = k
          · subst e; rw [HY.out]; exact HE.out
          · exact HNo.out j (by omega)⟩
        case measure => simp [intOf]; have := HLt.out; omega
    · obtain rfl : k = l.length := by have := HK.out; omega
      go_wp2_with fail
      go_ret
      refine ⟨?_, HG.out.trans HGr.out⟩
      rw [decide_eq_false (show ¬ ((x1, x2), (x3, x4)) ∈ l from fun hm => by
        obtain ⟨j, hj, he⟩ := List.mem_iff_getElem.1 hm
        exact HNo.out j hj (by unfold atP; simp [hj, he]))]
      rfl
end Go.Proofs.YtoeoeeomnbggkaaGreatDoor
