/- The document's own way to put a pair in: its contract. -/
import Derived.BigQuiet
import Derived.Shelf.SlSortCmp.QuietGrown
import Derived.Test.YtoeoeeomnbggkaaGreatDoorSRfM
import Derived.Test.YtoeoeeomnbggkaaGreatDoorSAM
import Derived.Test.YtoeoeeomnbggkaaGreatDoorTurn
namespace Go.Proofs.YtoeoeeomnbggkaaGreatDoor
open Go Go.RowKit Go.Shelf Go.Sort

theorem OwnPr.pairs {base : Nat} {w : World} {v : Value} {l : List Pr} (h : OwnPr base w v l) : PairsW w.heap.size w v l := by
  rcases h.2 with ⟨rfl, h0⟩ | ⟨g, cap, cur, rfl, hb, hg, hnc, hcm, _, ht⟩
  · rw [List.eq_nil_of_length_eq_zero h0]; exact PairsW.nil _ _
  · refine ⟨_, cap, rfl, hnc, hcm, fun _ => ⟨g, 0, rfl, (Array.getElem?_eq_some_iff.1 hg).1, fun i hi => ?_⟩⟩
    have at_ : ∀ j, j < 4 → w.cell? ⟨g, 0 + i * 4 + j, none⟩ = (prC (atP l i))[j]? := fun j hj => by
      rw [cell_of_row7 w g _ _ _ _ hg, Nat.zero_add, ← flatP_get l i j hj hi, ← ht, List.getElem?_take_of_lt (by omega)]
      simp
    exact ⟨at_ 0 (by omega), at_ 1 (by omega), at_ 2 (by omega), at_ 3 (by omega)⟩
theorem wp_frame60 {P : Program} {c : Code} {Q : Exit → Act → World → Prop} {tmps : Array Value} {ds : List Deferred} {W : World} (hs : tmps.size = 60)
    (h : ∀ f : Nat → Value, tmps = #[f 0, f 1, f 2, f 3, f 4, f 5, f 6, f 7, f 8, f 9, f 10, f 11, f 12, f 13, f 14, f 15, f 16, f 17, f 18, f 19, f 20, f 21, f 22, f 23, f 24, f 25, f 26, f 27, f 28, f 29, f 30, f 31, f 32, f 33, f 34, f 35, f 36, f 37, f 38, f 39, f 40, f 41, f 42, f 43, f 44, f 45, f 46, f 47, f 48, f 49, f 50, f 51, f 52, f 53, f 54, f 55, f 56, f 57, f 58, f 59] → c.wp P Q { tmps := #[f 0, f 1, f 2, f 3, f 4, f 5, f 6, f 7, f 8, f 9, f 10, f 11, f 12, f 13, f 14, f 15, f 16, f 17, f 18, f 19, f 20, f 21, f 22, f 23, f 24, f 25, f 26, f 27, f 28, f 29, f 30, f 31, f 32, f 33, f 34, f 35, f 36, f 37, f 38, f 39, f 40, f 41, f 42, f 43, f 44, f 45, f 46, f 47, f 48, f 49, f 50, f 51, f 52, f 53, f 54, f 55, f 56, f 57, f 58, f 59], defers := ds } W) : c.wp P Q { tmps := tmps, defers := ds } W := by
  obtain ⟨f, rfl⟩ := arr_fun tmps 60 hs
  exact h f rfl
def Reg6 (n0 : Nat) (w0 : World) (L0 L6 L7 : Bool) (A : Value) (la : List Pr) (lt : Value) (x : Pr) (b' fr : Act) (w2 : World) : Prop := b' = fr ∧ AddR n0 w0 L0 L6 L7 A la lt x w2
theorem ordP_no {x y : Pr} : ¬ ordP x y < 0 ↔ ¬ ordS x.1 y.1 < 0 ∧ (x.1 ≠ y.1 ∨ ¬ ordS x.2 y.2 < 0) := by
  rw [ordP_lt]
  by_cases h1 : ordS x.1 y.1 < 0 <;> by_cases h2 : x.1 = y.1 <;> simp [h1, h2]
set_option maxRecDepth 100000 in
set_option maxHeartbeats 8000000 in
theorem refAdd_any {n : Nat} (v : Value) (l : List Pr) (x : Pr) (hl : l.length ≤ 100000) (w : World) (hnw : n ≤ w.heap.size) (hP : PairsW n w v l) :
    Calls Tryz.prog 11 #[v, prV x] w fun e w' => ∃ u, e = .returned u ∧ PairsW w'.heap.size w' u (addP l x) ∧ Adds w w' := by
  have hmx : Tryz.prog.follows .mixedOrders = true := by kernel_rfl
  have HL := Lib.hid (fun (W : World) (h : Adds w W) => hP.below (h.mono hnw))
  have HNW := Lib.hid hnw
  have HN := Lib.hid hl
  have HH := Lib.hid (fun (W : World) (h : Adds w W) => refHas_any v l x (by omega) W (Nat.le_trans hnw h.size) (hP.below (h.mono hnw)))
  obtain ⟨ao, cap, rfl, hp1, hp2, hp3⟩ := hP
  have HCap := Lib.hid (And.intro hp1 hp2)
  clear hp1 hp2 hp3
  obtain ⟨⟨x1, x2⟩, ⟨x3, x4⟩⟩ := x
  clear hl hnw
  obtain ⟨wb, hwb⟩ : ∃ wb, w.alloc (.cells #[.int .i64 x1, .int .i64 x2, .int .i64 x3, .int .i64 x4] 32) = wb := ⟨_, rfl⟩
  have HG := Lib.hid (show Gr w wb by rw [← hwb]; exact Gr.new _ _)
  have HB := Lib.hid (show BkS 32 wb w.heap.size [.int .i64 x1, .int .i64 x2, .int .i64 x3, .int .i64 x4] by rw [← hwb]; exact BkS.new _ _ _)
  have c0 : wb.cell? ⟨w.heap.size, 0, none⟩ = some (.int .i64 x1) := HB.out.cell 0
  have c1 : wb.cell? ⟨w.heap.size, 1, none⟩ = some (.int .i64 x2) := HB.out.cell 1
  have c2 : wb.cell? ⟨w.heap.size, 2, none⟩ = some (.int .i64 x3) := HB.out.cell 2
  have c3 : wb.cell? ⟨w.heap.size, 3, none⟩ = some (.int .i64 x4) := HB.out.cell 3
  by_cases hin : ((x1, x2), (x3, x4)) ∈ l
  · rw [decide_eq_true hin] at HH
    have HI := Lib.hid hin
    clear hin
    go_enter Tryz.func11, Tryz.ntmps11
    go_wp2_with (go_at_call 6; refine (HH.out _ HG.out.adds).mono ?_; rintro e w2 ⟨rfl, h2⟩; have H2 := Lib.hid (HG.out.trans h2); clear h2)
    go_ret
    refine ⟨_, rfl, ?_, H2.out.adds⟩
    rw [addP_same HI.out]
    exact (HL.out _ H2.out.adds).mono (Nat.le_trans HNW.out H2.out.adds.size)
  · rw [decide_eq_false hin] at HH
    have HI := Lib.hid hin
    clear hin
    go_enter Tryz.func11, Tryz.ntmps11
    go_wp2_with (go_at_call 6; refine (HH.out _ HG.out.adds).mono ?_; rintro e w2 ⟨rfl, h2⟩; have H2 := Lib.hid h2; clear h2)
    clear hwb c0 c1 c2 c3
    go_loopw [5] (fun i wr => ∃ k : Nat, i = .int .i64 k ∧ k ≤ l.length ∧ Gr wb wr ∧ ∀ j, j < k → ordP (atP l j) ((x1, x2), (x3, x4)) < 0) (fun i _ => l.length + 1 - (intOf i).toNat)
    case atStart => exact ⟨0, rfl, Nat.zero_le _, H2.out, fun j h => by omega⟩
    case round =>
      obtain ⟨k, rfl, hk, hg, hno⟩ := hrel
      have HGr := Lib.hid hg; have HNo := Lib.hid hno; have HK := Lib.hid hk
      clear hg hno hk
      have hcapI : (l.length : Int) ≤ 100000 := by have := HN.out; omega
      by_cases hlt : k < l.length
      · obtain ⟨ao', cap', e, hq1, hq2, h3⟩ := HL.out wr (HG.out.trans HGr.out).adds
        simp only [Value.slice.injEq, true_and] at e
        obtain ⟨rfl, rfl⟩ := e
        obtain ⟨g, off, rfl, hq3, hc⟩ := h3 (by rintro rfl; simp at hlt)
        obtain ⟨k0, k1, k2, k3⟩ := hc k hlt
        obtain ⟨⟨⟨y1, y2⟩, ⟨y3, y4⟩⟩, hye⟩ : ∃ y, atP l k = y := ⟨_, rfl⟩
        rw [hye] at k0 k1 k2 k3
        try simp only at k0 k1 k2 k3
        have b2 := HB.out.adds HGr.out.adds
        have HK4 := Lib.hid (show At4 wr g (off + k * 4) ((y1, y2), (y3, y4)) from ⟨k0, k1, k2, k3⟩)
        have HBx := Lib.hid b2
        have HD := Lib.hid (show ∀ w', Gr wr.drew w' → (w'.cell? ⟨w.heap.size, 0, none⟩ = some (.int .i64 x1) ∧ w'.cell? ⟨w.heap.size, 1, none⟩ = some (.int .i64 x2) ∧ w'.cell? ⟨w.heap.size, 2, none⟩ = some (.int .i64 x3) ∧ w'.cell? ⟨w.heap.size, 3, none⟩ = some (.int .i64 x4)) ∧
            w'.cell? ⟨g, off + k * 4, none⟩ = some (.int .i64 y1) ∧ w'.cell? ⟨g, off + k * 4 + 1, none⟩ = some (.int .i64 y2) ∧ w'.cell? ⟨g, off + k * 4 + 2, none⟩ = some (.int .i64 y3) ∧ w'.cell? ⟨g, off + k * 4 + 3, none⟩ = some (.int .i64 y4) from fun w' h => by
          have ha := Adds.trans (Adds.drew wr) h.adds
          have p := HBx.out.adds ha
          have hg := World.block_lt_of_cell? wr _ HK4.out.1
          exact ⟨⟨p.cell 0, p.cell 1, p.cell 2, p.cell 3⟩, HK4.out.below hg ha⟩)
        have hltI : (k : Int) < (l.length : Int) := by omega
        have HLt := Lib.hid hlt
        have HY := Lib.hid hye
        have hq := site_eql y1 y2 x1 x2
        have HPn := Lib.hid (ordP_no (x := ((y1, y2), (y3, y4))) (y := ((x1, x2), (x3, x4))))
        have HPl := Lib.hid (ordP_lt (a := ((y1, y2), (y3, y4))) (b := ((x1, x2), (x3, x4))))
        obtain ⟨z1, hz1⟩ : ∃ z, ordS (y1, y2) (x1, x2) = z := ⟨_, rfl⟩
        obtain ⟨z2, hz2⟩ : ∃ z, ordS (y3, y4) (x3, x4) = z := ⟨_, rfl⟩
        have HO1 := Lib.hid (refOrder_any y1 y2 x1 x2)
        have HO2 := Lib.hid (refOrder_any y3 y4 x3 x4)
        simp only [hz1] at HPn HPl HO1
        simp only [hz2] at HPn HPl HO2
        clear hq1 hq2 hq3 h3 hc b2 hlt k0 k1 k2 k3 hye hz1 hz2
        by_cases h1 : z1 < 0
        · have HP := Lib.hid (show ordP ((y1, y2), (y3, y4)) ((x1, x2), (x3, x4)) < 0 from HPl.out.2 (.inl h1))
          have hd1 : decide (z1 < 0) = true := decide_eq_true h1
          go_wp2_with fail
          refine wp_region_loose [] (fun _ _ _ => True) Gr (by kernel_rfl) (by kernel_rfl) (by simp) Gr.refl (fun _ _ _ h k => Gr.trans h k) (fun _ _ _ _ _ _ => trivial) ?_
          repeat (refine wpL_step (fun K hK => ?_); first
            | (refine stepL_skip rfl rfl rfl ?_; go_simp; refine hK _ ?_; clear hK K)
            | (refine stepL_ex rfl rfl rfl Gr.refl (fun w' hw' => rfl) ?_; go_simp; refine hK _ ?_; clear hK K)
            | (refine stepL_ex (v := .pointer (some ⟨g, off + k * 4, none⟩)) rfl rfl rfl Gr.refl ?_ ?_; (· (intro w' hw'; clear hK; go_simp)); go_simp; refine hK _ ?_; clear hK K)
            | (refine stepL_ex (v := .pointer (some ⟨g, off + k * 4 + 2, none⟩)) rfl rfl rfl Gr.refl ?_ ?_; (· (intro w' hw'; clear hK; go_simp)); go_simp; refine hK _ ?_; clear hK K)
            | (refine stepL_ex (v := .agg #[.int .i64 x1, .int .i64 x2]) rfl rfl rfl Gr.refl ?_ ?_; (· (intro w' hw'; clear hK; have hc := HD.out w' hw'; go_simp)); go_simp; refine hK _ ?_; clear hK K)
            | (refine stepL_ex (v := .agg #[.int .i64 x3, .int .i64 x4]) rfl rfl rfl Gr.refl ?_ ?_; (· (intro w' hw'; clear hK; have hc := HD.out w' hw'; go_simp)); go_simp; refine hK _ ?_; clear hK K)
            | (refine stepL_ex (v := .agg #[.int .i64 y1, .int .i64 y2]) rfl rfl rfl Gr.refl ?_ ?_; (· (intro w' hw'; clear hK; have hc := HD.out w' hw'; go_simp)); go_simp; refine hK _ ?_; clear hK K)
            | (refine stepL_ex (v := .agg #[.int .i64 y3, .int .i64 y4]) rfl rfl rfl Gr.refl ?_ ?_; (· (intro w' hw'; clear hK; have hc := HD.out w' hw'; go_simp)); go_simp; refine hK _ ?_; clear hK K)
            | (refine stepL_ex (v := .int .i64 l.length) rfl rfl rfl Gr.refl ?_ ?_; (· (intro w' hw'; clear hK; go_simp)); go_simp; refine hK _ ?_; clear hK K)
            | (refine stepL_ex (v := .bool true) rfl rfl rfl Gr.refl ?_ ?_; (· (intro w' hw'; clear hK; go_simp)); go_simp; refine hK _ ?_; clear hK K)
            | (refine stepL_ex (v := .bool false) rfl rfl rfl Gr.refl ?_ ?_; (· (intro w' hw'; clear hK; go_simp)); go_simp; refine hK _ ?_; clear hK K)
            | (refine stepL_call (v := .int .i64 z1) (f := 22) (args := #[.agg #[.int .i64 y1, .int .i64 y2], .agg #[.int .i64 x1, .int .i64 x2]]) rfl rfl rfl ?_ (fun w' hw' => HO1.out w') ?_; (· (intro w'; clear hK; go_simp)); go_simp; refine hK _ ?_; clear hK K)
            | (refine stepL_call (v := .int .i64 z2) (f := 22) (args := #[.agg #[.int .i64 y3, .int .i64 y4], .agg #[.int .i64 x3, .int .i64 x4]]) rfl rfl rfl ?_ (fun w' hw' => HO2.out w') ?_; (· (intro w'; clear hK; go_simp)); go_simp; refine hK _ ?_; clear hK K))
          refine wpL_nil ?_
          intro w10 a10
          simp only [forL]
          have HW6 := Lib.hid (HGr.out.drew.trans a10)
          clear a10
          go_wp2_with fail
          go_roundw
          case rel => exact ⟨k + 1, by go_num, HLt.out, HW6.out, fun j hj => by
            by_cases e : j = k
            · subst e; rw [HY.out]; exact HP.out
            · exact HNo.out j (by omega)⟩
          case measure => simp [intOf]; have := HLt.out; omega
        · have hd1 : decide (z1 < 0) = false := decide_eq_false h1
          by_cases h2 : y1 = x1 ∧ y2 = x2
          · obtain ⟨h2a, h2b⟩ := h2
            rw [show eqS (y1, y2) (x1, x2) = true from eqS_iff.2 (by rw [h2a, h2b])] at hq
            have HE2 := Lib.hid (And.intro h2a h2b)
            clear h2a h2b
            by_cases h3 : z2 < 0
            · have HP := Lib.hid (show ordP ((y1, y2), (y3, y4)) ((x1, x2), (x3, x4)) < 0 from HPl.out.2 (.inr ⟨by show (y1, y2) = (x1, x2); rw [HE2.out.1, HE2.out.2], h3⟩))
              go_wp2_with fail
              refine wp_region_loose [] (fun _ _ _ => True) Gr (by kernel_rfl) (by kernel_rfl) (by simp) Gr.refl (fun _ _ _ h k => Gr.trans h k) (fun _ _ _ _ _ _ => trivial) ?_
              repeat (refine wpL_step (fun K hK => ?_); first
                | (refine stepL_skip rfl rfl rfl ?_; go_simp; refine hK _ ?_; clear hK K)
                | (refine stepL_ex rfl rfl rfl Gr.refl (fun w' hw' => rfl) ?_; go_simp; refine hK _ ?_; clear hK K)
                | (refine stepL_ex (v := .pointer (some ⟨g, off + k * 4, none⟩)) rfl rfl rfl Gr.refl ?_ ?_; (· (intro w' hw'; clear hK; go_simp)); go_simp; refine hK _ ?_; clear hK K)
                | (refine stepL_ex (v := .pointer (some ⟨g, off + k * 4 + 2, none⟩)) rfl rfl rfl Gr.refl ?_ ?_; (· (intro w' hw'; clear hK; go_simp)); go_simp; refine hK _ ?_; clear hK K)
                | (refine stepL_ex (v := .agg #[.int .i64 x1, .int .i64 x2]) rfl rfl rfl Gr.refl ?_ ?_; (· (intro w' hw'; clear hK; have hc := HD.out w' hw'; go_simp)); go_simp; refine hK _ ?_; clear hK K)
                | (refine stepL_ex (v := .agg #[.int .i64 x3, .int .i64 x4]) rfl rfl rfl Gr.refl ?_ ?_; (· (intro w' hw'; clear hK; have hc := HD.out w' hw'; go_simp)); go_simp; refine hK _ ?_; clear hK K)
                | (refine stepL_ex (v := .agg #[.int .i64 y1, .int .i64 y2]) rfl rfl rfl Gr.refl ?_ ?_; (· (intro w' hw'; clear hK; have hc := HD.out w' hw'; go_simp)); go_simp; refine hK _ ?_; clear hK K)
                | (refine stepL_ex (v := .agg #[.int .i64 y3, .int .i64 y4]) rfl rfl rfl Gr.refl ?_ ?_; (· (intro w' hw'; clear hK; have hc := HD.out w' hw'; go_simp)); go_simp; refine hK _ ?_; clear hK K)
                | (refine stepL_ex (v := .int .i64 l.length) rfl rfl rfl Gr.refl ?_ ?_; (· (intro w' hw'; clear hK; go_simp)); go_simp; refine hK _ ?_; clear hK K)
                | (refine stepL_ex (v := .bool true) rfl rfl rfl Gr.refl ?_ ?_; (· (intro w' hw'; clear hK; go_simp)); go_simp; refine hK _ ?_; clear hK K)
                | (refine stepL_ex (v := .bool false) rfl rfl rfl Gr.refl ?_ ?_; (· (intro w' hw'; clear hK; go_simp)); go_simp; refine hK _ ?_; clear hK K)
                | (refine stepL_call (v := .int .i64 z1) (f := 22) (args := #[.agg #[.int .i64 y1, .int .i64 y2], .agg #[.int .i64 x1, .int .i64 x2]]) rfl rfl rfl ?_ (fun w' hw' => HO1.out w') ?_; (· (intro w'; clear hK; go_simp)); go_simp; refine hK _ ?_; clear hK K)
                | (refine stepL_call (v := .int .i64 z2) (f := 22) (args := #[.agg #[.int .i64 y3, .int .i64 y4], .agg #[.int .i64 x3, .int .i64 x4]]) rfl rfl rfl ?_ (fun w' hw' => HO2.out w') ?_; (· (intro w'; clear hK; go_simp)); go_simp; refine hK _ ?_; clear hK K))
              refine wpL_nil ?_
              intro w10 a10
              simp only [forL]
              have HW6 := Lib.hid (HGr.out.drew.trans a10)
              clear a10
              go_wp2_with fail
              go_roundw
              case rel => exact ⟨k + 1, by go_num, HLt.out, HW6.out, fun j hj => by
                by_cases e : j = k
                · subst e; rw [HY.out]; exact HP.out
                · exact HNo.out j (by omega)⟩
              case measure => simp [intOf]; have := HLt.out; omega
            · have HPk := Lib.hid (show k < l.length → ¬ ordP (atP l k) ((x1, x2), (x3, x4)) < 0 from fun _ => by rw [HY.out]; exact HPn.out.2 (⟨h1, .inr h3⟩))
              go_wp2_with fail
              refine wp_region_loose [] (fun _ _ _ => True) Gr (by kernel_rfl) (by kernel_rfl) (by simp) Gr.refl (fun _ _ _ h k => Gr.trans h k) (fun _ _ _ _ _ _ => trivial) ?_
              repeat (refine wpL_step (fun K hK => ?_); first
                | (refine stepL_skip rfl rfl rfl ?_; go_simp; refine hK _ ?_; clear hK K)
                | (refine stepL_ex rfl rfl rfl Gr.refl (fun w' hw' => rfl) ?_; go_simp; refine hK _ ?_; clear hK K)
                | (refine stepL_ex (v := .pointer (some ⟨g, off + k * 4, none⟩)) rfl rfl rfl Gr.refl ?_ ?_; (· (intro w' hw'; clear hK; go_simp)); go_simp; refine hK _ ?_; clear hK K)
                | (refine stepL_ex (v := .pointer (some ⟨g, off + k * 4 + 2, none⟩)) rfl rfl rfl Gr.refl ?_ ?_; (· (intro w' hw'; clear hK; go_simp)); go_simp; refine hK _ ?_; clear hK K)
                | (refine stepL_ex (v := .agg #[.int .i64 x1, .int .i64 x2]) rfl rfl rfl Gr.refl ?_ ?_; (· (intro w' hw'; clear hK; have hc := HD.out w' hw'; go_simp)); go_simp; refine hK _ ?_; clear hK K)
                | (refine stepL_ex (v := .agg #[.int .i64 x3, .int .i64 x4]) rfl rfl rfl Gr.refl ?_ ?_; (· (intro w' hw'; clear hK; have hc := HD.out w' hw'; go_simp)); go_simp; refine hK _ ?_; clear hK K)
                | (refine stepL_ex (v := .agg #[.int .i64 y1, .int .i64 y2]) rfl rfl rfl Gr.refl ?_ ?_; (· (intro w' hw'; clear hK; have hc := HD.out w' hw'; go_simp)); go_simp; refine hK _ ?_; clear hK K)
                | (refine stepL_ex (v := .agg #[.int .i64 y3, .int .i64 y4]) rfl rfl rfl Gr.refl ?_ ?_; (· (intro w' hw'; clear hK; have hc := HD.out w' hw'; go_simp)); go_simp; refine hK _ ?_; clear hK K)
                | (refine stepL_ex (v := .int .i64 l.length) rfl rfl rfl Gr.refl ?_ ?_; (· (intro w' hw'; clear hK; go_simp)); go_simp; refine hK _ ?_; clear hK K)
                | (refine stepL_ex (v := .bool true) rfl rfl rfl Gr.refl ?_ ?_; (· (intro w' hw'; clear hK; go_simp)); go_simp; refine hK _ ?_; clear hK K)
                | (refine stepL_ex (v := .bool false) rfl rfl rfl Gr.refl ?_ ?_; (· (intro w' hw'; clear hK; go_simp)); go_simp; refine hK _ ?_; clear hK K)
                | (refine stepL_call (v := .int .i64 z1) (f := 22) (args := #[.agg #[.int .i64 y1, .int .i64 y2], .agg #[.int .i64 x1, .int .i64 x2]]) rfl rfl rfl ?_ (fun w' hw' => HO1.out w') ?_; (· (intro w'; clear hK; go_simp)); go_simp; refine hK _ ?_; clear hK K)
                | (refine stepL_call (v := .int .i64 z2) (f := 22) (args := #[.agg #[.int .i64 y3, .int .i64 y4], .agg #[.int .i64 x3, .int .i64 x4]]) rfl rfl rfl ?_ (fun w' hw' => HO2.out w') ?_; (· (intro w'; clear hK; go_simp)); go_simp; refine hK _ ?_; clear hK K))
              refine wpL_nil ?_
              intro w10 a10
              simp only [forL]
              have HW6 := Lib.hid (HGr.out.drew.trans a10)
              clear a10
              go_wp2_with fail
              have HKL := Lib.hid (Nat.le_of_lt HLt.out)
              have HKC := Lib.hid (Nat.le_trans HKL.out HCap.out.1)
              have HW6a := Lib.hid (HG.out.trans HW6.out).adds
              have hsl1 := slice_preP ((some (⟨g, off, none⟩ : Addr))) l.length cap k HKC.out
              have hsl2 := slice_fromP ((some (⟨g, off, none⟩ : Addr))) l.length cap k HKL.out
              have HPS := Lib.hid (HL.out w10 HW6a.out)
              have HT1 := Lib.hid (show ∀ w2, Below w10.heap.size w10 w2 → PairsW _ w2 _ _ from fun w2 h => (HPS.out.pre k HKL.out).below (h.mono (Nat.le_trans HNW.out HW6a.out.size)))
              have HT2 := Lib.hid (show ∀ w2, Below w10.heap.size w10 w2 → PairsW _ w2 _ _ from fun w2 h => (HPS.out.from k HKL.out).below (h.mono (Nat.le_trans HNW.out HW6a.out.size)))
              obtain ⟨S2, hS2⟩ : ∃ S2, Value.slice (if cap = k then ((some (⟨g, off, none⟩ : Addr))) else ((some (⟨g, off, none⟩ : Addr))).map (·.add (k * 4))) (l.length - k) (cap - k) = S2 := ⟨_, rfl⟩
              rw [hS2] at hsl2 HT2
              clear hS2
              have HB0 := Lib.hid (show w10.cell? ⟨w.heap.size, 0, none⟩ = some (.int .i64 x1) ∧ w10.cell? ⟨w.heap.size, 1, none⟩ = some (.int .i64 x2) ∧ w10.cell? ⟨w.heap.size, 2, none⟩ = some (.int .i64 x3) ∧ w10.cell? ⟨w.heap.size, 3, none⟩ = some (.int .i64 x4) from let b := HB.out.adds HW6.out.adds; ⟨b.cell 0, b.cell 1, b.cell 2, b.cell 3⟩)
              have HLW := Lib.hid (show w.heap.size < w10.heap.size from (HB.out.adds HW6.out.adds).lt)
              obtain ⟨n6, hn6⟩ : ∃ n6, w10.heap.size = n6 := ⟨_, rfl⟩
              have HN6 := Lib.hid hn6
              rw [hn6] at HT1 HT2 HLW
              clear hn6
              refine wp_frame60 rfl (fun f hf => ?_)
              have e0 : f 0 = Value.slice (some { block := g, off := off }) l.length cap := by have := congrArg (fun t : Array Value => t[0]?) hf; simpa using this.symm
              have e3 : f 3 = Value.pointer (some { block := w.heap.size, off := 0 }) := by have := congrArg (fun t : Array Value => t[3]?) hf; simpa using this.symm
              have e5 : f 5 = Value.int IntKind.i64 ((k : Nat) : Int) := by have := congrArg (fun t : Array Value => t[5]?) hf; simpa using this.symm
              simp only [e0, e3, e5]
              clear hf e0 e3 e5
              refine (wpIn_wide (n := 6)).1 ?_
              refine wpIn_region_inv (fun L b' w2 => ∃ s0 s4 s6 s7 s11 : Value, Reg6 n6 w10 (L 0) (L 6) (L 7) (sRow (L 4) (L 7) (L 11) s0 s4 s7 s11) (lRow (l.take k) (l.drop k) ((x1, x2), (x3, x4)) (L 4) (L 7) (L 11)) s6 ((x1, x2), (x3, x4)) b' ({ tmps := #[Value.slice (some { block := g, off := off }) l.length cap, f 1, f 2, Value.pointer (some { block := w.heap.size, off := 0 }), sel7 (L 12) (s11) (f 4), Value.int IntKind.i64 ((k : Nat) : Int), f 6, f 7, f 8, f 9, f 10, f 11, f 12, f 13, f 14, f 15, f 16, f 17, f 18, f 19, f 20, f 21, f 22, f 23, f 24, f 25, f 26, f 27, f 28, f 29, f 30, f 31, f 32, f 33, f 34, f 35, f 36, f 37, f 38, f 39, f 40, f 41, f 42, f 43, f 44, f 45, f 46, f 47, sel7 (L 0) (s0) (f 48), sel7 (L 1) (Value.slice (some { block := g, off := off }) l.length cap) (f 49), sel7 (L 2) (Value.int IntKind.i64 ((k : Nat) : Int)) (f 50), sel7 (L 3) (Value.slice (some (⟨g, off, none⟩ : Addr)) k cap) (f 51), sel7 (L 4) (s4) (f 52), sel7 (L 5) (Value.agg #[Value.int IntKind.i64 x1, Value.int IntKind.i64 x2, Value.int IntKind.i64 x3, Value.int IntKind.i64 x4]) (f 53), sel7 (L 6) (s6) (f 54), sel7 (L 7) (s7) (f 55), sel7 (L 8) (Value.slice (some { block := g, off := off }) l.length cap) (f 56), sel7 (L 9) (Value.int IntKind.i64 ((k : Nat) : Int)) (f 57), sel7 (L 10) (S2) (f 58), sel7 (L 11) (s11) (f 59)], defers := [] }) w2) hmx (by kernel_rfl) ?inv0 ?step ?fin
              case inv0 => exact ⟨undef, undef, undef, undef, undef, rfl, ⟨by rw [← HN6.out]; exact (Below.refl _ _).drew, Nat.le_of_eq HN6.out.symm, (fun h => (by cases h)), (fun h => (by cases h))⟩⟩
              case step =>
                rintro L b' w2 i o ho hL hC he ⟨s0, s4, s6, s7, s11, rfl, hP⟩
                have HP := Lib.hid hP
                clear hP
                have q4 := hC 4 _ rfl
                have q7 := hC 7 _ rfl
                have q11 := hC 11 _ rfl
                have q12 := hC 12 _ rfl
                simp [Region.binds] at q4 q7 q11 q12
                clear hC
                rcases i with _ | _ | _ | _ | _ | _ | _ | _ | _ | _ | _ | _ | _ | i
                · simp only [List.getElem?_cons_zero, Option.some.injEq] at ho
                  subst ho
                  try simp [Region.binds] at he
                  have z4 : L 4 = false := by cases h : L 4 with | false => rfl | true => (have := q4 h; simp [hL] at this)
                  have z7 : L 7 = false := by cases h : L 7 with | false => rfl | true => (have := q7 h; simp [z4] at this)
                  have z11 : L 11 = false := by cases h : L 11 with | false => rfl | true => (have := q11 h; simp [z7] at this)
                  clear q4 q7 q11 q12
                  have e := HP.out
                  rw [hL, z4, z7, z11] at e
                  have E := Lib.hid e.mkA
                  clear e
                  gi_wp2
                  exact ⟨.slice (some ⟨w2.heap.size, 0, none⟩) 0 0, s4, s6, s7, s11, by simp [sel7, *], by simpa [z4, z7, z11, sRow, lRow] using E.out⟩
                · simp only [List.getElem?_cons_zero, List.getElem?_cons_succ, Option.some.injEq] at ho
                  subst ho
                  try simp [Region.binds] at he
                  clear q4 q7 q11 q12
                  try simp only []
                  gi_wp2
                  exact ⟨s0, s4, s6, s7, s11, by simp [sel7, *], (by first | exact HP.out | simpa [he] using HP.out)⟩
                · simp only [List.getElem?_cons_zero, List.getElem?_cons_succ, Option.some.injEq] at ho
                  subst ho
                  try simp [Region.binds] at he
                  clear q4 q7 q11 q12
                  try simp only []
                  gi_wp2
                  exact ⟨s0, s4, s6, s7, s11, by simp [sel7, *], (by first | exact HP.out | simpa [he] using HP.out)⟩
                · simp only [List.getElem?_cons_zero, List.getElem?_cons_succ, Option.some.injEq] at ho
                  subst ho
                  try simp [Region.binds] at he
                  clear q4 q7 q11 q12
                  try simp only [he, sel7_t]
                  gi_wp2
                  exact ⟨s0, s4, s6, s7, s11, by simp [sel7, *], (by first | exact HP.out | simpa [he] using HP.out)⟩
                · simp only [List.getElem?_cons_zero, List.getElem?_cons_succ, Option.some.injEq] at ho
                  subst ho
                  try simp [Region.binds] at he
                  have z7 : L 7 = false := by cases h : L 7 with | false => rfl | true => (have := q7 h; simp [hL] at this)
                  have z11 : L 11 = false := by cases h : L 11 with | false => rfl | true => (have := q11 h; simp [z7] at this)
                  clear q4 q7 q11 q12
                  have p0 : L 0 = true := by simp [he]
                  have e := HP.out
                  rw [hL, z7, z11, p0] at e
                  have E := Lib.hid e
                  clear e
                  simp only [he, sel7_t]
                  gi_wp2_with (gi_at_builtin; refine wpIn_append_p2 rfl (.tmp 48) (.tmp 51) 22 rfl Tryz.underlying22 n6 s0 [] rfl (by simpa [sRow, lRow] using E.out.rA rfl) _ (l.take k) _ rfl (HT1.out w2 E.out.hb) (by have := HN.out; simp; omega) E.out.hs ?_; intro v' w' hown hg3 hsn; have HA := Lib.hid (E.out.app (L6 := L 6) (A' := v') false (fun h => h) hown (by simpa [sRow] using hg3) (by simpa [sRow] using hsn)); clear hown hg3 hsn)
                  exact ⟨s0, v', s6, s7, s11, by simp [sel7, *], by simpa [z7, z11, p0, sRow, lRow] using HA.out⟩
                · simp only [List.getElem?_cons_zero, List.getElem?_cons_succ, Option.some.injEq] at ho
                  subst ho
                  try simp [Region.binds] at he
                  clear q4 q7 q11 q12
                  have d0 := (HP.out.hb.cell (p := ⟨w.heap.size, 0, none⟩) HLW.out).trans HB0.out.1
                  have d1 := (HP.out.hb.cell (p := ⟨w.heap.size, 1, none⟩) HLW.out).trans HB0.out.2.1
                  have d2 := (HP.out.hb.cell (p := ⟨w.heap.size, 2, none⟩) HLW.out).trans HB0.out.2.2.1
                  have d3 := (HP.out.hb.cell (p := ⟨w.heap.size, 3, none⟩) HLW.out).trans HB0.out.2.2.2
                  try simp only []
                  gi_wp2
                  exact ⟨s0, s4, s6, s7, s11, by simp [sel7, *], (by first | exact HP.out | simpa [he] using HP.out)⟩
                · simp only [List.getElem?_cons_zero, List.getElem?_cons_succ, Option.some.injEq] at ho
                  subst ho
                  try simp [Region.binds] at he
                  have z7 : L 7 = false := by cases h : L 7 with | false => rfl | true => (have := q7 h; simp [hL] at this)
                  clear q4 q7 q11 q12
                  have e := HP.out
                  rw [hL, z7] at e
                  have E := Lib.hid e.mkL
                  clear e
                  simp only [he, sel7_t]
                  gi_wp2
                  exact ⟨s0, s4, .slice (some ⟨w2.heap.size, 0, none⟩) 1 1, s7, s11, by simp [sel7, *], by simpa [z7] using E.out⟩
                · simp only [List.getElem?_cons_zero, List.getElem?_cons_succ, Option.some.injEq] at ho
                  subst ho
                  try simp [Region.binds] at he
                  have z11 : L 11 = false := by cases h : L 11 with | false => rfl | true => (have := q11 h; simp [hL] at this)
                  have p0 : L 0 = true := (q4 (by simp [he])).1
                  clear q4 q7 q11 q12
                  have p4 : L 4 = true := by simp [he]
                  have p6 : L 6 = true := by simp [he]
                  have e := HP.out
                  rw [hL, z11, p0, p4, p6] at e
                  have E := Lib.hid e
                  clear e
                  simp only [he, sel7_t]
                  gi_wp2_with (gi_at_builtin; refine wpIn_append_p2 rfl (.tmp 52) (.tmp 54) 22 rfl Tryz.underlying22 n6 s4 (l.take k) rfl (by simpa [sRow, lRow] using E.out.rA rfl) _ [((x1, x2), (x3, x4))] _ rfl E.out.litW (by have := HN.out; simp; omega) E.out.hs ?_; intro v' w' hown hg3 hsn; have HA := Lib.hid (E.out.app (A' := v') true (fun _ => rfl) hown (by simpa [sRow] using hg3) (by simpa [sRow] using hsn)); clear hown hg3 hsn)
                  exact ⟨s0, s4, s6, v', s11, by simp [sel7, *], by simpa [z11, p0, p4, p6, sRow, lRow] using HA.out⟩
                · simp only [List.getElem?_cons_zero, List.getElem?_cons_succ, Option.some.injEq] at ho
                  subst ho
                  try simp [Region.binds] at he
                  clear q4 q7 q11 q12
                  try simp only []
                  gi_wp2
                  exact ⟨s0, s4, s6, s7, s11, by simp [sel7, *], (by first | exact HP.out | simpa [he] using HP.out)⟩
                · simp only [List.getElem?_cons_zero, List.getElem?_cons_succ, Option.some.injEq] at ho
                  subst ho
                  try simp [Region.binds] at he
                  clear q4 q7 q11 q12
                  try simp only []
                  gi_wp2
                  exact ⟨s0, s4, s6, s7, s11, by simp [sel7, *], (by first | exact HP.out | simpa [he] using HP.out)⟩
                · simp only [List.getElem?_cons_zero, List.getElem?_cons_succ, Option.some.injEq] at ho
                  subst ho
                  try simp [Region.binds] at he
                  clear q4 q7 q11 q12
                  try simp only [he, sel7_t]
                  gi_wp2
                  exact ⟨s0, s4, s6, s7, s11, by simp [sel7, *], (by first | exact HP.out | simpa [he] using HP.out)⟩
                · simp only [List.getElem?_cons_zero, List.getElem?_cons_succ, Option.some.injEq] at ho
                  subst ho
                  try simp [Region.binds] at he
                  have z12 : L 12 = false := by cases h : L 12 with | false => rfl | true => (have := q12 h; simp [hL] at this)
                  have p7 : L 7 = true := by simp [he]
                  have p4 : L 4 = true := (q7 p7).1
                  have p6 : L 6 = true := (q7 p7).2.1
                  have p0 : L 0 = true := (q4 p4).1
                  clear q4 q7 q11 q12
                  have e := HP.out
                  rw [hL, p0, p4, p6, p7] at e
                  have E := Lib.hid e
                  clear e
                  simp only [he, sel7_t]
                  gi_wp2_with (gi_at_builtin; refine wpIn_append_p2 rfl (.tmp 55) (.tmp 58) 22 rfl Tryz.underlying22 n6 s7 (l.take k ++ [((x1, x2), (x3, x4))]) rfl (by simpa [sRow, lRow] using E.out.rA rfl) _ (l.drop k) _ rfl (HT2.out w2 E.out.hb) (by have := HN.out; simp; omega) E.out.hs ?_; intro v' w' hown hg3 hsn; have HA := Lib.hid (E.out.app (A' := v') true (fun _ => rfl) hown (by simpa [sRow] using hg3) (by simpa [sRow] using hsn)); clear hown hg3 hsn)
                  exact ⟨s0, s4, s6, s7, v', by simp [sel7, *], by simpa [p0, p4, p6, p7, sRow, lRow] using HA.out⟩
                · simp only [List.getElem?_cons_zero, List.getElem?_cons_succ, Option.some.injEq] at ho
                  subst ho
                  try simp [Region.binds] at he
                  clear q4 q7 q11 q12
                  try simp only [he, sel7_t]
                  gi_wp2
                  exact ⟨s0, s4, s6, s7, s11, by simp [sel7, *], (by first | exact HP.out | simpa [he] using HP.out)⟩
                · simp at ho
              case fin =>
                rintro b' w2 ⟨s0, s4, s6, s7, s11, rfl, hP⟩
                have HP := Lib.hid (show AddR n6 (w10) true true true s11 (l.take (k) ++ [((x1, x2), (x3, x4))] ++ l.drop (k)) s6 ((x1, x2), (x3, x4)) w2 from hP)
                clear hP
                simp only [List.length_cons, List.length_nil, Nat.reduceAdd, Nat.reduceLT, decide_true, sel7_t, Exit.then]
                go_simp
                go_wp2_with fail
                go_ret
                refine ⟨s11, rfl, ?_, Adds.trans HW6a.out (by have h := HP.out.hb; rw [← HN6.out] at h; exact h)⟩
                rw [addP_new HI.out, ← insP_at ((x1, x2), (x3, x4)) l (k) HKL.out HNo.out (fun h => by have := HPk.out h; omega)]
                have h := (HP.out.rA rfl).pairs
                rwa [List.append_assoc] at h
          · rw [show eqS (y1, y2) (x1, x2) = false by rw [Bool.eq_false_iff]; intro e; have := eqS_iff.1 e; simp only [Prod.mk.injEq] at this; exact h2 this] at hq
            have HPk := Lib.hid (show k < l.length → ¬ ordP (atP l k) ((x1, x2), (x3, x4)) < 0 from fun _ => by rw [HY.out]; exact HPn.out.2 (⟨h1, .inl (fun e => h2 (by simpa only [Prod.mk.injEq] using e))⟩))
            go_wp2_with fail
            refine wp_region_loose [] (fun _ _ _ => True) Gr (by kernel_rfl) (by kernel_rfl) (by simp) Gr.refl (fun _ _ _ h k => Gr.trans h k) (fun _ _ _ _ _ _ => trivial) ?_
            repeat (refine wpL_step (fun K hK => ?_); first
              | (refine stepL_skip rfl rfl rfl ?_; go_simp; refine hK _ ?_; clear hK K)
              | (refine stepL_ex rfl rfl rfl Gr.refl (fun w' hw' => rfl) ?_; go_simp; refine hK _ ?_; clear hK K)
              | (refine stepL_ex (v := .pointer (some ⟨g, off + k * 4, none⟩)) rfl rfl rfl Gr.refl ?_ ?_; (· (intro w' hw'; clear hK; go_simp)); go_simp; refine hK _ ?_; clear hK K)
              | (refine stepL_ex (v := .pointer (some ⟨g, off + k * 4 + 2, none⟩)) rfl rfl rfl Gr.refl ?_ ?_; (· (intro w' hw'; clear hK; go_simp)); go_simp; refine hK _ ?_; clear hK K)
              | (refine stepL_ex (v := .agg #[.int .i64 x1, .int .i64 x2]) rfl rfl rfl Gr.refl ?_ ?_; (· (intro w' hw'; clear hK; have hc := HD.out w' hw'; go_simp)); go_simp; refine hK _ ?_; clear hK K)
              | (refine stepL_ex (v := .agg #[.int .i64 x3, .int .i64 x4]) rfl rfl rfl Gr.refl ?_ ?_; (· (intro w' hw'; clear hK; have hc := HD.out w' hw'; go_simp)); go_simp; refine hK _ ?_; clear hK K)
              | (refine stepL_ex (v := .agg #[.int .i64 y1, .int .i64 y2]) rfl rfl rfl Gr.refl ?_ ?_; (· (intro w' hw'; clear hK; have hc := HD.out w' hw'; go_simp)); go_simp; refine hK _ ?_; clear hK K)
              | (refine stepL_ex (v := .agg #[.int .i64 y3, .int .i64 y4]) rfl rfl rfl Gr.refl ?_ ?_; (· (intro w' hw'; clear hK; have hc := HD.out w' hw'; go_simp)); go_simp; refine hK _ ?_; clear hK K)
              | (refine stepL_ex (v := .int .i64 l.length) rfl rfl rfl Gr.refl ?_ ?_; (· (intro w' hw'; clear hK; go_simp)); go_simp; refine hK _ ?_; clear hK K)
              | (refine stepL_ex (v := .bool true) rfl rfl rfl Gr.refl ?_ ?_; (· (intro w' hw'; clear hK; go_simp)); go_simp; refine hK _ ?_; clear hK K)
              | (refine stepL_ex (v := .bool false) rfl rfl rfl Gr.refl ?_ ?_; (· (intro w' hw'; clear hK; go_simp)); go_simp; refine hK _ ?_; clear hK K)
              | (refine stepL_call (v := .int .i64 z1) (f := 22) (args := #[.agg #[.int .i64 y1, .int .i64 y2], .agg #[.int .i64 x1, .int .i64 x2]]) rfl rfl rfl ?_ (fun w' hw' => HO1.out w') ?_; (· (intro w'; clear hK; go_simp)); go_simp; refine hK _ ?_; clear hK K)
              | (refine stepL_call (v := .int .i64 z2) (f := 22) (args := #[.agg #[.int .i64 y3, .int .i64 y4], .agg #[.int .i64 x3, .int .i64 x4]]) rfl rfl rfl ?_ (fun w' hw' => HO2.out w') ?_; (· (intro w'; clear hK; go_simp)); go_simp; refine hK _ ?_; clear hK K))
            refine wpL_nil ?_
            intro w10 a10
            simp only [forL]
            have HW6 := Lib.hid (HGr.out.drew.trans a10)
            clear a10
            go_wp2_with fail
            have HKL := Lib.hid (Nat.le_of_lt HLt.out)
            have HKC := Lib.hid (Nat.le_trans HKL.out HCap.out.1)
            have HW6a := Lib.hid (HG.out.trans HW6.out).adds
            have hsl1 := slice_preP ((some (⟨g, off, none⟩ : Addr))) l.length cap k HKC.out
            have hsl2 := slice_fromP ((some (⟨g, off, none⟩ : Addr))) l.length cap k HKL.out
            have HPS := Lib.hid (HL.out w10 HW6a.out)
            have HT1 := Lib.hid (show ∀ w2, Below w10.heap.size w10 w2 → PairsW _ w2 _ _ from fun w2 h => (HPS.out.pre k HKL.out).below (h.mono (Nat.le_trans HNW.out HW6a.out.size)))
            have HT2 := Lib.hid (show ∀ w2, Below w10.heap.size w10 w2 → PairsW _ w2 _ _ from fun w2 h => (HPS.out.from k HKL.out).below (h.mono (Nat.le_trans HNW.out HW6a.out.size)))
            obtain ⟨S2, hS2⟩ : ∃ S2, Value.slice (if cap = k then ((some (⟨g, off, none⟩ : Addr))) else ((some (⟨g, off, none⟩ : Addr))).map (·.add (k * 4))) (l.length - k) (cap - k) = S2 := ⟨_, rfl⟩
            rw [hS2] at hsl2 HT2
            clear hS2
            have HB0 := Lib.hid (show w10.cell? ⟨w.heap.size, 0, none⟩ = some (.int .i64 x1) ∧ w10.cell? ⟨w.heap.size, 1, none⟩ = some (.int .i64 x2) ∧ w10.cell? ⟨w.heap.size, 2, none⟩ = some (.int .i64 x3) ∧ w10.cell? ⟨w.heap.size, 3, none⟩ = some (.int .i64 x4) from let b := HB.out.adds HW6.out.adds; ⟨b.cell 0, b.cell 1, b.cell 2, b.cell 3⟩)
            have HLW := Lib.hid (show w.heap.size < w10.heap.size from (HB.out.adds HW6.out.adds).lt)
            obtain ⟨n6, hn6⟩ : ∃ n6, w10.heap.size = n6 := ⟨_, rfl⟩
            have HN6 := Lib.hid hn6
            rw [hn6] at HT1 HT2 HLW
            clear hn6
            refine wp_frame60 rfl (fun f hf => ?_)
            have e0 : f 0 = Value.slice (some { block := g, off := off }) l.length cap := by have := congrArg (fun t : Array Value => t[0]?) hf; simpa using this.symm
            have e3 : f 3 = Value.pointer (some { block := w.heap.size, off := 0 }) := by have := congrArg (fun t : Array Value => t[3]?) hf; simpa using this.symm
            have e5 : f 5 = Value.int IntKind.i64 ((k : Nat) : Int) := by have := congrArg (fun t : Array Value => t[5]?) hf; simpa using this.symm
            simp only [e0, e3, e5]
            clear hf e0 e3 e5
            refine (wpIn_wide (n := 6)).1 ?_
            refine wpIn_region_inv (fun L b' w2 => ∃ s0 s4 s6 s7 s11 : Value, Reg6 n6 w10 (L 0) (L 6) (L 7) (sRow (L 4) (L 7) (L 11) s0 s4 s7 s11) (lRow (l.take k) (l.drop k) ((x1, x2), (x3, x4)) (L 4) (L 7) (L 11)) s6 ((x1, x2), (x3, x4)) b' ({ tmps := #[Value.slice (some { block := g, off := off }) l.length cap, f 1, f 2, Value.pointer (some { block := w.heap.size, off := 0 }), sel7 (L 12) (s11) (f 4), Value.int IntKind.i64 ((k : Nat) : Int), f 6, f 7, f 8, f 9, f 10, f 11, f 12, f 13, f 14, f 15, f 16, f 17, f 18, f 19, f 20, f 21, f 22, f 23, f 24, f 25, f 26, f 27, f 28, f 29, f 30, f 31, f 32, f 33, f 34, f 35, f 36, f 37, f 38, f 39, f 40, f 41, f 42, f 43, f 44, f 45, f 46, f 47, sel7 (L 0) (s0) (f 48), sel7 (L 1) (Value.slice (some { block := g, off := off }) l.length cap) (f 49), sel7 (L 2) (Value.int IntKind.i64 ((k : Nat) : Int)) (f 50), sel7 (L 3) (Value.slice (some (⟨g, off, none⟩ : Addr)) k cap) (f 51), sel7 (L 4) (s4) (f 52), sel7 (L 5) (Value.agg #[Value.int IntKind.i64 x1, Value.int IntKind.i64 x2, Value.int IntKind.i64 x3, Value.int IntKind.i64 x4]) (f 53), sel7 (L 6) (s6) (f 54), sel7 (L 7) (s7) (f 55), sel7 (L 8) (Value.slice (some { block := g, off := off }) l.length cap) (f 56), sel7 (L 9) (Value.int IntKind.i64 ((k : Nat) : Int)) (f 57), sel7 (L 10) (S2) (f 58), sel7 (L 11) (s11) (f 59)], defers := [] }) w2) hmx (by kernel_rfl) ?inv0 ?step ?fin
            case inv0 => exact ⟨undef, undef, undef, undef, undef, rfl, ⟨by rw [← HN6.out]; exact (Below.refl _ _).drew, Nat.le_of_eq HN6.out.symm, (fun h => (by cases h)), (fun h => (by cases h))⟩⟩
            case step =>
              rintro L b' w2 i o ho hL hC he ⟨s0, s4, s6, s7, s11, rfl, hP⟩
              have HP := Lib.hid hP
              clear hP
              have q4 := hC 4 _ rfl
              have q7 := hC 7 _ rfl
              have q11 := hC 11 _ rfl
              have q12 := hC 12 _ rfl
              simp [Region.binds] at q4 q7 q11 q12
              clear hC
              rcases i with _ | _ | _ | _ | _ | _ | _ | _ | _ | _ | _ | _ | _ | i
              · simp only [List.getElem?_cons_zero, Option.some.injEq] at ho
                subst ho
                try simp [Region.binds] at he
                have z4 : L 4 = false := by cases h : L 4 with | false => rfl | true => (have := q4 h; simp [hL] at this)
                have z7 : L 7 = false := by cases h : L 7 with | false => rfl | true => (have := q7 h; simp [z4] at this)
                have z11 : L 11 = false := by cases h : L 11 with | false => rfl | true => (have := q11 h; simp [z7] at this)
                clear q4 q7 q11 q12
                have e := HP.out
                rw [hL, z4, z7, z11] at e
                have E := Lib.hid e.mkA
                clear e
                gi_wp2
                exact ⟨.slice (some ⟨w2.heap.size, 0, none⟩) 0 0, s4, s6, s7, s11, by simp [sel7, *], by simpa [z4, z7, z11, sRow, lRow] using E.out⟩
              · simp only [List.getElem?_cons_zero, List.getElem?_cons_succ, Option.some.injEq] at ho
                subst ho
                try simp [Region.binds] at he
                clear q4 q7 q11 q12
                try simp only []
                gi_wp2
                exact ⟨s0, s4, s6, s7, s11, by simp [sel7, *], (by first | exact HP.out | simpa [he] using HP.out)⟩
              · simp only [List.getElem?_cons_zero, List.getElem?_cons_succ, Option.some.injEq] at ho
                subst ho
                try simp [Region.binds] at he
                clear q4 q7 q11 q12
                try simp only []
                gi_wp2
                exact ⟨s0, s4, s6, s7, s11, by simp [sel7, *], (by first | exact HP.out | simpa [he] using HP.out)⟩
              · simp only [List.getElem?_cons_zero, List.getElem?_cons_succ, Option.some.injEq] at ho
                subst ho
                try simp [Region.binds] at he
                clear q4 q7 q11 q12
                try simp only [he, sel7_t]
                gi_wp2
                exact ⟨s0, s4, s6, s7, s11, by simp [sel7, *], (by first | exact HP.out | simpa [he] using HP.out)⟩
              · simp only [List.getElem?_cons_zero, List.getElem?_cons_succ, Option.some.injEq] at ho
                subst ho
                try simp [Region.binds] at he
                have z7 : L 7 = false := by cases h : L 7 with | false => rfl | true => (have := q7 h; simp [hL] at this)
                have z11 : L 11 = false := by cases h : L 11 with | false => rfl | true => (have := q11 h; simp [z7] at this)
                clear q4 q7 q11 q12
                have p0 : L 0 = true := by simp [he]
                have e := HP.out
                rw [hL, z7, z11, p0] at e
                have E := Lib.hid e
                clear e
                simp only [he, sel7_t]
                gi_wp2_with (gi_at_builtin; refine wpIn_append_p2 rfl (.tmp 48) (.tmp 51) 22 rfl Tryz.underlying22 n6 s0 [] rfl (by simpa [sRow, lRow] using E.out.rA rfl) _ (l.take k) _ rfl (HT1.out w2 E.out.hb) (by have := HN.out; simp; omega) E.out.hs ?_; intro v' w' hown hg3 hsn; have HA := Lib.hid (E.out.app (L6 := L 6) (A' := v') false (fun h => h) hown (by simpa [sRow] using hg3) (by simpa [sRow] using hsn)); clear hown hg3 hsn)
                exact ⟨s0, v', s6, s7, s11, by simp [sel7, *], by simpa [z7, z11, p0, sRow, lRow] using HA.out⟩
              · simp only [List.getElem?_cons_zero, List.getElem?_cons_succ, Option.some.injEq] at ho
                subst ho
                try simp [Region.binds] at he
                clear q4 q7 q11 q12
                have d0 := (HP.out.hb.cell (p := ⟨w.heap.size, 0, none⟩) HLW.out).trans HB0.out.1
                have d1 := (HP.out.hb.cell (p := ⟨w.heap.size, 1, none⟩) HLW.out).trans HB0.out.2.1
                have d2 := (HP.out.hb.cell (p := ⟨w.heap.size, 2, none⟩) HLW.out).trans HB0.out.2.2.1
                have d3 := (HP.out.hb.cell (p := ⟨w.heap.size, 3, none⟩) HLW.out).trans HB0.out.2.2.2
                try simp only []
                gi_wp2
                exact ⟨s0, s4, s6, s7, s11, by simp [sel7, *], (by first | exact HP.out | simpa [he] using HP.out)⟩
              · simp only [List.getElem?_cons_zero, List.getElem?_cons_succ, Option.some.injEq] at ho
                subst ho
                try simp [Region.binds] at he
                have z7 : L 7 = false := by cases h : L 7 with | false => rfl | true => (have := q7 h; simp [hL] at this)
                clear q4 q7 q11 q12
                have e := HP.out
                rw [hL, z7] at e
                have E := Lib.hid e.mkL
                clear e
                simp only [he, sel7_t]
                gi_wp2
                exact ⟨s0, s4, .slice (some ⟨w2.heap.size, 0, none⟩) 1 1, s7, s11, by simp [sel7, *], by simpa [z7] using E.out⟩
              · simp only [List.getElem?_cons_zero, List.getElem?_cons_succ, Option.some.injEq] at ho
                subst ho
                try simp [Region.binds] at he
                have z11 : L 11 = false := by cases h : L 11 with | false => rfl | true => (have := q11 h; simp [hL] at this)
                have p0 : L 0 = true := (q4 (by simp [he])).1
                clear q4 q7 q11 q12
                have p4 : L 4 = true := by simp [he]
                have p6 : L 6 = true := by simp [he]
                have e := HP.out
                rw [hL, z11, p0, p4, p6] at e
                have E := Lib.hid e
                clear e
                simp only [he, sel7_t]
                gi_wp2_with (gi_at_builtin; refine wpIn_append_p2 rfl (.tmp 52) (.tmp 54) 22 rfl Tryz.underlying22 n6 s4 (l.take k) rfl (by simpa [sRow, lRow] using E.out.rA rfl) _ [((x1, x2), (x3, x4))] _ rfl E.out.litW (by have := HN.out; simp; omega) E.out.hs ?_; intro v' w' hown hg3 hsn; have HA := Lib.hid (E.out.app (A' := v') true (fun _ => rfl) hown (by simpa [sRow] using hg3) (by simpa [sRow] using hsn)); clear hown hg3 hsn)
                exact ⟨s0, s4, s6, v', s11, by simp [sel7, *], by simpa [z11, p0, p4, p6, sRow, lRow] using HA.out⟩
              · simp only [List.getElem?_cons_zero, List.getElem?_cons_succ, Option.some.injEq] at ho
                subst ho
                try simp [Region.binds] at he
                clear q4 q7 q11 q12
                try simp only []
                gi_wp2
                exact ⟨s0, s4, s6, s7, s11, by simp [sel7, *], (by first | exact HP.out | simpa [he] using HP.out)⟩
              · simp only [List.getElem?_cons_zero, List.getElem?_cons_succ, Option.some.injEq] at ho
                subst ho
                try simp [Region.binds] at he
                clear q4 q7 q11 q12
                try simp only []
                gi_wp2
                exact ⟨s0, s4, s6, s7, s11, by simp [sel7, *], (by first | exact HP.out | simpa [he] using HP.out)⟩
              · simp only [List.getElem?_cons_zero, List.getElem?_cons_succ, Option.some.injEq] at ho
                subst ho
                try simp [Region.binds] at he
                clear q4 q7 q11 q12
                try simp only [he, sel7_t]
                gi_wp2
                exact ⟨s0, s4, s6, s7, s11, by simp [sel7, *], (by first | exact HP.out | simpa [he] using HP.out)⟩
              · simp only [List.getElem?_cons_zero, List.getElem?_cons_succ, Option.some.injEq] at ho
                subst ho
                try simp [Region.binds] at he
                have z12 : L 12 = false := by cases h : L 12 with | false => rfl | true => (have := q12 h; simp [hL] at this)
                have p7 : L 7 = true := by simp [he]
                have p4 : L 4 = true := (q7 p7).1
                have p6 : L 6 = true := (q7 p7).2.1
                have p0 : L 0 = true := (q4 p4).1
                clear q4 q7 q11 q12
                have e := HP.out
                rw [hL, p0, p4, p6, p7] at e
                have E := Lib.hid e
                clear e
                simp only [he, sel7_t]
                gi_wp2_with (gi_at_builtin; refine wpIn_append_p2 rfl (.tmp 55) (.tmp 58) 22 rfl Tryz.underlying22 n6 s7 (l.take k ++ [((x1, x2), (x3, x4))]) rfl (by simpa [sRow, lRow] using E.out.rA rfl) _ (l.drop k) _ rfl (HT2.out w2 E.out.hb) (by have := HN.out; simp; omega) E.out.hs ?_; intro v' w' hown hg3 hsn; have HA := Lib.hid (E.out.app (A' := v') true (fun _ => rfl) hown (by simpa [sRow] using hg3) (by simpa [sRow] using hsn)); clear hown hg3 hsn)
                exact ⟨s0, s4, s6, s7, v', by simp [sel7, *], by simpa [p0, p4, p6, p7, sRow, lRow] using HA.out⟩
              · simp only [List.getElem?_cons_zero, List.getElem?_cons_succ, Option.some.injEq] at ho
                subst ho
                try simp [Region.binds] at he
                clear q4 q7 q11 q12
                try simp only [he, sel7_t]
                gi_wp2
                exact ⟨s0, s4, s6, s7, s11, by simp [sel7, *], (by first | exact HP.out | simpa [he] using HP.out)⟩
              · simp at ho
            case fin =>
              rintro b' w2 ⟨s0, s4, s6, s7, s11, rfl, hP⟩
              have HP := Lib.hid (show AddR n6 (w10) true true true s11 (l.take (k) ++ [((x1, x2), (x3, x4))] ++ l.drop (k)) s6 ((x1, x2), (x3, x4)) w2 from hP)
              clear hP
              simp only [List.length_cons, List.length_nil, Nat.reduceAdd, Nat.reduceLT, decide_true, sel7_t, Exit.then]
              go_simp
              go_wp2_with fail
              go_ret
              refine ⟨s11, rfl, ?_, Adds.trans HW6a.out (by have h := HP.out.hb; rw [← HN6.out] at h; exact h)⟩
              rw [addP_new HI.out, ← insP_at ((x1, x2), (x3, x4)) l (k) HKL.out HNo.out (fun h => by have := HPk.out h; omega)]
              have h := (HP.out.rA rfl).pairs
              rwa [List.append_assoc] at h
      · obtain rfl : k = l.length := by have := HK.out; omega
        have HPk := Lib.hid (show l.length < l.length → ¬ ordP (atP l l.length) ((x1, x2), (x3, x4)) < 0 from fun h => absurd h (Nat.lt_irrefl _))
        have hd : decide ((l.length : Int) < (l.length : Int)) = false := by simp
        go_wp2_with fail
        go_quiet ((fail))
        have HW6 := Lib.hid (HGr.out.trans (Gr.drewn wr nq))
        simp only [Exit.then]
        go_simp
        go_wp2_with fail
        have HKL := Lib.hid (Nat.le_refl l.length)
        have HKC := Lib.hid HCap.out.1
        have HW6a := Lib.hid (HG.out.trans HW6.out).adds
        have hsl1 := slice_preP (ao) l.length cap l.length HKC.out
        have hsl2 := slice_fromP (ao) l.length cap l.length HKL.out
        have HPS := Lib.hid (HL.out (wr.drewN nq) HW6a.out)
        have HT1 := Lib.hid (show ∀ w2, Below (wr.drewN nq).heap.size (wr.drewN nq) w2 → PairsW _ w2 _ _ from fun w2 h => (HPS.out.pre l.length HKL.out).below (h.mono (Nat.le_trans HNW.out HW6a.out.size)))
        have HT2 := Lib.hid (show ∀ w2, Below (wr.drewN nq).heap.size (wr.drewN nq) w2 → PairsW _ w2 _ _ from fun w2 h => (HPS.out.from l.length HKL.out).below (h.mono (Nat.le_trans HNW.out HW6a.out.size)))
        obtain ⟨S2, hS2⟩ : ∃ S2, Value.slice (if cap = l.length then (ao) else (ao).map (·.add (l.length * 4))) (l.length - l.length) (cap - l.length) = S2 := ⟨_, rfl⟩
        rw [hS2] at hsl2 HT2
        clear hS2
        have HB0 := Lib.hid (show (wr.drewN nq).cell? ⟨w.heap.size, 0, none⟩ = some (.int .i64 x1) ∧ (wr.drewN nq).cell? ⟨w.heap.size, 1, none⟩ = some (.int .i64 x2) ∧ (wr.drewN nq).cell? ⟨w.heap.size, 2, none⟩ = some (.int .i64 x3) ∧ (wr.drewN nq).cell? ⟨w.heap.size, 3, none⟩ = some (.int .i64 x4) from let b := HB.out.adds HW6.out.adds; ⟨b.cell 0, b.cell 1, b.cell 2, b.cell 3⟩)
        have HLW := Lib.hid (show w.heap.size < (wr.drewN nq).heap.size from (HB.out.adds HW6.out.adds).lt)
        obtain ⟨n6, hn6⟩ : ∃ n6, (wr.drewN nq).heap.size = n6 := ⟨_, rfl⟩
        have HN6 := Lib.hid hn6
        rw [hn6] at HT1 HT2 HLW
        clear hn6
        refine wp_frame60 rfl (fun f hf => ?_)
        have e0 : f 0 = Value.slice ao l.length cap := by have := congrArg (fun t : Array Value => t[0]?) hf; simpa using this.symm
        have e3 : f 3 = Value.pointer (some { block := w.heap.size, off := 0 }) := by have := congrArg (fun t : Array Value => t[3]?) hf; simpa using this.symm
        have e5 : f 5 = Value.int IntKind.i64 ((l.length : Nat) : Int) := by have := congrArg (fun t : Array Value => t[5]?) hf; simpa using this.symm
        simp only [e0, e3, e5]
        clear hf e0 e3 e5
        refine (wpIn_wide (n := 6)).1 ?_
        refine wpIn_region_inv (fun L b' w2 => ∃ s0 s4 s6 s7 s11 : Value, Reg6 n6 (wr.drewN nq) (L 0) (L 6) (L 7) (sRow (L 4) (L 7) (L 11) s0 s4 s7 s11) (lRow (l.take l.length) (l.drop l.length) ((x1, x2), (x3, x4)) (L 4) (L 7) (L 11)) s6 ((x1, x2), (x3, x4)) b' ({ tmps := #[Value.slice ao l.length cap, f 1, f 2, Value.pointer (some { block := w.heap.size, off := 0 }), sel7 (L 12) (s11) (f 4), Value.int IntKind.i64 ((l.length : Nat) : Int), f 6, f 7, f 8, f 9, f 10, f 11, f 12, f 13, f 14, f 15, f 16, f 17, f 18, f 19, f 20, f 21, f 22, f 23, f 24, f 25, f 26, f 27, f 28, f 29, f 30, f 31, f 32, f 33, f 34, f 35, f 36, f 37, f 38, f 39, f 40, f 41, f 42, f 43, f 44, f 45, f 46, f 47, sel7 (L 0) (s0) (f 48), sel7 (L 1) (Value.slice ao l.length cap) (f 49), sel7 (L 2) (Value.int IntKind.i64 ((l.length : Nat) : Int)) (f 50), sel7 (L 3) (Value.slice ao l.length cap) (f 51), sel7 (L 4) (s4) (f 52), sel7 (L 5) (Value.agg #[Value.int IntKind.i64 x1, Value.int IntKind.i64 x2, Value.int IntKind.i64 x3, Value.int IntKind.i64 x4]) (f 53), sel7 (L 6) (s6) (f 54), sel7 (L 7) (s7) (f 55), sel7 (L 8) (Value.slice ao l.length cap) (f 56), sel7 (L 9) (Value.int IntKind.i64 ((l.length : Nat) : Int)) (f 57), sel7 (L 10) (S2) (f 58), sel7 (L 11) (s11) (f 59)], defers := [] }) w2) hmx (by kernel_rfl) ?inv0 ?step ?fin
        case inv0 => exact ⟨undef, undef, undef, undef, undef, rfl, ⟨by rw [← HN6.out]; exact (Below.refl _ _).drew, Nat.le_of_eq HN6.out.symm, (fun h => (by cases h)), (fun h => (by cases h))⟩⟩
        case step =>
          rintro L b' w2 i o ho hL hC he ⟨s0, s4, s6, s7, s11, rfl, hP⟩
          have HP := Lib.hid hP
          clear hP
          have q4 := hC 4 _ rfl
          have q7 := hC 7 _ rfl
          have q11 := hC 11 _ rfl
          have q12 := hC 12 _ rfl
          simp [Region.binds] at q4 q7 q11 q12
          clear hC
          rcases i with _ | _ | _ | _ | _ | _ | _ | _ | _ | _ | _ | _ | _ | i
          · simp only [List.getElem?_cons_zero, Option.some.injEq] at ho
            subst ho
            try simp [Region.binds] at he
            have z4 : L 4 = false := by cases h : L 4 with | false => rfl | true => (have := q4 h; simp [hL] at this)
            have z7 : L 7 = false := by cases h : L 7 with | false => rfl | true => (have := q7 h; simp [z4] at this)
            have z11 : L 11 = false := by cases h : L 11 with | false => rfl | true => (have := q11 h; simp [z7] at this)
            clear q4 q7 q11 q12
            have e := HP.out
            rw [hL, z4, z7, z11] at e
            have E := Lib.hid e.mkA
            clear e
            gi_wp2
            exact ⟨.slice (some ⟨w2.heap.size, 0, none⟩) 0 0, s4, s6, s7, s11, by simp [sel7, *], by simpa [z4, z7, z11, sRow, lRow] using E.out⟩
          · simp only [List.getElem?_cons_zero, List.getElem?_cons_succ, Option.some.injEq] at ho
            subst ho
            try simp [Region.binds] at he
            clear q4 q7 q11 q12
            try simp only []
            gi_wp2
            exact ⟨s0, s4, s6, s7, s11, by simp [sel7, *], (by first | exact HP.out | simpa [he] using HP.out)⟩
          · simp only [List.getElem?_cons_zero, List.getElem?_cons_succ, Option.some.injEq] at ho
            subst ho
            try simp [Region.binds] at he
            clear q4 q7 q11 q12
            try simp only []
            gi_wp2
            exact ⟨s0, s4, s6, s7, s11, by simp [sel7, *], (by first | exact HP.out | simpa [he] using HP.out)⟩
          · simp only [List.getElem?_cons_zero, List.getElem?_cons_succ, Option.some.injEq] at ho
            subst ho
            try simp [Region.binds] at he
            clear q4 q7 q11 q12
            try simp only [he, sel7_t]
            gi_wp2
            exact ⟨s0, s4, s6, s7, s11, by simp [sel7, *], (by first | exact HP.out | simpa [he] using HP.out)⟩
          · simp only [List.getElem?_cons_zero, List.getElem?_cons_succ, Option.some.injEq] at ho
            subst ho
            try simp [Region.binds] at he
            have z7 : L 7 = false := by cases h : L 7 with | false => rfl | true => (have := q7 h; simp [hL] at this)
            have z11 : L 11 = false := by cases h : L 11 with | false => rfl | true => (have := q11 h; simp [z7] at this)
            clear q4 q7 q11 q12
            have p0 : L 0 = true := by simp [he]
            have e := HP.out
            rw [hL, z7, z11, p0] at e
            have E := Lib.hid e
            clear e
            simp only [he, sel7_t]
            gi_wp2_with (gi_at_builtin; refine wpIn_append_p2 rfl (.tmp 48) (.tmp 51) 22 rfl Tryz.underlying22 n6 s0 [] rfl (by simpa [sRow, lRow] using E.out.rA rfl) _ (l.take l.length) _ rfl (HT1.out w2 E.out.hb) (by have := HN.out; simp; omega) E.out.hs ?_; intro v' w' hown hg3 hsn; have HA := Lib.hid (E.out.app (L6 := L 6) (A' := v') false (fun h => h) hown (by simpa [sRow] using hg3) (by simpa [sRow] using hsn)); clear hown hg3 hsn)
            exact ⟨s0, v', s6, s7, s11, by simp [sel7, *], by simpa [z7, z11, p0, sRow, lRow] using HA.out⟩
          · simp only [List.getElem?_cons_zero, List.getElem?_cons_succ, Option.some.injEq] at ho
            subst ho
            try simp [Region.binds] at he
            clear q4 q7 q11 q12
            have d0 := (HP.out.hb.cell (p := ⟨w.heap.size, 0, none⟩) HLW.out).trans HB0.out.1
            have d1 := (HP.out.hb.cell (p := ⟨w.heap.size, 1, none⟩) HLW.out).trans HB0.out.2.1
            have d2 := (HP.out.hb.cell (p := ⟨w.heap.size, 2, none⟩) HLW.out).trans HB0.out.2.2.1
            have d3 := (HP.out.hb.cell (p := ⟨w.heap.size, 3, none⟩) HLW.out).trans HB0.out.2.2.2
            try simp only []
            gi_wp2
            exact ⟨s0, s4, s6, s7, s11, by simp [sel7, *], (by first | exact HP.out | simpa [he] using HP.out)⟩
          · simp only [List.getElem?_cons_zero, List.getElem?_cons_succ, Option.some.injEq] at ho
            subst ho
            try simp [Region.binds] at he
            have z7 : L 7 = false := by cases h : L 7 with | false => rfl | true => (have := q7 h; simp [hL] at this)
            clear q4 q7 q11 q12
            have e := HP.out
            rw [hL, z7] at e
            have E := Lib.hid e.mkL
            clear e
            simp only [he, sel7_t]
            gi_wp2
            exact ⟨s0, s4, .slice (some ⟨w2.heap.size, 0, none⟩) 1 1, s7, s11, by simp [sel7, *], by simpa [z7] using E.out⟩
          · simp only [List.getElem?_cons_zero, List.getElem?_cons_succ, Option.some.injEq] at ho
            subst ho
            try simp [Region.binds] at he
            have z11 : L 11 = false := by cases h : L 11 with | false => rfl | true => (have := q11 h; simp [hL] at this)
            have p0 : L 0 = true := (q4 (by simp [he])).1
            clear q4 q7 q11 q12
            have p4 : L 4 = true := by simp [he]
            have p6 : L 6 = true := by simp [he]
            have e := HP.out
            rw [hL, z11, p0, p4, p6] at e
            have E := Lib.hid e
            clear e
            simp only [he, sel7_t]
            gi_wp2_with (gi_at_builtin; refine wpIn_append_p2 rfl (.tmp 52) (.tmp 54) 22 rfl Tryz.underlying22 n6 s4 (l.take l.length) rfl (by simpa [sRow, lRow] using E.out.rA rfl) _ [((x1, x2), (x3, x4))] _ rfl E.out.litW (by have := HN.out; simp; omega) E.out.hs ?_; intro v' w' hown hg3 hsn; have HA := Lib.hid (E.out.app (A' := v') true (fun _ => rfl) hown (by simpa [sRow] using hg3) (by simpa [sRow] using hsn)); clear hown hg3 hsn)
            exact ⟨s0, s4, s6, v', s11, by simp [sel7, *], by simpa [z11, p0, p4, p6, sRow, lRow] using HA.out⟩
          · simp only [List.getElem?_cons_zero, List.getElem?_cons_succ, Option.some.injEq] at ho
            subst ho
            try simp [Region.binds] at he
            clear q4 q7 q11 q12
            try simp only []
            gi_wp2
            exact ⟨s0, s4, s6, s7, s11, by simp [sel7, *], (by first | exact HP.out | simpa [he] using HP.out)⟩
          · simp only [List.getElem?_cons_zero, List.getElem?_cons_succ, Option.some.injEq] at ho
            subst ho
            try simp [Region.binds] at he
            clear q4 q7 q11 q12
            try simp only []
            gi_wp2
            exact ⟨s0, s4, s6, s7, s11, by simp [sel7, *], (by first | exact HP.out | simpa [he] using HP.out)⟩
          · simp only [List.getElem?_cons_zero, List.getElem?_cons_succ, Option.some.injEq] at ho
            subst ho
            try simp [Region.binds] at he
            clear q4 q7 q11 q12
            try simp only [he, sel7_t]
            gi_wp2
            exact ⟨s0, s4, s6, s7, s11, by simp [sel7, *], (by first | exact HP.out | simpa [he] using HP.out)⟩
          · simp only [List.getElem?_cons_zero, List.getElem?_cons_succ, Option.some.injEq] at ho
            subst ho
            try simp [Region.binds] at he
            have z12 : L 12 = false := by cases h : L 12 with | false => rfl | true => (have := q12 h; simp [hL] at this)
            have p7 : L 7 = true := by simp [he]
            have p4 : L 4 = true := (q7 p7).1
            have p6 : L 6 = true := (q7 p7).2.1
            have p0 : L 0 = true := (q4 p4).1
            clear q4 q7 q11 q12
            have e := HP.out
            rw [hL, p0, p4, p6, p7] at e
            have E := Lib.hid e
            clear e
            simp only [he, sel7_t]
            gi_wp2_with (gi_at_builtin; refine wpIn_append_p2 rfl (.tmp 55) (.tmp 58) 22 rfl Tryz.underlying22 n6 s7 (l.take l.length ++ [((x1, x2), (x3, x4))]) rfl (by simpa [sRow, lRow] using E.out.rA rfl) _ (l.drop l.length) _ rfl (HT2.out w2 E.out.hb) (by have := HN.out; simp; omega) E.out.hs ?_; intro v' w' hown hg3 hsn; have HA := Lib.hid (E.out.app (A' := v') true (fun _ => rfl) hown (by simpa [sRow] using hg3) (by simpa [sRow] using hsn)); clear hown hg3 hsn)
            exact ⟨s0, s4, s6, s7, v', by simp [sel7, *], by simpa [p0, p4, p6, p7, sRow, lRow] using HA.out⟩
          · simp only [List.getElem?_cons_zero, List.getElem?_cons_succ, Option.some.injEq] at ho
            subst ho
            try simp [Region.binds] at he
            clear q4 q7 q11 q12
            try simp only [he, sel7_t]
            gi_wp2
            exact ⟨s0, s4, s6, s7, s11, by simp [sel7, *], (by first | exact HP.out | simpa [he] using HP.out)⟩
          · simp at ho
        case fin =>
          rintro b' w2 ⟨s0, s4, s6, s7, s11, rfl, hP⟩
          have HP := Lib.hid (show AddR n6 ((wr.drewN nq)) true true true s11 (l.take (l.length) ++ [((x1, x2), (x3, x4))] ++ l.drop (l.length)) s6 ((x1, x2), (x3, x4)) w2 from hP)
          clear hP
          simp only [List.length_cons, List.length_nil, Nat.reduceAdd, Nat.reduceLT, decide_true, sel7_t, Exit.then]
          go_simp
          go_wp2_with fail
          go_ret
          refine ⟨s11, rfl, ?_, Adds.trans HW6a.out (by have h := HP.out.hb; rw [← HN6.out] at h; exact h)⟩
          rw [addP_new HI.out, ← insP_at ((x1, x2), (x3, x4)) l (l.length) HKL.out HNo.out (fun h => by have := HPk.out h; omega)]
          have h := (HP.out.rA rfl).pairs
          rwa [List.append_assoc] at h
end Go.Proofs.YtoeoeeomnbggkaaGreatDoor
