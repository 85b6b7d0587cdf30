/- Merged: Z20. -/
import Derived.Test.YthhegcngkpfcoaaGreatY46
import Derived.Test.YthhegcngkpfcoaaGreatY47
namespace Go.Proofs.YthhegcngkpfcoaaGreat
open Go Go.RowKit Go.Shelf
attribute [local go_sem] Oper.semAt_some

theorem same_zz : samePg zPg zPg = true := by unfold samePg; simp; unfold sameFs; simp
theorem same_gz : samePg gP zPg = false := by unfold samePg; simp; unfold sameFs; simp
theorem zP_ok : ∀ f ∈ zPg.1, ∀ i ∈ f.2, OkIn i := fun f hf => by simp at hf
theorem seqF_not_nil (fn : Fn) (a b : Array Value) (W : World) : (binOp .eql 43 (.func fn a b) .nilFunc).run Tryz.prog W = .ok (.bool false) W := by kernel_rfl
set_option maxRecDepth 100000 in
set_option maxHeartbeats 8000000 in
theorem law_none12 (a m r u : Int) (zero : Bool) (w : World) :
    Calls Tryz.prog 3 #[.agg #[.int .i64 a, .int .i64 m, .int .i64 r, .int .u32 u], .bool zero] w (TrueAdds w) := by
  have hnn := seqF_not_nil
  refine (callsIn_wide (n := 9)).1 ?_
  refine callsIn_of_wp_marks Tryz.func3 rfl trivial ?_ rfl
  simp only [Tryz.ntmps3, List.size_toArray, List.length_cons, List.length_nil, Nat.reduceAdd, Nat.reduceSub, Array.replicate_succ, Array.replicate_zero, List.push_toArray, List.append_toArray, List.nil_append, List.cons_append]
  obtain ⟨wp, hwp⟩ : ∃ wp, w.alloc (.cells #[.int .i64 a, .int .i64 m, .int .i64 r, .int .u32 u] 24) = wp := ⟨_, rfl⟩
  have hP0 : Adds w wp := by rw [← hwp]; exact Adds.new _ _
  have hP1 : BkS 24 wp w.heap.size [.int .i64 a, .int .i64 m, .int .i64 r, .int .u32 u] := by rw [← hwp]; exact BkS.new _ _ _
  have hP2 : wp.heap.size = w.heap.size + 1 := by rw [← hwp]; simp
  have HZ := Lib.hid (show ∃ W0 v, Adds wp W0 ∧ StkO w.heap.size W0 v zPg [] 0 ∧ W0.heap[w.heap.size + 1]? = some (.cells #[.bool false] 4 (0, 0)) ∧ W0 = (if zero then (wp.alloc (.cells #[.bool false] 4)).alloc (.cells #[.slice none 0 0, .int .i64 0, .int .i64 0, .int .i64 0, .slice none 0 0, .int .u32 0] 34) else wp.alloc (.cells #[.bool false] 4)) ∧ v = (if zero then .pointer (some ⟨w.heap.size + 1 + 1, 0, none⟩) else .pointer none) from by
    rw [← hP2]
    cases zero
    · exact ⟨_, _, Adds.new _ _, .inl ⟨rfl, rfl, rfl, rfl⟩, World.alloc_heap_new _ _, rfl, rfl⟩
    · refine ⟨_, _, Adds.trans (Adds.new _ _) (Adds.new _ _), .inr ⟨_, rfl, ⟨_, _, [], zeroPile (.inr rfl) ?_ ?_, rfl⟩⟩, ?_, rfl, rfl⟩
      · omega
      · have h := BkS.new 34 (wp.alloc (.cells #[.bool false] 4)) [.slice none 0 0, .int .i64 0, .int .i64 0, .int .i64 0, .slice none 0 0, .int .u32 0]
        simpa using h
      · exact (Below.heap_alloc _ _ _ (by simp)).trans (World.alloc_heap_new _ _))
  obtain ⟨W0, v, hz1, hz2, hz3, hz4, hz5⟩ := HZ.out
  have HA0 := Lib.hid (Adds.trans hP0 hz1)
  have HB0 := Lib.hid hz3
  have HBk := Lib.hid (hP1.adds hz1)
  have HK := Lib.hid (fun (W : World) (h : Adds W0 W) => And.intro (hz2.adds h) (Nat.le_trans (Adds.trans hP0 hz1).size h.size))
  have HWP := Lib.hid hwp
  clear HZ hz1 hz2 hz3 hP0 hP1 hP2 hwp
  have HWP' := HWP.out
  cases zero
  all_goals
    simp only [Bool.false_eq_true, if_true, if_false] at hz4 hz5
    rw [← HWP'] at hz4
    have HZ4 := Lib.hid hz4; have HZ5 := Lib.hid hz5
    clear hz4 hz5
    have HNx := Lib.hid (NextS_none (HK.out _ (Adds.refl _)).1 (HK.out _ (Adds.refl _)).2)
    rw [HZ4.out, HZ5.out] at HNx
    clear HWP' HWP
    rw [HZ5.out] at HK
    gi_wp2_with (first
      | (refine ⟨trivial, ?_⟩; gi_at_call 6; refine (callsIn_wide.2 HNx.out).mono ?_; rintro e w2 ⟨rfl, a2⟩; have Q2 := Lib.hid (show Adds W0 w2 by rw [HZ4.out]; exact a2); clear a2)
      | (refine ⟨trivial, ?_⟩; gi_at_call 7; refine (callsIn_wide.2 (FramesS_none (HK.out _ (Adds.trans Q2.out (Adds.trans (Adds.new _ _) (Adds.new _ _)))).1 (HK.out _ (Adds.trans Q2.out (Adds.trans (Adds.new _ _) (Adds.new _ _)))).2)).mono ?_; rintro e w3 ⟨k, ao, d, rfl, hc, a3⟩; have Q3 := Lib.hid (show Adds W0 w3 from Adds.trans Q2.out (Adds.trans (Adds.trans (Adds.new _ _) (Adds.new _ _)) a3)); have HC3 := Lib.hid hc; clear hc a3))
    have HAd := Lib.hid (Adds.trans HA0.out Q3.out)
    have HBx := Lib.hid ((Q3.out.block _ (Array.getElem?_eq_some_iff.1 HB0.out).1).trans HB0.out)
    clear hnn HNx
    refine rangeFunc_0 rfl (by omega) (gf := 28) (lb := #[.pointer (some ⟨k, 0, none⟩)]) rfl trivial (enters_of Tryz.func28 (by kernel_rfl) rfl) ?seq ?done
    case seq =>
      intro l' W2 hb
      exact frames1_empty _ (by omega) l' _ W2 _ _ (Adds.cellAt hb HC3.out)
    case done =>
      rintro D W2 hD hb hKd
      have HbW := Lib.hid (show Adds w3 W2 from hb); have HKD := Lib.hid hKd; have HDd := Lib.hid hD
      have HK2 := Lib.hid (fun (W : World) (h : Adds W2 W) => HK.out W (Adds.trans Q3.out (Adds.trans HbW.out h)))
      have HAc := Lib.hid (fun (W : World) (h : Adds W2 W) => show W.cell? ⟨w.heap.size, 1, none⟩ = some (.int .i64 m) ∧ W.cell? ⟨w.heap.size, 2, none⟩ = some (.int .i64 r) ∧ W.cell? ⟨w.heap.size, 3, none⟩ = some (.int .u32 u) from by
        have b := HBk.out.adds (Adds.trans Q3.out (Adds.trans HbW.out h))
        exact ⟨b.cell 1, b.cell 2, b.cell 3⟩)
      clear hb hKd hD
      gi_wp2_with (first
        | (refine ⟨trivial, ?_⟩; gi_at_call 10; refine (callsIn_wide.2 (num12 _ _)).mono ?_; rintro e wn ⟨rfl, rfl⟩)
        | (refine ⟨trivial, ?_⟩; gi_at_call 9; refine (callsIn_wide.2 (given12 _)).mono ?_; rintro e w5 ⟨vg, rfl, hf, a5⟩; have T5 := Lib.hid a5; have HF := Lib.hid hf; clear hf a5)
        | (refine ⟨trivial, ?_⟩; gi_at_call 8; refine (callsIn_wide.2 (NewS_ok vg gP HF.out gP_check gP_ok (by decide) (by decide) 0 (by decide) 3 rfl (by decide) (.slice none 0 0) [] (Cells32.nil _) (by decide))).mono ?_; rintro e w6 ⟨b, rfl, hp, a6⟩; have T6 := Lib.hid (Adds.trans T5.out a6); have HP := Lib.hid hp; have HS5 := Lib.hid (show w5.heap.size ≤ w6.heap.size from a6.size); obtain ⟨c1, c2, c3⟩ := HAc.out _ T6.out; clear hp a6)
        | (refine ⟨trivial, ?_⟩; gi_at_call 11; refine (callsIn_wide.2 (StepS_none (HK2.out _ T6.out).1 (HK2.out _ T6.out).2 rfl _)).mono ?_; rintro e w7 ⟨rfl, a7⟩; have S7 := Lib.hid a7; have T7 := Lib.hid (Adds.trans T6.out a7); obtain ⟨c1, c2, c3⟩ := HAc.out _ T7.out; clear a7)
        | (refine ⟨trivial, ?_⟩; gi_at_call 12; refine (callsIn_wide.2 (PassS_none (HK2.out _ T7.out).1 (HK2.out _ T7.out).2 rfl _ _)).mono ?_; rintro e w8 ⟨rfl, a8⟩; have S8 := Lib.hid (Adds.trans S7.out a8); have T8 := Lib.hid (Adds.trans T7.out a8); obtain ⟨c1, c2, c3⟩ := HAc.out _ T8.out; clear a8)
        | (refine ⟨trivial, ?_⟩; gi_at_call 13; refine (callsIn_wide.2 (RegS_any (HK2.out _ T8.out).1 (HK2.out _ T8.out).2 _)).mono ?_; rintro e w9 ⟨rfl, a9⟩; have S9 := Lib.hid (Adds.trans S8.out a9); have T9 := Lib.hid (Adds.trans T8.out a9); have hr0 : (regOf [] r).toNat = 0 := rfl; simp only [hr0]; clear a9)
        | (refine ⟨trivial, ?_⟩; gi_at_call 14; refine (callsIn_wide.2 (depthS_any (HK2.out _ T9.out).1 (HK2.out _ T9.out).2)).mono ?_; rintro e wa ⟨rfl, aa⟩; have SA := Lib.hid (Adds.trans S9.out aa); have TA := Lib.hid (Adds.trans T9.out aa); clear aa)
        | (refine ⟨trivial, ?_⟩; gi_at_call 15; refine (callsIn_wide.2 (resultS_any (HK2.out _ TA.out).1 (HK2.out _ TA.out).2)).mono ?_; rintro e wb ⟨rfl, ab⟩; have SB := Lib.hid (Adds.trans SA.out ab); have TB := Lib.hid (Adds.trans TA.out ab); clear ab)
        | (refine ⟨trivial, ?_⟩; gi_at_call 16; refine (callsIn_wide.2 (CopyS_none (HK2.out _ TB.out).1 (HK2.out _ TB.out).2 rfl)).mono ?_; rintro e wc ⟨rfl, ac⟩; have SC := Lib.hid (Adds.trans SB.out ac); have TC := Lib.hid (Adds.trans TB.out ac); have HS1 := Lib.hid (SameS_any (HK2.out _ TC.out).1 (.inl ⟨rfl, rfl, rfl, rfl⟩ : StkO w.heap.size wc (.pointer none) zPg [] 0) (HK2.out _ TC.out).2 (HK2.out _ TC.out).2 zP_ok zP_ok true same_zz (fun _ => ⟨rfl, rfl⟩)); have HS2 := Lib.hid (fun (W : World) (h : Adds wc W) => SameS_any (.inr ⟨b, rfl, HP.out.adds (Adds.trans SC.out h)⟩) (HK2.out _ (Adds.trans TC.out h)).1 (Nat.le_trans HS5.out (Adds.trans SC.out h).size) (HK2.out _ (Adds.trans TC.out h)).2 gP_ok zP_ok false same_gz (fun h => by cases h)); clear ac)
        | (refine ⟨trivial, ?_⟩; gi_at_call 17; refine (callsIn_wide.2 HS1.out).mono ?_; rintro e wd ⟨rfl, ad⟩; have SD := Lib.hid (show Adds wc wd from ad); have TD := Lib.hid (Adds.trans TC.out ad); clear ad HS1)
        | (refine ⟨trivial, ?_⟩; gi_at_call 17; refine (callsIn_wide.2 (HS2.out _ SD.out)).mono ?_; rintro e we ⟨rfl, ae⟩; have TE := Lib.hid (Adds.trans TD.out ae); clear ae)
        | (refine ⟨trivial, ?_⟩; gi_at_call 18; refine (callsIn_wide.2 (works12 _)).mono ?_; rintro e wf ⟨rfl, af⟩; have TF := Lib.hid (Adds.trans TE.out af); have hbx : BkS 4 wf (w.heap.size + 1) [.bool false] := ((Adds.trans HbW.out TF.out).block _ (Array.getElem?_eq_some_iff.1 HBx.out).1).trans HBx.out; have cx := hbx.cell 0; have fx := hbx.free 0; have HBX := Lib.hid hbx; clear af hbx))
      show LeavesInM _ _ _ _ _ _ _ _ _
      have hlt := (Array.getElem?_eq_some_iff.1 HBx.out).1
      have hDW := (Array.getElem?_eq_some_iff.1 HKD.out).1
      have hK8 : wf.heap[D]? = some (.deferred (some [])) := (TF.out.block D hDW).trans HKD.out
      have hne : D ≠ w.heap.size + 1 := by have := HDd.out; omega
      have hb9 : BkS 4 (wf.setCell ⟨w.heap.size + 1, 0, none⟩ (.bool true)) (w.heap.size + 1) [.bool true] := HBX.out.set 0 (.bool true)
      refine marks_leave (B := w3.heap.size) (C := (wf.setCell ⟨w.heap.size + 1, 0, none⟩ (.bool true)).heap.size) _ _ ⟨D, rfl, HDd.out, by simp [World.setCell]; exact (Array.getElem?_eq_some_iff.1 hK8).1, (Below.heap_setCell wf _ _ D hne).trans hK8, trivial⟩ fun W' hW' => ⟨.bool true, results_box rfl Tryz.underlying4 _ _ _ (.bool true) rfl ((show BkS 4 W' (w.heap.size + 1) [.bool true] from (hW'.block _ hlt).trans hb9).cell 0), rfl, ?_⟩
      have h8 : Adds w wf := Adds.trans HAd.out (Adds.trans HbW.out TF.out)
      exact (Below.setCell h8 (p := ⟨w.heap.size + 1, 0, none⟩) (Nat.le_succ _) _).trans (hW'.mono HAd.out.size)
end Go.Proofs.YthhegcngkpfcoaaGreat
