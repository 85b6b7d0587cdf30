/- The law SiteNone, walked. -/
import Derived.Shelf.SlIter.Collect
import Derived.Test.YtnhapmodgmkbjaaGreatDoorSW
import Derived.Test.YtnhapmodgmkbjaaGreatDoorSN4
namespace Go.Proofs.YtnhapmodgmkbjaaGreatDoor
open Go Go.RowKit Go.Shelf Go.Maps
attribute [local go_sem] Oper.semAt_some

theorem seqP_not_nil (fn : Fn) (a b : Array Value) (W : World) : (binOp .eql 40 (.func fn a b) .nilFunc).run Tryz.prog W = .ok (.bool false) W := by kernel_rfl
/-- All that is asked of none. -/
structure NoneFamS (w : World) (v : Value) (x : Pr) : Prop where
  add : ∀ W, Adds w W → Calls Tryz.prog 8 #[v, prV x] W fun e w' => e = .returned (.tuple #[.bool false, .int .i64 1]) ∧ Gr W w'
  has : ∀ W, Adds w W → Calls Tryz.prog 11 #[v, prV x] W fun e w' => e = .returned (.bool false) ∧ Gr W w'
  len : ∀ W, Adds w W → Calls Tryz.prog 13 #[v] W fun e w' => e = .returned (.int .i64 0) ∧ W = w'
  all : ∀ W, Adds w W → Calls Tryz.prog 14 #[v] W fun e w' => e = .returned (.func (.func 26) #[] #[.pointer (some ⟨W.heap.size, 0, none⟩)]) ∧ w'.cell? ⟨W.heap.size, 0, none⟩ = some (.slice none 0 0) ∧ Adds W w'
theorem NoneFamS.of {w : World} {v : Value} (x : Pr) (h : NoSet w v) : NoneFamS w v x where
  add W hA := add_none v x W (h.adds hA)
  has W hA := has_none v x W (h.adds hA)
  len W hA := len_none v W (h.adds hA)
  all W hA := all_none v W (h.adds hA)

set_option maxRecDepth 100000 in
set_option maxHeartbeats 8000000 in
theorem law_none7 (x : Pr) (zero : Bool) (w : World) (hv : SVars w) :
    Calls Tryz.prog 4 #[prV x, .bool zero] w (TrueAdds w) := by
  have HV := Lib.hid hv; clear hv
  have HNum := Lib.hid num_site
  have hnn := seqP_not_nil
  refine (callsIn_wide (n := 9)).1 ?_
  refine callsIn_of_wp_marks Tryz.func4 rfl trivial ?_ rfl
  simp only [Tryz.ntmps4, List.size_toArray, List.length_cons, List.length_nil, Nat.reduceAdd, Nat.reduceSub, Array.replicate_succ, Array.replicate_zero, List.push_toArray, List.append_toArray, List.nil_append, List.cons_append]
  obtain ⟨wp, hwp⟩ : ∃ wp, w.alloc (.cells (prC x).toArray 32) = wp := ⟨_, rfl⟩
  have hP0 : Adds w wp := by rw [← hwp]; exact (Gr.new _ _).adds
  have hP1 : BkS 32 wp w.heap.size (prC x) := by rw [← hwp]; exact BkS.new _ _ _
  have hP2 : wp.heap.size = w.heap.size + 1 := by rw [← hwp]; simp
  have HZ : Hid (∃ W0 v, Adds wp W0 ∧ NoSet W0 v ∧ W0.heap[w.heap.size + 1]? = some (.cells #[.bool false] 4 (0, 0)) ∧ W0 = (if zero then (wp.alloc (.cells #[.bool false] 4)).alloc (.cells #[.map none] 46) else wp.alloc (.cells #[.bool false] 4)) ∧ v = (if zero then .pointer (some ⟨w.heap.size + 1 + 1, 0, none⟩) else .pointer none)) := Lib.hid (by
    rw [← hP2]
    cases zero
    · exact ⟨_, _, (Gr.new _ _).adds, .inl rfl, World.alloc_heap_new _ _, rfl, rfl⟩
    · refine ⟨_, _, Adds.trans (Gr.new _ _).adds (Gr.new _ _).adds, .inr ⟨_, rfl, ?_⟩, ?_, rfl, rfl⟩
      · simp
      · exact (Below.heap_alloc _ _ _ (by simp)).trans (World.alloc_heap_new _ _))
  obtain ⟨W0, v, hz1, hz2, hz3, hz4, hz5⟩ := HZ.out
  have HA0 := Lib.hid (Adds.trans hP0 hz1); have HN0 := Lib.hid hz2; have HB0 := Lib.hid hz3
  have HBk := Lib.hid (hP1.adds hz1)
  have HF0 := Lib.hid ((NoneFamS.of x hz2).add W0 (Below.refl _ _))
  have HWP := Lib.hid hwp
  clear HZ hz1 hz2 hz3 hP0 hP1 hP2 hwp
  obtain ⟨⟨f, p⟩, ⟨g, q⟩⟩ := x
  have HWP' := HWP.out
  simp only [prC] at HWP'
  cases zero
  all_goals
    simp only [Bool.false_eq_true, if_true, if_false] at hz4 hz5
    rw [← HWP'] at hz4
    have HZ4 := Lib.hid hz4; have HZ5 := Lib.hid hz5
    rw [HZ4.out, HZ5.out] at HF0
    clear hz4 hz5 HWP' HWP
    gi_wp2_with (first
      | (refine ⟨trivial, ?_⟩; gi_at_call 8; refine (callsIn_wide.2 HF0.out).mono ?_; rintro e w2 ⟨rfl, h5⟩; have q5 : Adds W0 w2 := HZ4.out ▸ h5.adds; have HFam := Lib.hid (HZ5.out ▸ NoneFamS.of ((f, p), (g, q)) (HN0.out.adds q5)); have Q5 := Lib.hid q5; clear h5 q5)
      | (refine ⟨trivial, ?_⟩; gi_at_call 14; refine (callsIn_wide.2 (HFam.out.all w2 (Below.refl _ _))).mono ?_; rintro e w3 ⟨rfl, c3, h3⟩; have HC3 := Lib.hid c3; have Q6 := Lib.hid h3; clear c3 h3))
    have HAd := Lib.hid (Adds.trans HA0.out (Adds.trans Q5.out Q6.out))
    have HBx := Lib.hid (((Adds.trans Q5.out Q6.out).block _ (Array.getElem?_eq_some_iff.1 HB0.out).1).trans HB0.out)
    have HBk3 := Lib.hid (HBk.out.adds (Adds.trans Q5.out Q6.out))
    clear HF0 hnn
    refine rangeFunc_0 rfl (by omega) (gf := 26) (lb := #[.pointer (some ⟨w2.heap.size, 0, none⟩)]) rfl trivial (enters_of Tryz.func26 (by kernel_rfl) rfl) ?seq ?done
    case seq =>
      intro l' W2 hb
      exact pall1_empty _ (by omega) l' _ W2 (Adds.cellAt hb HC3.out)
    case done =>
      rintro D W2 hD hb hK
      have HbW := Lib.hid (show Adds w3 W2 from hb); have HKD := Lib.hid hK; have HDd := Lib.hid hD
      have b2 := HBk3.out.adds HbW.out
      have c0 : W2.cell? ⟨w.heap.size, 0, none⟩ = some (.int .i64 f) := b2.cell 0
      have c1 : W2.cell? ⟨w.heap.size, 1, none⟩ = some (.int .i64 p) := b2.cell 1
      have c2 : W2.cell? ⟨w.heap.size, 2, none⟩ = some (.int .i64 g) := b2.cell 2
      have c3 : W2.cell? ⟨w.heap.size, 3, none⟩ = some (.int .i64 q) := b2.cell 3
      have lb2 := b2.lt
      clear hb hK hD b2
      have HWk := Lib.hid (fun (W : World) (h : Adds w3 W) => works_any W (HV.out.below (Adds.trans HAd.out h)))
      gi_wp2_with (first
        | (refine ⟨trivial, ?_⟩; gi_at_call 10; refine (callsIn_wide.2 (HNum.out _ _)).mono ?_; rintro e w4 ⟨rfl, rfl⟩)
        | (refine ⟨trivial, ?_⟩; gi_at_call 11; refine (callsIn_wide.2 (HFam.out.has _ (Adds.trans Q6.out HbW.out))).mono ?_; rintro e w5 ⟨rfl, h5⟩; have H5 := Lib.hid h5.adds; clear h5)
        | (refine ⟨trivial, ?_⟩; gi_at_call 13; refine (callsIn_wide.2 (HFam.out.len _ (Adds.trans Q6.out (Adds.trans HbW.out H5.out)))).mono ?_; rintro e w6 ⟨rfl, rfl⟩)
        | (refine ⟨trivial, ?_⟩; gi_at_call 5; refine (callsIn_wide.2 (HWk.out _ (Adds.trans HbW.out H5.out))).mono ?_; rintro e w8 ⟨rfl, q8⟩; have H8 := Lib.hid (Adds.trans H5.out q8); have hbx : w8.heap[w.heap.size + 1]? = some (.cells #[.bool false] 4 (0, 0)) := ((Adds.trans HbW.out H8.out).block _ (Array.getElem?_eq_some_iff.1 HBx.out).1).trans HBx.out; have c8 := (cell_of_box_a hbx).1; have f8 := (cell_of_box_a hbx).2; have HBX8 := Lib.hid hbx; clear q8 hbx))
      show LeavesInM _ _ _ _ _ _ _ _ _
      have hlt := (Array.getElem?_eq_some_iff.1 HBx.out).1
      have hDW := (Array.getElem?_eq_some_iff.1 HKD.out).1
      have hK8 : w8.heap[D]? = some (.deferred (some [])) := (H8.out.block D hDW).trans HKD.out
      have hne : D ≠ w.heap.size + 1 := by have := HDd.out; omega
      have hb9 : (w8.setCell ⟨w.heap.size + 1, 0, none⟩ (.bool true)).heap[w.heap.size + 1]? = some (.cells #[.bool true] 4 (0, 0)) := heap_setCell_box_a _ HBX8.out
      refine marks_leave (B := w3.heap.size) (C := (w8.setCell ⟨w.heap.size + 1, 0, none⟩ (.bool true)).heap.size) _ _ ⟨D, rfl, HDd.out, by simp [World.setCell]; exact (Array.getElem?_eq_some_iff.1 hK8).1, (Below.heap_setCell w8 _ _ D hne).trans hK8, trivial⟩ fun W' hW' => ⟨.bool true, results_box rfl Tryz.underlying4 _ _ _ (.bool true) rfl (cell_of_box_a ((hW'.block _ hlt).trans hb9)).1, rfl, ?_⟩
      have h8 : Adds w w8 := Adds.trans HAd.out (Adds.trans HbW.out H8.out)
      exact (Below.setCell h8 (p := ⟨w.heap.size + 1, 0, none⟩) (Nat.le_succ _) _).trans (hW'.mono HAd.out.size)
end Go.Proofs.YtnhapmodgmkbjaaGreatDoor
