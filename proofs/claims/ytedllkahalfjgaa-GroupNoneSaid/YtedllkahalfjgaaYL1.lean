/- The law GroupNone, walked. -/
import Derived.Test.YtedllkahalfjgaaYL0
import Derived.Test.YtedllkahalfjgaaYI3
import Derived.Test.YtedllkahalfjgaaWI0
namespace Go.Proofs.Ytedllkahalfjgaa
open Go Go.RowKit Go.Shelf
attribute [local go_sem] Oper.semAt_some

theorem seqQ_not_nil (fn : Fn) (a b : Array Value) (W : World) : (binOp .eql 73 (.func fn a b) .nilFunc).run Try.prog W = .ok (.bool false) W := by kernel_rfl
set_option maxRecDepth 100000 in
theorem open1_nil (n : Nat) (hn : 4 ≤ n) (q Bk : Nat) (W : World) (hk : BkS 115 W Bk (cntC [])) :
    CallsIn Fence.wide n Try.prog 65 #[.func (.yield q) #[] #[], .pointer (some ⟨Bk, 0, none⟩)] W fun z W' => (∃ v, z = .returned v) ∧ Adds W W' := by
  have h := open1_in n hn q Bk (fun _ => False) [] (by decide) 0 rfl (fun pre W' => pre = [] ∧ Adds W W') (fun _ _ => False) W (fun _ A C ⟨h1, h2⟩ hb => ⟨h1, Below.trans h2 hb⟩) (fun _ _ _ h _ => h.elim)
    (fun pre x W1 _ hx => absurd hx.1 (by omega)) (fun _ h => h.elim) (fun h => h) hk ⟨rfl, Adds.refl W⟩
  exact h.mono fun e W' ⟨h1, h2⟩ => ⟨h1, h2.elim (fun ⟨_, _, _, h3⟩ => h3) (fun ⟨_, _, h3⟩ => h3.elim)⟩
set_option maxRecDepth 100000 in
set_option maxHeartbeats 8000000 in
theorem law_none15 (a i c : Int) (zero : Bool) (w : World) :
    Calls Try.prog 7 #[.agg #[.int .i64 a, .int .i64 i, .int .i64 c], .bool zero] w fun e W' => e = .returned (.bool true) ∧ Adds w W' := by
  obtain ⟨w1, hw1⟩ : ∃ w1, w.alloc (.cells #[.int .i64 a, .int .i64 i, .int .i64 c] 59) = w1 := ⟨_, rfl⟩
  obtain ⟨w2, hw2⟩ : ∃ w2, w1.alloc (.cells #[.bool false] 4) = w2 := ⟨_, rfl⟩
  obtain ⟨b1, hb1⟩ : ∃ b1, w1.heap.size = b1 := ⟨_, rfl⟩
  have HS := Lib.hid (show b1 = w.heap.size + 1 by rw [← hb1, ← hw1]; simp)
  have hA2 : Adds w w2 := Adds.trans (show Adds w w1 by rw [← hw1]; exact (Gr.new _ _).adds) (show Adds w1 w2 by rw [← hw2]; exact (Gr.new _ _).adds)
  have hx2 : BkS 59 w2 w.heap.size [.int .i64 a, .int .i64 i, .int .i64 c] := by
    have h := BkS.new 59 w [.int .i64 a, .int .i64 i, .int .i64 c]
    rw [hw1] at h
    exact h.adds (by rw [← hw2]; exact (Gr.new _ _).adds)
  have hr2 : BkS 4 w2 b1 [.bool false] := by rw [← hb1, ← hw2]; exact BkS.new _ _ _
  -- none, of whichever kind
  obtain ⟨v, W0, hv, hW0, hA0⟩ : ∃ v W0, NoG W0 v ∧ (if zero then v = .pointer (some ⟨w2.heap.size, 0, none⟩) ∧ w2.alloc (.cells #[.pointer none] 69) = W0 else v = .pointer none ∧ W0 = w2) ∧ Adds w2 W0 := by
    cases zero
    · exact ⟨_, _, .inl rfl, ⟨rfl, rfl⟩, Adds.refl _⟩
    · exact ⟨_, _, .inr ⟨_, rfl, BkS.new _ _ _⟩, ⟨rfl, rfl⟩, (Gr.new _ _).adds⟩
  have HV := Lib.hid hv
  have HX := Lib.hid (hx2.adds hA0)
  have HR := Lib.hid (hr2.adds hA0)
  have HA := Lib.hid (Adds.trans hA2 hA0)
  have cx1 : W0.cell? ⟨w.heap.size, 1, none⟩ = some (.int .i64 i) := HX.out.cell 1
  have cx2 : W0.cell? ⟨w.heap.size, 2, none⟩ = some (.int .i64 c) := HX.out.cell 2
  have HNew := Lib.hid (fun W => newQ_yes 0 (by decide) W)
  have HWk := Lib.hid works_any
  have hnn := seqQ_not_nil
  have HNum := Lib.hid num_any
  clear hv hA0 hx2 hr2 hA2
  refine (callsIn_wide (n := 8)).1 ?_
  refine callsIn_of_wp_marks Try.func7 rfl trivial ?_ rfl
  simp only [Try.ntmps7, List.size_toArray, List.length_cons, List.length_nil, Nat.reduceAdd, Nat.reduceSub, Array.replicate_succ, Array.replicate_zero, List.push_toArray, List.append_toArray, List.nil_append, List.cons_append]
  have HAd := Lib.hid (add_noG HV.out i c)
  have HHe := Lib.hid (fun W (ha : Adds W0 W) => open_noG (HV.out.adds ha))
  cases zero
  all_goals
    simp only [Bool.false_eq_true, if_true, if_false] at hW0
    obtain ⟨rfl, hW0⟩ := hW0
    first | (guard_hyp hW0 : W0 = w2; subst hW0) | skip
    gi_wp2_with (first
      | (refine ⟨trivial, ?_⟩; gi_at_call 28; refine (callsIn_wide.2 HAd.out).mono ?_; rintro e wA ⟨rfl, hA⟩; have HAA := Lib.hid hA; clear hA HAd)
      | (refine ⟨trivial, ?_⟩; gi_at_call 29; refine (callsIn_wide.2 (HHe.out wA HAA.out)).mono ?_; rintro e w3 ⟨rfl, c3, h3⟩; have HC3 := Lib.hid c3; have H3 := Lib.hid (Adds.trans HAA.out h3); clear c3 h3 HHe))
    have HV3 := Lib.hid (HV.out.adds H3.out)
    have HX3 := Lib.hid (HX.out.adds H3.out)
    have HR3 := Lib.hid (HR.out.adds H3.out)
    have HA3 := Lib.hid (Adds.trans HA.out H3.out)
    clear hnn cx1 cx2 HX HR HV
    refine rangeFunc_0 rfl (by omega) (gf := 65) (lb := #[.pointer (some ⟨_, 0, none⟩)]) rfl trivial (enters_of Try.func65 (by kernel_rfl) rfl) ?seq ?done
    case seq =>
      intro l' W2 hb
      exact open1_nil _ (by omega) l' _ W2 (HC3.out.adds hb)
    case done =>
      rintro D W2 hD hb hK
      have HbW := Lib.hid (show Adds w3 W2 from hb); have HKD := Lib.hid hK; have HDd := Lib.hid hD
      have b2 := HX3.out.adds HbW.out
      have c1 : W2.cell? ⟨w.heap.size, 1, none⟩ = some (.int .i64 i) := b2.cell 1
      have c2 : W2.cell? ⟨w.heap.size, 2, none⟩ = some (.int .i64 c) := b2.cell 2
      have HX4 := Lib.hid b2
      have HV4 := Lib.hid (HV3.out.adds HbW.out)
      clear hb hK hD b2
      gi_wp2_with (first
        | (refine ⟨trivial, ?_⟩; gi_at_call 20; refine (callsIn_wide.2 (HNew.out W2)).mono ?_; rintro e w4 ⟨v4, b4, rfl, h1, h3, h4⟩; have M4 := Lib.hid h1; have A4 := Lib.hid h4; have hx4 := HX4.out.adds h4; have d1 : w4.cell? ⟨w.heap.size, 1, none⟩ = some (.int .i64 i) := hx4.cell 1; have d2 : w4.cell? ⟨w.heap.size, 2, none⟩ = some (.int .i64 c) := hx4.cell 2; have HV5 := Lib.hid (HV4.out.adds h4); have HS1 := Lib.hid (sameQ_nn HV5.out); have HS2 := Lib.hid (sameQ_hn h1 HV5.out); clear h1 h3 h4 hx4 HNew)
        | (refine ⟨trivial, ?_⟩; gi_at_call 22; refine (callsIn_wide.2 (HNum.out _ _)).mono ?_; rintro e w5 ⟨rfl, rfl⟩)
        | (refine ⟨trivial, ?_⟩; gi_at_call 30; refine (callsIn_wide.2 (count_noG HV5.out i)).mono ?_; rintro e w6 ⟨rfl, rfl⟩)
        | (refine ⟨trivial, ?_⟩; gi_at_call 31; refine (callsIn_wide.2 (done_noG HV5.out i)).mono ?_; rintro e w6 ⟨rfl, rfl⟩)
        | (refine ⟨trivial, ?_⟩; gi_at_call 32; refine (callsIn_wide.2 (len_noG HV5.out)).mono ?_; rintro e w6 ⟨rfl, rfl⟩)
        | (refine ⟨trivial, ?_⟩; gi_at_call 25; refine (callsIn_wide.2 (copy_noG HV5.out)).mono ?_; rintro e w6 ⟨rfl, rfl⟩)
        | (refine ⟨trivial, ?_⟩; gi_at_call 27; refine (callsIn_wide.2 HS1.out).mono ?_; rintro e w6 ⟨rfl, rfl⟩; clear HS1)
        | (refine ⟨trivial, ?_⟩; gi_at_call 27; refine (callsIn_wide.2 HS2.out).mono ?_; rintro e w6 ⟨rfl, rfl⟩; clear HS2)
        | (refine ⟨trivial, ?_⟩; gi_at_call 19; refine (callsIn_wide.2 (HWk.out w4)).mono ?_; rintro e w8 ⟨rfl, q8⟩; have H8 := Lib.hid (Adds.trans A4.out q8); have hbx := (HR3.out.adds HbW.out).adds (Adds.trans A4.out q8); have c8 : w8.cell? ⟨b1, 0, none⟩ = some (.bool false) := hbx.cell 0; have f8 := hbx.free 0; have HBX8 := Lib.hid hbx; clear q8 hbx HWk))
      show LeavesInM _ _ _ _ _ _ _ _ _
      have hlt := HBX8.out.lt
      have hDW := (Array.getElem?_eq_some_iff.1 HKD.out).1
      have hK8 : w8.heap[D]? = some (.deferred (some [])) := (H8.out.block D hDW).trans HKD.out
      have hb3 := HR3.out.lt
      have hne : D ≠ b1 := by have := HDd.out; omega
      have hb9 := HBX8.out.set 0 (.bool true)
      refine marks_leave (B := w3.heap.size) (C := (w8.setCell ⟨b1, 0, none⟩ (.bool true)).heap.size) _ _ ⟨D, rfl, HDd.out, by simp [World.setCell]; exact (Array.getElem?_eq_some_iff.1 hK8).1, (Below.heap_setCell w8 _ _ D hne).trans hK8, trivial⟩ fun W' hW' => ⟨.bool true, results_box rfl Try.underlying4 _ _ _ (.bool true) rfl ((show BkS 4 W' b1 [.bool true] from (hW'.block _ hb3).trans hb9).cell 0), rfl, ?_⟩
      have h8 : Adds w w8 := Adds.trans HA3.out (Adds.trans HbW.out H8.out)
      exact Below.trans (Adds.set h8 (by have := HS.out; omega) 0 _) (Below.mono hW' HA3.out.size)
end Go.Proofs.Ytedllkahalfjgaa
