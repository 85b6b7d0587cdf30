/- The law RwlockNone, walked. -/
import Derived.Test.YthcdllchkdkikaaWN2
import Derived.Test.YthcdllchkdkikaaWL0
namespace Go.Proofs.Ythcdllchkdkikaa
open Go Go.RowKit Go.Shelf
attribute [local go_sem] Oper.semAt_some

theorem seqW_not_nil (fn : Fn) (a b : Array Value) (W : World) : (binOp .eql 56 (.func fn a b) .nilFunc).run Try.prog W = .ok (.bool false) W := by kernel_rfl
set_option maxRecDepth 100000 in
set_option maxHeartbeats 8000000 in
theorem law_none14 (a i c : Int) (zero : Bool) (w : World) :
    Calls Try.prog 5 #[.agg #[.int .i64 a, .int .i64 i, .int .i64 c], .bool zero] w fun e W' => e = .returned (.bool true) ∧ Adds w W' := by
  obtain ⟨w1, hw1⟩ : ∃ w1, w.alloc (.cells #[.int .i64 a, .int .i64 i, .int .i64 c] 37) = w1 := ⟨_, rfl⟩
  obtain ⟨w2, hw2⟩ : ∃ w2, w1.alloc (.cells #[.bool false] 4) = w2 := ⟨_, rfl⟩
  obtain ⟨b1, hb1⟩ : ∃ b1, w1.heap.size = b1 := ⟨_, rfl⟩
  have HS := Lib.hid (show b1 = w.heap.size + 1 by rw [← hb1, ← hw1]; simp)
  have hA2 : Adds w w2 := Adds.trans (show Adds w w1 by rw [← hw1]; exact (Gr.new _ _).adds) (show Adds w1 w2 by rw [← hw2]; exact (Gr.new _ _).adds)
  have hx2 : BkS 37 w2 w.heap.size [.int .i64 a, .int .i64 i, .int .i64 c] := by
    have h := BkS.new 37 w [.int .i64 a, .int .i64 i, .int .i64 c]
    rw [hw1] at h
    exact h.adds (by rw [← hw2]; exact (Gr.new _ _).adds)
  have hr2 : BkS 4 w2 b1 [.bool false] := by rw [← hb1, ← hw2]; exact BkS.new _ _ _
  -- none, of whichever kind
  obtain ⟨v, W0, hv, hW0, hA0⟩ : ∃ v W0, NoneW W0 v ∧ (if zero then v = .pointer (some ⟨w2.heap.size, 0, none⟩) ∧ w2.alloc (.cells #[.pointer none] 49) = W0 else v = .pointer none ∧ W0 = w2) ∧ Adds w2 W0 := by
    cases zero
    · exact ⟨_, _, .inl rfl, ⟨rfl, rfl⟩, Adds.refl _⟩
    · exact ⟨_, _, .inr ⟨_, rfl, BkS.new _ _ _⟩, ⟨rfl, rfl⟩, (Gr.new _ _).adds⟩
  have HV := Lib.hid hv
  have HX := Lib.hid (hx2.adds hA0)
  have HR := Lib.hid (hr2.adds hA0)
  have HA := Lib.hid (Adds.trans hA2 hA0)
  have cx1 : W0.cell? ⟨w.heap.size, 1, none⟩ = some (.int .i64 i) := HX.out.cell 1
  have cx2 : W0.cell? ⟨w.heap.size, 2, none⟩ = some (.int .i64 c) := HX.out.cell 2
  have HF := Lib.hid (show ∀ W, Adds W0 W → W.cell? ⟨w.heap.size, 1, none⟩ = some (.int .i64 i) ∧ W.cell? ⟨w.heap.size, 2, none⟩ = some (.int .i64 c) from fun W ha => ⟨(HX.out.adds ha).cell 1, (HX.out.adds ha).cell 2⟩)
  have HNew := Lib.hid (fun W => new_live 0 (by decide) W)
  have HWk := Lib.hid works_any
  have hnn := seqW_not_nil
  have HNum := Lib.hid num_any
  clear hv hA0 hx2 hr2 hA2
  refine (callsIn_wide (n := 8)).1 ?_
  refine callsIn_of_wp_marks Try.func5 rfl trivial ?_ rfl
  simp only [Try.ntmps5, List.size_toArray, List.length_cons, List.length_nil, Nat.reduceAdd, Nat.reduceSub, Array.replicate_succ, Array.replicate_zero, List.push_toArray, List.append_toArray, List.nil_append, List.cons_append]
  cases zero
  all_goals
    simp only [Bool.false_eq_true, if_true, if_false] at hW0
    obtain ⟨rfl, hW0⟩ := hW0
    first | (guard_hyp hW0 : W0 = w2; subst hW0) | skip
    gi_wp2_with (first
      | (refine ⟨trivial, ?_⟩; gi_at_call 17; refine (callsIn_wide.2 (unread_none HV.out i c)).mono ?_; rintro e wa ⟨rfl, q⟩; have HA1 := Lib.hid q; obtain ⟨y1, y2⟩ := HF.out _ q; clear q)
      | (refine ⟨trivial, ?_⟩; gi_at_call 18; refine (callsIn_wide.2 (unwrite_none (HV.out.adds HA1.out) i)).mono ?_; rintro e wb ⟨rfl, q⟩; have HA2 := Lib.hid (Adds.trans HA1.out q); obtain ⟨x1, x2⟩ := HF.out _ HA2.out; clear q)
      | (refine ⟨trivial, ?_⟩; gi_at_call 19; refine (callsIn_wide.2 (writer_none (HV.out.adds HA2.out) i)).mono ?_; rintro e w' ⟨rfl, rfl⟩)
      | (refine ⟨trivial, ?_⟩; gi_at_call 20; refine (callsIn_wide.2 (taken_none (HV.out.adds HA2.out))).mono ?_; rintro e w3 ⟨rfl, k3, h3⟩; have HK3 := Lib.hid k3; have H3 := Lib.hid (Adds.trans HA2.out h3); clear k3 h3))
    have HV3 := Lib.hid (HV.out.adds H3.out)
    have HR3 := Lib.hid (HR.out.adds H3.out)
    have HA3 := Lib.hid (Adds.trans HA.out H3.out)
    clear hnn cx1 cx2 x1 x2 y1 y2 HX HR HV
    refine rangeFunc_0 rfl (by omega) (gf := 43) (lb := #[.pointer (some ⟨_, 0, none⟩)]) rfl trivial (enters_of Try.func43 (by kernel_rfl) rfl) ?seq ?done
    case seq =>
      intro l' W2 hb
      obtain ⟨lv, k1, k2, _⟩ := HK3.out.adds hb
      obtain rfl := List.map_eq_nil_iff.1 k2
      exact taken1_nil _ (by omega) l' _ W2 k1
    case done =>
      rintro D W2 hD hb hK
      have HbW := Lib.hid (show Adds w3 W2 from hb); have HKD := Lib.hid hK; have HDd := Lib.hid hD
      obtain ⟨c1, c2⟩ := HF.out _ (Adds.trans H3.out HbW.out)
      have HV4 := Lib.hid (HV3.out.adds HbW.out)
      clear hb hK hD
      gi_wp2_with (first
        | (refine ⟨trivial, ?_⟩; gi_at_call 8; refine (callsIn_wide.2 (HNew.out W2)).mono ?_; rintro e w4 ⟨v4, rfl, h1⟩; have A4 := Lib.hid h1.world; obtain ⟨O4, g4, _, _⟩ := h1; have HS1 := Lib.hid (fun W (ha : Adds w4 W) => sameW_nn _ (.pointer none) W (HV4.out.adds (Adds.trans A4.out ha)) (.inl rfl)); have HS2 := Lib.hid (fun W (ha : Adds w4 W) => sameW_mn v4 _ W (g4.adds ha) (HV4.out.adds (Adds.trans A4.out ha))); clear g4; obtain ⟨d1, d2⟩ := HF.out _ (Adds.trans H3.out (Adds.trans HbW.out A4.out)); clear HNew)
        | (refine ⟨trivial, ?_⟩; gi_at_call 10; refine (callsIn_wide.2 (HNum.out _ _)).mono ?_; rintro e w5 ⟨rfl, rfl⟩)
        | (refine ⟨trivial, ?_⟩; gi_at_call 21; refine (callsIn_wide.2 (read_none (HV4.out.adds A4.out) i c)).mono ?_; rintro e w6 ⟨rfl, q⟩; have B6 := Lib.hid q; have A6 := Lib.hid (Adds.trans A4.out q); obtain ⟨e1, e2⟩ := HF.out _ (Adds.trans H3.out (Adds.trans HbW.out A6.out)); clear q)
        | (refine ⟨trivial, ?_⟩; gi_at_call 22; refine (callsIn_wide.2 (write_none (HV4.out.adds A6.out) i c)).mono ?_; rintro e w7 ⟨rfl, q⟩; have B7 := Lib.hid (Adds.trans B6.out q); have A7 := Lib.hid (Adds.trans A6.out q); obtain ⟨f1, f2⟩ := HF.out _ (Adds.trans H3.out (Adds.trans HbW.out A7.out)); clear q)
        | (refine ⟨trivial, ?_⟩; gi_at_call 13; refine (callsIn_wide.2 (readers_none (HV4.out.adds A7.out) i)).mono ?_; rintro e w6 ⟨rfl, rfl⟩)
        | (refine ⟨trivial, ?_⟩; gi_at_call 23; refine (callsIn_wide.2 (len_none (HV4.out.adds A7.out))).mono ?_; rintro e w6 ⟨rfl, rfl⟩)
        | (refine ⟨trivial, ?_⟩; gi_at_call 14; refine (callsIn_wide.2 (copy_none (HV4.out.adds A7.out))).mono ?_; rintro e w6 ⟨rfl, rfl⟩)
        | (refine ⟨trivial, ?_⟩; gi_at_call 16; refine (callsIn_wide.2 (HS1.out _ B7.out)).mono ?_; rintro e w6 ⟨rfl, rfl⟩; clear HS1)
        | (refine ⟨trivial, ?_⟩; gi_at_call 16; refine (callsIn_wide.2 (HS2.out _ B7.out)).mono ?_; rintro e w6 ⟨rfl, rfl⟩; clear HS2)
        | (refine ⟨trivial, ?_⟩; gi_at_call 7; refine (callsIn_wide.2 (HWk.out _)).mono ?_; rintro e w8 ⟨rfl, q8⟩; have H8 := Lib.hid (Adds.trans A7.out q8); have hbx := (HR3.out.adds HbW.out).adds (Adds.trans A7.out q8); have c8 : w8.cell? ⟨b1, 0, none⟩ = some (.bool false) := hbx.cell 0; have f8 := hbx.free 0; have HBX8 := Lib.hid hbx; clear q8 hbx HWk))
      show LeavesInM _ _ _ _ _ _ _ _ _
      have hlt := HBX8.out.lt
      have hDW := (Array.getElem?_eq_some_iff.1 HKD.out).1
      have hK8 : w8.heap[D]? = some (.deferred (some [])) := (H8.out.block D hDW).trans HKD.out
      have hb3 := HR3.out.lt
      have hne : D ≠ b1 := by have := HDd.out; omega
      have hb9 := HBX8.out.set 0 (.bool true)
      refine marks_leave (B := w3.heap.size) (C := (w8.setCell ⟨b1, 0, none⟩ (.bool true)).heap.size) _ _ ⟨D, rfl, HDd.out, by simp [World.setCell]; exact (Array.getElem?_eq_some_iff.1 hK8).1, (Below.heap_setCell w8 _ _ D hne).trans hK8, trivial⟩ fun W' hW' => ⟨.bool true, results_box rfl Try.underlying4 _ _ _ (.bool true) rfl ((show BkS 4 W' b1 [.bool true] from (hW'.block _ hb3).trans hb9).cell 0), rfl, ?_⟩
      have h8 : Adds w w8 := Adds.trans HA3.out (Adds.trans HbW.out H8.out)
      exact Below.trans (Adds.set h8 (by have := HS.out; omega) 0 _) (Below.mono hW' HA3.out.size)
end Go.Proofs.Ythcdllchkdkikaa
