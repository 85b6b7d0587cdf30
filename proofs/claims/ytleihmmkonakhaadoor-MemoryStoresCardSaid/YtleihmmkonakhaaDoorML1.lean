/- The law MemoryNone, walked. -/
import Derived.Test.YtleihmmkonakhaaDoorMW1
namespace Go.Proofs.YtleihmmkonakhaaDoor
open Go Go.RowKit Go.Shelf Go.Maps
attribute [local go_sem] Oper.semAt_some

def TrueM (w : World) (e : Ending) (w' : World) : Prop := e = .returned (.bool true) ∧ Adds w w'
theorem seq2_not_nil (fn : Fn) (a b : Array Value) (W : World) : (binOp .eql 43 (.func fn a b) .nilFunc).run Tryd.prog W = .ok (.bool false) W := by kernel_rfl
theorem none_cells : IsCells (fun _ => 0) [] := ⟨List.Pairwise.nil, fun x => by simp⟩

/-- All that is asked of none, behind the range. -/
structure NoneFam (w : World) (v : Value) (a : Nat) : Prop where
  store : ∀ W l, Adds w W → Calls Tryd.prog 12 #[v, l] W fun e w' => e = .returned (.int .i64 1) ∧ W = w'
  load : ∀ W, Adds w W → Calls Tryd.prog 22 #[v, .int .u32 ((a : Nat) : Int)] W fun e w' => e = .returned (.int .u32 0) ∧ W = w'
  len : ∀ W, Adds w W → Calls Tryd.prog 23 #[v] W fun e w' => e = .returned (.int .i64 0) ∧ W = w'
  pages : ∀ W, Adds w W → Calls Tryd.prog 24 #[v] W fun e w' => e = .returned (.slice none 0 0) ∧ W = w'
  dig : ∀ W, Adds w W → Calls Tryd.prog 15 #[v] W fun e w' => e = .returned (.int .u64 0) ∧ Adds W w'
  copy : ∀ W, Adds w W → Calls Tryd.prog 20 #[v] W fun e w' => e = .returned (.pointer none) ∧ W = w'
  same : ∀ W, Adds w W → Calls Tryd.prog 14 #[v, .pointer none] W fun e w' => e = .returned (.bool true) ∧ W = w'
  same2 : ∀ W u bm b S L, Adds w W → MemP W u S bm b L → Calls Tryd.prog 14 #[u, v] W fun e w' => e = .returned (.bool false) ∧ W = w'
theorem NoneFam.of {w : World} {v : Value} (a : Nat) (h : NoMem w v) : NoneFam w v a where
  store W l hA := storeM_no v l W (h.adds hA)
  load W hA := loadM_no a v W (h.adds hA)
  len W hA := lenM_no v W (h.adds hA)
  pages W hA := pagesM_no v W (h.adds hA)
  dig W hA := digestM_no v W (h.adds hA)
  copy W hA := copyM_no v W (h.adds hA)
  same W hA := sameM_nn v (.pointer none) W (h.adds hA) (.inl rfl)
  same2 W u bm b S L hA hM := sameM_mn u v bm b S L W hM (h.adds hA)

set_option maxRecDepth 100000 in
set_option maxHeartbeats 8000000 in
theorem law_noneM (a : Nat) (ha : a < 4294967296) (zero : Bool) (w : World) (hw : Widths w) :
    Calls Tryd.prog 6 #[.int .u32 ((a : Nat) : Int), .bool zero] w (TrueM w) := by
  have HW := Lib.hid hw; clear hw
  have HNum := Lib.hid numM_any
  have HOf := Lib.hid (fun W => refOf_any (n := 0) (.slice none 0 0) [] W (Bytes.nil W))
  rw [sumS_nil] at HOf
  have hnn := seq2_not_nil
  refine (callsIn_wide (n := 9)).1 ?_
  refine callsIn_of_wp_marks Tryd.func6 rfl trivial ?_ rfl
  simp only [Tryd.ntmps6, List.size_toArray, List.length_cons, List.length_nil, Nat.reduceAdd, Nat.reduceSub, Array.replicate_succ, Array.replicate_zero, List.push_toArray, List.append_toArray, List.nil_append, List.cons_append]
  have HFr := Lib.hid (fun v W (h : NoMem W v) => fromM_no a v W h)
  have HZ : Hid (∃ W0 v, Adds w W0 ∧ NoMem W0 v ∧ W0.heap[w.heap.size]? = some (.cells #[.bool false] 4 (0, 0)) ∧ W0 = (if zero then (w.alloc (.cells #[.bool false] 4)).alloc (.cells #[.map none] 52) else w.alloc (.cells #[.bool false] 4)) ∧ v = (if zero then .pointer (some ⟨w.heap.size + 1, 0, none⟩) else .pointer none)) := Lib.hid (by
    cases zero
    · exact ⟨_, _, Adds.new _ _, .inl rfl, World.alloc_heap_new _ _, rfl, rfl⟩
    · refine ⟨_, _, (Adds.new _ _).trans (Adds.new _ _), .inr ⟨_, rfl, ?_⟩, ?_, rfl, rfl⟩
      · simp
      · exact (Below.heap_alloc _ _ _ (by simp)).trans (World.alloc_heap_new _ _))
  obtain ⟨W0, v, hz1, hz2, hz3, hz4, hz5⟩ := HZ.out
  have HA0 := Lib.hid hz1; have HN0 := Lib.hid hz2; have HB0 := Lib.hid hz3
  have HF0 := Lib.hid (HFr.out v W0 hz2)
  clear HZ hz1 hz2 hz3 HFr
  cases zero
  all_goals
    simp only [Bool.false_eq_true, if_true, if_false] at hz4 hz5
    have HZ4 := Lib.hid hz4; have HZ5 := Lib.hid hz5
    rw [HZ4.out, HZ5.out] at HF0
    clear hz4 hz5
    gi_wp2_with (refine ⟨trivial, ?_⟩; gi_at_call 18; refine (callsIn_wide.2 HF0.out).mono ?_; rintro e w2 ⟨fv, rfl, h4, h5⟩; obtain ⟨b, L, B1, B2, rfl, q1, q2, q3, _⟩ := h4; have Q1 := Lib.hid q1; have Q2 := Lib.hid (And.intro q2 q3); have Q5 := Lib.hid h5; clear q1 q2 q3 h5)
    have Q5' : Adds W0 w2 := HZ4.out ▸ Q5.out
    have HFam := Lib.hid (HZ5.out ▸ NoneFam.of a (HN0.out.adds Q5'))
    have HAd := Lib.hid (Adds.trans HA0.out Q5')
    have HBx := Lib.hid ((Q5'.block _ (Array.getElem?_eq_some_iff.1 HB0.out).1).trans HB0.out)
    clear Q5' Q5 HF0
    have hfull : psL (fun _ => 0) a (sortU (L.map (·.1))) = [] := by rw [from_cells Q1.out none_cells a]; rfl
    have HSQ := Lib.hid (from_seqS 8 (by omega) B1 B2 b (fun _ => False) _ L a ha w2 (fun _ h => h.elim) id id (fun _ _ h => h) Q2.out.1 Q2.out.2 Q1.out)
    rw [hfull] at HSQ
    have HBb := Lib.hid (show b < w2.heap.size from Q1.out.map.lt)
    clear hfull Q1 Q2
    refine' rangeFunc_S rfl (by omega) (gf := 49) (lb := #[.pointer (some ⟨B1, 0, none⟩), .pointer (some ⟨B2, 0, none⟩)]) rfl trivial (enters_of Tryd.func49 (by kernel_rfl) rfl) HSQ.out
      KeepF.trans (fun W l o o' hl h hc _ => KeepF.put W l o o' h hc (by have := HBb.out; omega)) (Below.refl _ _) (fun _ => rfl)
      (fun pre V => Below w2.heap.size w2 V) (fun _ _ _ => False) ?own ?ownx ?h0 _ ?assign ?body ?done ?stop
    case assign =>
      intro l2 x W2 K hK
      have HK := Lib.hid hK; clear hK
      gi_wp2
      exact HK.out
    case own => exact fun z A C hs hb => Below.trans hs hb
    case ownx => exact fun cc z A C hs hb => hs.elim
    case h0 => exact Below.refl _ _
    case body =>
      rintro l2 pre x W2 hb ⟨r, hr⟩
      simp at hr
    case stop => exact fun D c pre W _ _ h => h.elim
    case done =>
      rintro D xs W2 hD hS hb hK
      have HbW := Lib.hid (show Adds w2 W2 from hb); have HKD := Lib.hid hK; have HDd := Lib.hid hD
      clear hb hK hD hS
      have HTok := Lib.hid trivial
      have HWk := Lib.hid (fun (W : World) (h : Adds w2 W) => worksM_any W (HW.out.below (Adds.trans HAd.out h)))
      gi_wp2_with (first
        | (refine ⟨trivial, ?_⟩; gi_at_call 12; refine (callsIn_wide.2 (HFam.out.store _ _ HbW.out)).mono ?_; rintro e w3 ⟨rfl, rfl⟩)
        | (refine ⟨trivial, ?_⟩; gi_at_call 11; refine (callsIn_wide.2 (HNum.out _ _)).mono ?_; rintro e w3 ⟨rfl, rfl⟩)
        | (refine ⟨trivial, ?_⟩; gi_at_call 22; refine (callsIn_wide.2 (HFam.out.load _ HbW.out)).mono ?_; rintro e w3 ⟨rfl, rfl⟩)
        | (refine ⟨trivial, ?_⟩; gi_at_call 23; refine (callsIn_wide.2 (HFam.out.len _ HbW.out)).mono ?_; rintro e w3 ⟨rfl, rfl⟩)
        | (refine ⟨trivial, ?_⟩; gi_at_call 24; refine (callsIn_wide.2 (HFam.out.pages _ HbW.out)).mono ?_; rintro e w3 ⟨rfl, rfl⟩)
        | (refine ⟨trivial, ?_⟩; gi_at_call 15; refine (callsIn_wide.2 (HFam.out.dig _ HbW.out)).mono ?_; rintro e w4 ⟨rfl, q4⟩; have H4 := Lib.hid q4; clear q4)
        | (refine ⟨trivial, ?_⟩; gi_at_call 25; refine (callsIn_wide.2 (HOf.out w4)).mono ?_; rintro e w5 ⟨rfl, rfl⟩)
        | (refine ⟨trivial, ?_⟩; gi_at_call 20; refine (callsIn_wide.2 (HFam.out.copy _ (Adds.trans HbW.out H4.out))).mono ?_; rintro e w5 ⟨rfl, rfl⟩)
        | (have _t := HTok; refine ⟨trivial, ?_⟩; gi_at_call 14; refine (callsIn_wide.2 (HFam.out.same _ (Adds.trans HbW.out H4.out))).mono ?_; rintro e w5 ⟨rfl, rfl⟩; clear HTok)
        | (refine ⟨trivial, ?_⟩; gi_at_call 9; refine (callsIn_wide.2 (newM_any w4)).mono ?_; rintro e w6 ⟨bm, b2, rfl, q6, q7, _, _⟩; have H6 := Lib.hid (Adds.trans H4.out q7); have HM6 := Lib.hid q6; clear q6 q7)
        | (refine ⟨trivial, ?_⟩; gi_at_call 14; refine (callsIn_wide.2 (HFam.out.same2 _ _ _ _ _ _ (Adds.trans HbW.out H6.out) HM6.out)).mono ?_; rintro e w7 ⟨rfl, rfl⟩)
        | (refine ⟨trivial, ?_⟩; gi_at_call 8; refine (callsIn_wide.2 (HWk.out _ (Adds.trans HbW.out H6.out))).mono ?_; rintro e w8 ⟨rfl, q8⟩; have H8 := Lib.hid (Adds.trans H6.out q8); have hbx : w8.heap[w.heap.size]? = some (.cells #[.bool false] 4 (0, 0)) := ((Adds.trans HbW.out H8.out).block _ (Array.getElem?_eq_some_iff.1 HBx.out).1).trans HBx.out; have c8 := (cell_of_box_a hbx).1; have f8 := (cell_of_box_a hbx).2; have HBX8 := Lib.hid hbx; clear q8 hbx))
      show LeavesInM _ _ _ _ _ _ _ _ _
      have hlt := (Array.getElem?_eq_some_iff.1 HBx.out).1
      have hDW := (Array.getElem?_eq_some_iff.1 HKD.out).1
      have hK8 : w8.heap[D]? = some (.deferred (some [])) := (H8.out.block D hDW).trans HKD.out
      have hne : D ≠ w.heap.size := by have := HDd.out; omega
      have hb9 : (w8.setCell ⟨w.heap.size, 0, none⟩ (.bool true)).heap[w.heap.size]? = some (.cells #[.bool true] 4 (0, 0)) := heap_setCell_box_a _ HBX8.out
      refine marks_leave (B := w2.heap.size) (C := (w8.setCell ⟨w.heap.size, 0, none⟩ (.bool true)).heap.size) _ _ ⟨D, rfl, HDd.out, by simp [World.setCell]; exact (Array.getElem?_eq_some_iff.1 hK8).1, (Below.heap_setCell w8 _ _ D hne).trans hK8, trivial⟩ fun W' hW' => ⟨.bool true, results_box rfl Tryd.underlying4 _ _ _ (.bool true) rfl (cell_of_box_a ((hW'.block _ hlt).trans hb9)).1, rfl, ?_⟩
      have h8 : Adds w w8 := Adds.trans HAd.out (Adds.trans HbW.out H8.out)
      exact (Below.setCell h8 (p := ⟨w.heap.size, 0, none⟩) (Nat.le_refl _) _).trans (hW'.mono HAd.out.size)
end Go.Proofs.YtleihmmkonakhaaDoor
