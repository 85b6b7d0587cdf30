/- The document's Add, Count, Done: their contracts. -/
import Derived.Test.YtedllkahalfjgaaYR1
namespace Go.Proofs.Ytedllkahalfjgaa
open Go Go.RowKit

def RefGo (w : World) (l' : List Int) (r : Value → Value) (e : Ending) (w' : World) : Prop := ∃ v', e = .returned (r v') ∧ RefG w' v' l' ∧ Adds w w'
set_option maxRecDepth 100000 in
set_option maxHeartbeats 4000000 in
theorem refAdd_any (v : Value) (l : List Int) (hl : l.length ≤ 64) (hm : OkQ l) (i n : Int) (hn : -9223372036854775808 ≤ n ∧ n ≤ 9223372036854775807) (w : World) (h : RefG w v l) :
    Calls Try.prog 55 #[v, .int .i64 i, .int .i64 n] w (RefGo w (addL l i n) fun v' => .tuple #[v', .int .i64 (addW l i n), .int .i64 (addE l i n)]) := by
  obtain ⟨g, cap, rfl⟩ := h.val
  obtain ⟨wa, hwa⟩ : ∃ wa, w.alloc (.cells #[.slice (some ⟨g, 0, none⟩) l.length cap] 53) = wa := ⟨_, rfl⟩
  have hA : Adds w wa := by rw [← hwa]; exact (Gr.new _ _).adds
  have ba : BkS 53 wa w.heap.size [.slice (some ⟨g, 0, none⟩) l.length cap] := by rw [← hwa]; exact BkS.new _ _ _
  obtain ⟨wb, hwb⟩ : ∃ wb, wa.alloc (.cells #[.slice none 0 0] 53) = wb := ⟨_, rfl⟩
  have hB : Adds wa wb := by rw [← hwb]; exact (Gr.new _ _).adds
  have bb : BkS 53 wb wa.heap.size [.slice none 0 0] := by rw [← hwb]; exact BkS.new _ _ _
  have hsa : wa.heap.size = w.heap.size + 1 := by rw [← hwa]; simp
  have hsb : wb.heap.size = wa.heap.size + 1 := by rw [← hwb]; simp
  obtain ⟨n1, hn1⟩ : ∃ n1, wa.heap.size = n1 := ⟨_, rfl⟩
  rw [hn1] at bb hsa hsb
  have ba := ba.adds hB
  have hR := (h.adds hA).adds hB
  have HR := Lib.hid hR
  have HA := Lib.hid (Adds.trans hA hB)
  have HB := Lib.hid bb
  have HBa := Lib.hid ba
  have HS := Lib.hid (And.intro hsa hsb)
  have ca : wb.cell? ⟨w.heap.size, 0, none⟩ = some (.slice (some ⟨g, 0, none⟩) l.length cap) := ba.cell 0
  have cb : wb.cell? ⟨n1, 0, none⟩ = some (.slice none 0 0) := bb.cell 0
  have fb := bb.free 0
  have hlI : (l.length : Int) ≤ 64 := by omega
  have HV := Lib.hid hm
  clear hA ba hB bb hR hsa hsb h hm
  unfold addL addW
  by_cases hi : 0 ≤ i ∧ i < l.length
  · obtain ⟨k, rfl, hk, cg⟩ := atQ_cell HR.out hi.1 hi.2
    have hk0 : ¬ ((k : Nat) : Int) < 0 := by omega
    have hk1 : ((k : Nat) : Int) < (l.length : Int) := by omega
    obtain ⟨x0, x1⟩ := atQ_may HV.out (k : Int)
    by_cases hf : -(atQ l (k : Int)) ≤ n ∧ n ≤ 2147483647 - atQ l (k : Int)
    · have hE : addE l (k : Int) n = 0 := by unfold addE; rw [if_pos hi, if_pos hf]
      rw [hE, if_pos rfl, if_pos rfl, Int.toNat_natCast]
      obtain ⟨f0, f1⟩ := hf
      have HG := Lib.hid (show ∀ W, Adds wb W → RefG W (.agg #[.slice (some ⟨g, 0, none⟩) l.length cap]) l from fun W ha => HR.out.adds ha)
      have HK := Lib.hid hk; have HL := Lib.hid hl
      have HY := Lib.hid (show l.getD k 0 = atQ l (k : Int) from (atQ_nat l k).symm)
      generalize atQ l (k : Int) = x at *
      have hw1 : IntKind.i64.wrap (x + n) = x + n := by rw [IntKind.wrap_i64]; omega
      have hw2 : IntKind.i64.wrap (-x) = -x := by rw [IntKind.wrap_i64]; omega
      have hw3 : IntKind.i64.wrap (2147483647 - x) = 2147483647 - x := by rw [IntKind.wrap_i64]; omega
      have hg1 : ¬ 2147483647 - x < n := by omega
      have hg2 : ¬ n < -x := by omega
      obtain ⟨wc, hwc⟩ : ∃ wc, wb.alloc (.cells #[] 2) = wc := ⟨_, rfl⟩
      have hC : Adds wb wc := by rw [← hwc]; exact (Gr.new _ _).adds
      have ho : wc.ownsRow wb.heap.size 2 1 (.slice (some ⟨wb.heap.size, 0, none⟩) 0 0) 0 [] := by
        have := World.ownsRow_lit (size := 1) (e := 2) wb #[] 0 (Nat.le_refl _) (by unfold maxLen; omega) (by simp)
        rw [hwc] at this
        simpa using this
      have HC := Lib.hid hC
      have HO := Lib.hid ho
      obtain ⟨n2, hn2⟩ : ∃ n2, wb.heap.size = n2 := ⟨_, rfl⟩
      rw [hn2] at HO HS
      have HCZ := Lib.hid (show n2 ≤ wc.heap.size by rw [← hn2]; exact hC.size)
      have HI := Lib.hid (show l ≠ [] by rintro rfl; exact absurd HK.out (by simp))
      have ca2 : wc.cell? ⟨w.heap.size, 0, none⟩ = some (.slice (some ⟨g, 0, none⟩) l.length cap) := Adds.cellAt hC ca
      clear hi hk hl hE hC ho f0 f1 fb cb
      go_enter Try.func55, Try.ntmps55
      go_wp2_with (at_builtin; refine wpList_appQ rfl _ _ rfl n2 rfl (by exact HO.out) g cap l rfl (HG.out _ HC.out).cells.2 HL.out HI.out (by exact HCZ.out) ?_; intro g3 cap3 w3 h3 hr3 hg3; have H3 := Lib.hid h3; have HR3 := Lib.hid hr3; have HG3 := Lib.hid hg3; have hs3 : w3.cell? ⟨g3, k, none⟩ = some (.int .i64 x) := (by rw [hr3.cells.2 k HK.out, HY.out]); have hf3 : w3.frozen? ⟨g3, k, none⟩ = false := hr3.free k; have hbb : BkS 53 w3 n1 [.slice none 0 0] := (hg3.block n1 (HB.out.adds HC.out).lt (fun e => by cases e; have := HS.out; omega)).trans (HB.out.adds HC.out); have HB3 := Lib.hid hbb; clear h3 hr3 hg3 hbb)
      have hne : n1 ≠ g3 := by have := HS.out; have := H3.out; omega
      have hne' : g3 ≠ n1 := fun e => hne e.symm
      have HR4 := Lib.hid (HR3.out.set HK.out (x + n))
      have HB4 := Lib.hid (HB3.out.other (c := g3) (i := k) hne' (.int .i64 (x + n)))
      have ha3 : Adds w w3 := by
        have hc := Adds.trans HA.out HC.out
        exact ⟨HG3.out.os.trans hc.os, HG3.out.tape.trans hc.tape, HG3.out.output.trans hc.output, Nat.le_trans hc.size HG3.out.size, fun i hi => (HG3.out.block i (Nat.lt_of_lt_of_le hi hc.size) (fun e => by cases e; have := HS.out; omega)).trans (hc.block i hi)⟩
      have HA4 := Lib.hid (Adds.set ha3 (b := g3) (by have := HS.out; have := H3.out; omega) k (.int .i64 (x + n)))
      have hc4 : (w3.setCell ⟨g3, k, none⟩ (.int .i64 (x + n))).drew.cell? ⟨g3, k, none⟩ = some (.int .i64 (x + n)) := by
        have := (HR4.out).cells.2 k (by rw [List.length_set]; exact HK.out)
        rw [List.getD_eq_getElem?_getD, List.getElem?_set_self HK.out] at this
        exact this
      have hb4 : (w3.setCell ⟨g3, k, none⟩ (.int .i64 (x + n))).drew.cell? ⟨n1, 0, none⟩ = some (.slice none 0 0) := HB4.out.cell 0
      have hbf4 : (w3.setCell ⟨g3, k, none⟩ (.int .i64 (x + n))).drew.frozen? ⟨n1, 0, none⟩ = false := HB4.out.free 0
      obtain ⟨w4, hw4⟩ : ∃ w4, w3.setCell ⟨g3, k, none⟩ (.int .i64 (x + n)) = w4 := ⟨_, rfl⟩
      rw [hw4] at hc4 hb4 hbf4 HR4 HB4 HA4 ⊢
      clear hw4 ha3 ca2 hs3 hf3
      have hc5 : w4.cell? ⟨g3, k, none⟩ = some (.int .i64 (x + n)) := hc4
      have hn5 : ¬ n1 = g3 := hne
      have hn6 : ¬ g3 = n1 := hne'
      go_region
      all_goals
        simp only [Exit.then]
        go_simp
        go_wp2
        refine bodyPost_ret (res_box3Q rfl _ _ _ _ _ _ _ rfl ((HB4.out.adds (Adds.drew w4)).set 0 (.slice (some ⟨g3, 0, none⟩) l.length cap3)) Try.underlying53 rfl (by kernel_rfl)) rfl ?_
        exact ⟨_, rfl, (HR4.out.adds (Adds.drew w4)).far (HB4.out.adds (Adds.drew w4)) 0 _, Adds.set (Adds.trans HA4.out (Adds.drew w4)) (by have := HS.out; omega) 0 _⟩
    · have hE : addE l (k : Int) n = 250 := by unfold addE; rw [if_pos hi, if_neg hf]
      rw [hE, if_neg (by decide), if_neg (by decide)]
      generalize atQ l (k : Int) = x at *
      have hw2 : IntKind.i64.wrap (-x) = -x := by rw [IntKind.wrap_i64]; omega
      have hw3 : IntKind.i64.wrap (2147483647 - x) = 2147483647 - x := by rw [IntKind.wrap_i64]; omega
      by_cases hg1 : 2147483647 - x < n
      · clear hi hk hl hE hf
        go_enter Try.func55, Try.ntmps55
        go_wp2
        refine bodyPost_ret (res_box3Q rfl _ _ _ _ _ _ _ rfl (HB.out.set 0 (.slice (some ⟨g, 0, none⟩) l.length cap)) Try.underlying53 rfl (by kernel_rfl)) rfl ?_
        exact ⟨_, rfl, HR.out.far HB.out 0 _, Adds.set HA.out (by have := HS.out; omega) 0 _⟩
      · have hg2 : n < -x := by omega
        clear hi hk hl hE hf
        go_enter Try.func55, Try.ntmps55
        go_wp2
        refine bodyPost_ret (res_box3Q rfl _ _ _ _ _ _ _ rfl (HB.out.set 0 (.slice (some ⟨g, 0, none⟩) l.length cap)) Try.underlying53 rfl (by kernel_rfl)) rfl ?_
        exact ⟨_, rfl, HR.out.far HB.out 0 _, Adds.set HA.out (by have := HS.out; omega) 0 _⟩
  · have hE : addE l i n = 4 := by unfold addE; rw [if_neg hi]
    rw [hE, if_neg (by decide), if_neg (by decide)]
    by_cases h1 : i < 0
    · clear hi hl hE
      go_enter Try.func55, Try.ntmps55
      go_wp2
      refine bodyPost_ret (res_box3Q rfl _ _ _ _ _ _ _ rfl (HB.out.set 0 (.slice (some ⟨g, 0, none⟩) l.length cap)) Try.underlying53 rfl (by kernel_rfl)) rfl ?_
      exact ⟨_, rfl, HR.out.far HB.out 0 _, Adds.set HA.out (by have := HS.out; omega) 0 _⟩
    · have h2 : (l.length : Int) ≤ i := by omega
      clear hi hl hE
      go_enter Try.func55, Try.ntmps55
      go_wp2
      refine bodyPost_ret (res_box3Q rfl _ _ _ _ _ _ _ rfl (HB.out.set 0 (.slice (some ⟨g, 0, none⟩) l.length cap)) Try.underlying53 rfl (by kernel_rfl)) rfl ?_
      exact ⟨_, rfl, HR.out.far HB.out 0 _, Adds.set HA.out (by have := HS.out; omega) 0 _⟩
set_option maxRecDepth 100000 in
set_option maxHeartbeats 4000000 in
theorem refCount_any (v : Value) (l : List Int) (hl : l.length ≤ 64) (i : Int) (w : World) (h : RefG w v l) :
    Calls Try.prog 56 #[v, .int .i64 i] w fun e w' => e = .returned (.int .i64 (atQ l i)) ∧ Adds w w' := by
  obtain ⟨g, cap, rfl⟩ := h.val
  obtain ⟨wa, hwa⟩ : ∃ wa, w.alloc (.cells #[.slice (some ⟨g, 0, none⟩) l.length cap] 53) = wa := ⟨_, rfl⟩
  have hA : Adds w wa := by rw [← hwa]; exact (Gr.new _ _).adds
  have ba : BkS 53 wa w.heap.size [.slice (some ⟨g, 0, none⟩) l.length cap] := by rw [← hwa]; exact BkS.new _ _ _
  have hR := h.adds hA
  have HR := Lib.hid hR
  have HA := Lib.hid hA
  have ca : wa.cell? ⟨w.heap.size, 0, none⟩ = some (.slice (some ⟨g, 0, none⟩) l.length cap) := ba.cell 0
  have hlI : (l.length : Int) ≤ 64 := by omega
  clear hA ba hR h
  by_cases hi : 0 ≤ i ∧ i < l.length
  · obtain ⟨k, rfl, hk, cg⟩ := atQ_cell HR.out hi.1 hi.2
    have hk0 : ¬ ((k : Nat) : Int) < 0 := by omega
    have hk1 : ((k : Nat) : Int) < (l.length : Int) := by omega
    generalize atQ l (k : Int) = x at *
    clear hi hk hl
    go_enter Try.func56, Try.ntmps56
    go_wp2
    go_ret
    exact ⟨rfl, HA.out⟩
  · rw [atQ_no hi]
    by_cases h1 : i < 0
    · clear hi hl
      go_enter Try.func56, Try.ntmps56
      go_wp2
      go_ret
      exact ⟨rfl, HA.out⟩
    · have h2 : (l.length : Int) ≤ i := by omega
      clear hi hl
      go_enter Try.func56, Try.ntmps56
      go_wp2
      go_ret
      exact ⟨rfl, HA.out⟩
set_option maxRecDepth 100000 in
set_option maxHeartbeats 4000000 in
theorem refDone_any (v : Value) (l : List Int) (hl : l.length ≤ 64) (i : Int) (w : World) (h : RefG w v l) :
    Calls Try.prog 57 #[v, .int .i64 i] w fun e w' => e = .returned (.bool (doneQ l i)) ∧ Adds w w' := by
  obtain ⟨g, cap, rfl⟩ := h.val
  obtain ⟨wa, hwa⟩ : ∃ wa, w.alloc (.cells #[.slice (some ⟨g, 0, none⟩) l.length cap] 53) = wa := ⟨_, rfl⟩
  have hA : Adds w wa := by rw [← hwa]; exact (Gr.new _ _).adds
  have ba : BkS 53 wa w.heap.size [.slice (some ⟨g, 0, none⟩) l.length cap] := by rw [← hwa]; exact BkS.new _ _ _
  have hR := h.adds hA
  have HR := Lib.hid hR
  have HA := Lib.hid hA
  have ca : wa.cell? ⟨w.heap.size, 0, none⟩ = some (.slice (some ⟨g, 0, none⟩) l.length cap) := ba.cell 0
  have hlI : (l.length : Int) ≤ 64 := by omega
  clear hA ba hR h
  unfold doneQ hasQ
  by_cases hi : 0 ≤ i ∧ i < l.length
  · rw [decide_eq_true hi, Bool.true_and]
    obtain ⟨k, rfl, hk, cg⟩ := atQ_cell HR.out hi.1 hi.2
    have hk0 : ¬ ((k : Nat) : Int) < 0 := by omega
    have hk1 : ((k : Nat) : Int) < (l.length : Int) := by omega
    generalize atQ l (k : Int) = x at *
    clear hi hk hl
    by_cases hx : x = 0
    · subst hx
      go_enter Try.func57, Try.ntmps57
      go_wp2
      go_ret
      exact ⟨rfl, HA.out⟩
    · have hb : (x == 0) = false := by simpa using hx
      rw [decide_eq_false hx]
      clear hx
      go_enter Try.func57, Try.ntmps57
      go_wp2
      go_ret
      exact ⟨rfl, HA.out⟩
  · rw [decide_eq_false hi, Bool.false_and]
    by_cases h1 : i < 0
    · clear hi hl
      go_enter Try.func57, Try.ntmps57
      go_wp2
      go_ret
      exact ⟨rfl, HA.out⟩
    · have h2 : (l.length : Int) ≤ i := by omega
      clear hi hl
      go_enter Try.func57, Try.ntmps57
      go_wp2
      go_ret
      exact ⟨rfl, HA.out⟩
end Go.Proofs.Ytedllkahalfjgaa
