/- act: Unread. -/
import Derived.Test.YtedllkahalfjgaaWA
import Derived.Test.YtedllkahalfjgaaWR5
namespace Go.Proofs.Ytedllkahalfjgaa
open Go Go.RowKit
set_option maxRecDepth 100000 in
set_option maxHeartbeats 16000000 in
theorem act_unread4 {m : Nat} {w : World} {v s : Value} {O R : Nat → Prop} {ls : List Lk} (i c : Int) (hm : m ≤ 1000000) (hM : HasL m w v O ls) (hRO : ∀ k, R k → ¬ O k) (hR : RefW R w s ls) :
    Calls Try.prog 13 #[v, .agg #[s], .agg #[.int .i64 4, .int .i64 i, .int .i64 c]] w (ActW m w O R (unreadL ls i c)) := by
  have hl := hM.len
  have hf : FewL ls := few_ok hM hm
  obtain ⟨g, cap, rfl, _, _⟩ := hR.form
  obtain ⟨w1, hw1⟩ : ∃ w1, w.alloc (.cells #[.slice (some ⟨g, 0, none⟩) ls.length cap] 30) = w1 := ⟨_, rfl⟩
  obtain ⟨w2, hw2⟩ : ∃ w2, w1.alloc (.cells #[.int .i64 4, .int .i64 i, .int .i64 c] 37) = w2 := ⟨_, rfl⟩
  obtain ⟨w3, hw3⟩ : ∃ w3, w2.alloc (.cells #[.slice none 0 0] 30) = w3 := ⟨_, rfl⟩
  have a1 : Adds w w1 := by rw [← hw1]; exact (Gr.new _ _).adds
  have a2 : Adds w1 w2 := by rw [← hw2]; exact (Gr.new _ _).adds
  have a3 : Adds w2 w3 := by rw [← hw3]; exact (Gr.new _ _).adds
  obtain ⟨n0, hn0⟩ : ∃ n0, w.heap.size = n0 := ⟨_, rfl⟩
  obtain ⟨n1, hn1⟩ : ∃ n1, w1.heap.size = n1 := ⟨_, rfl⟩
  obtain ⟨n2, hn2⟩ : ∃ n2, w2.heap.size = n2 := ⟨_, rfl⟩
  have HS := Lib.hid (show n0 = w.heap.size ∧ n1 = w.heap.size + 1 ∧ n2 = w.heap.size + 2 by rw [← hn0, ← hn1, ← hn2, ← hw2, ← hw1]; simp)
  have x0 : BkS 30 w3 n0 [.slice (some ⟨g, 0, none⟩) ls.length cap] := by
    have h := BkS.new 30 w [.slice (some ⟨g, 0, none⟩) ls.length cap]
    rw [hw1, hn0] at h
    exact (h.adds a2).adds a3
  have x1 : BkS 37 w3 n1 [.int .i64 4, .int .i64 i, .int .i64 c] := by
    have h := BkS.new 37 w1 [.int .i64 4, .int .i64 i, .int .i64 c]
    rw [hw2, hn1] at h
    exact h.adds a3
  have x2 : BkS 30 w3 n2 [.slice none 0 0] := by
    have h := BkS.new 30 w2 [.slice none 0 0]
    rw [hw3, hn2] at h
    exact h
  have HA := Lib.hid (Adds.trans a1 (Adds.trans a2 a3))
  have HM := Lib.hid (hM.adds HA.out)
  have HR := Lib.hid (hR.adds HA.out)
  have HRO := Lib.hid hRO
  clear hRO
  have HO := Lib.hid hM.lt
  have X0 := Lib.hid x0; have X1 := Lib.hid x1; have X2 := Lib.hid x2
  have c0 : w3.cell? ⟨n0, 0, none⟩ = some (.slice (some ⟨g, 0, none⟩) ls.length cap) := x0.cell 0
  have d0 : w3.cell? ⟨n1, 0, none⟩ = some (.int .i64 4) := x1.cell 0
  have d1 : w3.cell? ⟨n1, 1, none⟩ = some (.int .i64 i) := x1.cell 1
  have d2 : w3.cell? ⟨n1, 2, none⟩ = some (.int .i64 c) := x1.cell 2
  have e0 : w3.cell? ⟨n2, 0, none⟩ = some (.slice none 0 0) := x2.cell 0
  have f0 := x2.free 0
  have h02 : ¬ n0 = n2 := by have := HS.out; omega
  have h20 : ¬ n2 = n0 := by have := HS.out; omega
  have h12 : ¬ n1 = n2 := by have := HS.out; omega
  have h21 : ¬ n2 = n1 := by have := HS.out; omega
  clear a1 a2 a3 x0 x1 x2 hM hR
  have HK := Lib.hid (fun (W : World) (hW : Adds w3 W) => unreadW_any (HM.out.adds hW) i c hm)
  have HF := Lib.hid (refUnread_any i c w3 HR.out hl hf)
  clear hl hf hm
  obtain ⟨L', hL'⟩ : ∃ x, unreadL ls i c = x := ⟨_, rfl⟩
  obtain ⟨E, hE⟩ : ∃ x, unreadE ls i c = x := ⟨_, rfl⟩
  obtain ⟨Y, hY⟩ : ∃ x, unreadW ls i c = x := ⟨_, rfl⟩
  rw [hL', hE, hY] at HK HF
  rw [hL']
  clear hL' hE hY
  go_enter Try.func13, Try.ntmps13
  go_wp2_with (first
    | (go_at_call 41; refine HF.out.mono ?_; rintro e w4 ⟨u4, rfl, h1, h2⟩; obtain ⟨g4, cap4, rfl, _, _⟩ := h1.form; obtain ⟨w5, hw5⟩ : ∃ w5, w4.alloc (.cells #[.slice (some ⟨g4, 0, none⟩) L'.length cap4] 30) = w5 := ⟨_, rfl⟩; have h5 : Adds w3 w5 := Adds.trans h2 (by rw [← hw5]; exact (Gr.new _ _).adds); have x9 : BkS 30 w5 w4.heap.size [.slice (some ⟨g4, 0, none⟩) L'.length cap4] := (by rw [← hw5]; exact BkS.new _ _ _); obtain ⟨n9, hn9⟩ : ∃ n9, w4.heap.size = n9 := ⟨_, rfl⟩; rw [hn9] at x9; have H9 := Lib.hid (show w3.heap.size ≤ n9 by rw [← hn9]; exact h2.size); have c9 : w5.cell? ⟨n9, 0, none⟩ = some (.slice (some ⟨g4, 0, none⟩) L'.length cap4) := x9.cell 0; have p1 : w5.cell? ⟨n1, 1, none⟩ = some (.int .i64 i) := (X1.out.adds h5).cell 1; have p2 : w5.cell? ⟨n1, 2, none⟩ = some (.int .i64 c) := (X1.out.adds h5).cell 2; have p3 : w5.cell? ⟨n2, 0, none⟩ = some (.slice none 0 0) := (X2.out.adds h5).cell 0; have p4 := (X2.out.adds h5).free 0; have X9 := Lib.hid x9; have H5 := Lib.hid h5; have HU := Lib.hid (h1.adds (show Adds w4 w5 by rw [← hw5]; exact (Gr.new _ _).adds)); clear h1 h2 h5 x9 HF)
    | (go_at_call 35; refine (HK.out _ H5.out).mono ?_; rintro e w6 ⟨rfl, O6, q1, q2, q3⟩; have hN : ∀ k, w.heap.size ≤ k → ¬ O k := (fun k hk ho => absurd (HO.out k ho) (by omega)); have x9 := q2.bk X9.out (hN _ (by have := H9.out; have := HA.out.size; omega)); have x2 := q2.bk (X2.out.adds H5.out) (hN _ (by have := HS.out; omega)); have r9 : w6.cell? ⟨n9, 0, none⟩ = some (.slice (some ⟨g4, 0, none⟩) L'.length cap4) := x9.cell 0; have r2 : w6.cell? ⟨n2, 0, none⟩ = some (.slice none 0 0) := x2.cell 0; have r3 := x2.free 0; have M6 := Lib.hid q1; have T6 := Lib.hid q2; have N6 := Lib.hid q3; have Y2 := Lib.hid x2; have U6 := Lib.hid (ref_turn HU.out HRO.out (HA.out.size) HO.out q2 q3 H5.out.size); clear q1 q2 q3 x9 x2 hN))
  have h92 : ¬ n9 = n2 := by have := HS.out; have := H9.out; have := HA.out.size; have := X2.out.lt; omega
  have h29 : ¬ n2 = n9 := fun e => h92 e.symm
  have t9 : w6.drew.cell? ⟨n9, 0, none⟩ = some (.slice (some ⟨g4, 0, none⟩) L'.length cap4) := r9
  have t2 : w6.drew.cell? ⟨n2, 0, none⟩ = some (.slice none 0 0) := r2
  have t3 : w6.drew.frozen? ⟨n2, 0, none⟩ = false := r3
  go_region_with (go_at_call 12; refine (num_any _ _).mono ?_; rintro e w' ⟨rfl, rfl⟩)
  all_goals
    simp only [Exit.then]
    go_simp
    go_wp2
    have hY := Y2.out.adds (Adds.drew w6)
    refine bodyPost_ret (res_midW rfl _ _ _ _ _ _ _ rfl (hY.set 0 (.slice (some ⟨g4, 0, none⟩) L'.length cap4)) Try.underlying30 rfl (by kernel_rfl)) rfl ?_
    exact act_end (M6.out.adds (Adds.drew w6)) (U6.out.adds (Adds.drew w6)) hY (T6.out.trans (TnO.of_adds O (Adds.drew w6))) (Adds.trans HA.out H5.out) N6.out HO.out (by have := HS.out; omega) (by decide) (by decide) (by decide) (by decide) (by decide) _ _ _ rfl
end Go.Proofs.Ytedllkahalfjgaa
