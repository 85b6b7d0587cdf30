/- act: Copy. -/
import Derived.Test.YtedllkahalfjgaaWA
import Derived.Test.YtedllkahalfjgaaWR5
namespace Go.Proofs.Ytedllkahalfjgaa
open Go Go.RowKit
set_option maxRecDepth 100000 in
set_option maxHeartbeats 16000000 in
theorem act_copy {m : Nat} {w : World} {v s : Value} {O R : Nat → Prop} {ls : List Lk} (a i c : Int) (hk : ¬ (0 ≤ a ∧ a ≤ 6)) (hm : m ≤ 1000000) (hM : HasL m w v O ls) (hRO : ∀ k, R k → ¬ O k) (hR : RefW R w s ls) :
    Calls Try.prog 13 #[v, .agg #[s], .agg #[.int .i64 a, .int .i64 i, .int .i64 c]] w (ActW m w O R ls) := by
  have hcs : (a == 0) = false ∧ (a == 1) = false ∧ (a == 2) = false ∧ (a == 3) = false ∧ (a == 4) = false ∧ (a == 5) = false ∧ (a == 6) = false := by
    simp only [beq_eq_false_iff_ne]; omega
  obtain ⟨k0, k1, k2, k3, k4, k5, k6⟩ := hcs
  obtain ⟨g, cap, rfl, _, _⟩ := hR.form
  obtain ⟨w1, hw1⟩ : ∃ w1, w.alloc (.cells #[.slice (some ⟨g, 0, none⟩) ls.length cap] 30) = w1 := ⟨_, rfl⟩
  obtain ⟨w2, hw2⟩ : ∃ w2, w1.alloc (.cells #[.int .i64 a, .int .i64 i, .int .i64 c] 37) = w2 := ⟨_, rfl⟩
  obtain ⟨w3, hw3⟩ : ∃ w3, w2.alloc (.cells #[.slice none 0 0] 30) = w3 := ⟨_, rfl⟩
  have a1 : Adds w w1 := by rw [← hw1]; exact (Gr.new _ _).adds
  have a2 : Adds w1 w2 := by rw [← hw2]; exact (Gr.new _ _).adds
  have a3 : Adds w2 w3 := by rw [← hw3]; exact (Gr.new _ _).adds
  obtain ⟨n0, hn0⟩ : ∃ n0, w.heap.size = n0 := ⟨_, rfl⟩
  obtain ⟨n1, hn1⟩ : ∃ n1, w1.heap.size = n1 := ⟨_, rfl⟩
  obtain ⟨n2, hn2⟩ : ∃ n2, w2.heap.size = n2 := ⟨_, rfl⟩
  have HS := Lib.hid (show n0 = w.heap.size ∧ n1 = w.heap.size + 1 ∧ n2 = w.heap.size + 2 by rw [← hn0, ← hn1, ← hn2, ← hw2, ← hw1]; simp)
  have x0 : BkS 30 w3 n0 [.slice (some ⟨g, 0, none⟩) ls.length cap] := by
    have h := BkS.new 30 w [.slice (some ⟨g, 0, none⟩) ls.length cap]
    rw [hw1, hn0] at h
    exact (h.adds a2).adds a3
  have x1 : BkS 37 w3 n1 [.int .i64 a, .int .i64 i, .int .i64 c] := by
    have h := BkS.new 37 w1 [.int .i64 a, .int .i64 i, .int .i64 c]
    rw [hw2, hn1] at h
    exact h.adds a3
  have x2 : BkS 30 w3 n2 [.slice none 0 0] := by
    have h := BkS.new 30 w2 [.slice none 0 0]
    rw [hw3, hn2] at h
    exact h
  have HA := Lib.hid (Adds.trans a1 (Adds.trans a2 a3))
  have HM := Lib.hid (hM.adds HA.out)
  have HR := Lib.hid (hR.adds HA.out)
  have HRO := Lib.hid hRO
  clear hRO
  have HO := Lib.hid hM.lt
  have X0 := Lib.hid x0; have X1 := Lib.hid x1; have X2 := Lib.hid x2
  have c0 : w3.cell? ⟨n0, 0, none⟩ = some (.slice (some ⟨g, 0, none⟩) ls.length cap) := x0.cell 0
  have d0 : w3.cell? ⟨n1, 0, none⟩ = some (.int .i64 a) := x1.cell 0
  have d1 : w3.cell? ⟨n1, 1, none⟩ = some (.int .i64 i) := x1.cell 1
  have d2 : w3.cell? ⟨n1, 2, none⟩ = some (.int .i64 c) := x1.cell 2
  have e0 : w3.cell? ⟨n2, 0, none⟩ = some (.slice none 0 0) := x2.cell 0
  have f0 := x2.free 0
  have h02 : ¬ n0 = n2 := by have := HS.out; omega
  have h20 : ¬ n2 = n0 := by have := HS.out; omega
  have h12 : ¬ n1 = n2 := by have := HS.out; omega
  have h21 : ¬ n2 = n1 := by have := HS.out; omega
  clear hk a1 a2 a3 x0 x1 x2 hM hR
  go_enter Try.func13, Try.ntmps13
  go_wp2
  have cq : w3.drew.cell? ⟨n0, 0, none⟩ = some (.slice (some ⟨g, 0, none⟩) ls.length cap) := c0
  have HC := Lib.hid (copyW_any (HM.out.adds (Adds.drew w3)) hm)
  clear hm
  go_region_with (go_at_call 16; refine HC.out.mono ?_; rintro e w4 ⟨v4, O4, rfl, q1, q2, q3⟩; have h5 := Adds.trans (Adds.drew w3) q3; have p0 : w4.cell? ⟨n0, 0, none⟩ = some (.slice (some ⟨g, 0, none⟩) ls.length cap) := (X0.out.adds h5).cell 0; have q0 : w4.cell? ⟨n2, 0, none⟩ = some (.slice none 0 0) := (X2.out.adds h5).cell 0; have r0 := (X2.out.adds h5).free 0; have H1 := Lib.hid q1; have H2 := Lib.hid q2; have H3 := Lib.hid q3; have H5 := Lib.hid h5; clear q1 q2 q3 h5)
  all_goals
    simp only [Exit.then]
    go_simp
    go_wp2
    have hX := X2.out.adds H5.out
    refine bodyPost_ret (res_midW rfl _ _ _ _ _ _ _ rfl (hX.set 0 (.slice (some ⟨g, 0, none⟩) ls.length cap)) Try.underlying30 rfl (by kernel_rfl)) rfl ?_
    have hs3 : w3.drew.heap.size = w3.heap.size := rfl
    exact act_end H1.out ((HR.out.lt.adds H5.out).wide (fun k hk => ⟨fun ho => by have := H2.out k ho; have := hk.2; omega, .inl hk.1⟩)) hX (TnO.of_adds O H3.out) (Adds.trans HA.out (Adds.drew w3)) (fun k hk => .inr (H2.out k hk)) HO.out (by have := HS.out; omega) (by decide) (by decide) (by decide) (by decide) (by decide) _ _ _ rfl
end Go.Proofs.Ytedllkahalfjgaa
