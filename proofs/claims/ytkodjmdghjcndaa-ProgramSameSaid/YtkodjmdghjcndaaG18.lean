/- Same: contract. -/
import Derived.Test.YtkodjmdghjcndaaG17
namespace Go.Proofs.Ytkodjmdghjcndaa
open Go Go.RowKit Go.Shelf

/-- Are two programs the same? -/
noncomputable def samePg (p q : Pg) : Bool := decide (p.2.1 = q.2.1 ∧ p.2.2.1 = q.2.2.1 ∧ p.2.2.2 = q.2.2.2) && sameFs p.1 q.1
set_option maxRecDepth 100000 in
set_option maxHeartbeats 4000000 in
theorem same_any {n m : Nat} (u v : Value) (p q : Pg) (w : World) (hf : FuncsW n w u p.1) (hg : FuncsW m w v q.1) : Calls Try.prog 13 #[pgV u p, pgV v q] w fun e w' => e = .returned (.bool (samePg p q)) ∧ Adds w w' := by
  obtain ⟨fs, x1, x2, x3⟩ := p
  obtain ⟨gs, y1, y2, y3⟩ := q
  have hf' := hf
  have hg' := hg
  obtain ⟨ao, ca, rfl, _, _, _⟩ := hf'
  obtain ⟨bo, cb, rfl, _, _, _⟩ := hg'
  have HE0 := fun W (h : Adds w W) => eqFuncs_any ao bo ca cb fs gs W (hf.adds h) (hg.adds h)
  unfold samePg
  simp only at HE0 ⊢
  generalize sameFs fs gs = b at HE0 ⊢
  generalize fs.length = fl at HE0 ⊢
  generalize gs.length = gl at HE0 ⊢
  have HE := Lib.hid HE0
  clear HE0 hf hg
  obtain ⟨w1, hw1⟩ : ∃ w1, w.alloc (.cells #[.slice ao fl ca, .int .i64 x1, .int .i64 x2, .int .i64 x3] 24) = w1 := ⟨_, rfl⟩
  have A1 := Lib.hid (show Adds w w1 by rw [← hw1]; exact (Gr.new _ _).adds)
  have B1 := Lib.hid (show BkS 24 w1 w.heap.size [.slice ao fl ca, .int .i64 x1, .int .i64 x2, .int .i64 x3] by rw [← hw1]; exact BkS.new _ _ _)
  obtain ⟨w2, hw2⟩ : ∃ w2, w1.alloc (.cells #[.slice bo gl cb, .int .i64 y1, .int .i64 y2, .int .i64 y3] 24) = w2 := ⟨_, rfl⟩
  have A2 := Lib.hid (show Adds w1 w2 by rw [← hw2]; exact (Gr.new _ _).adds)
  have B2 := Lib.hid (show BkS 24 w2 w1.heap.size [.slice bo gl cb, .int .i64 y1, .int .i64 y2, .int .i64 y3] by rw [← hw2]; exact BkS.new _ _ _)
  have A12 := Lib.hid (Adds.trans A1.out A2.out)
  have p1 := B1.out.adds A2.out
  have b0 : w2.cell? ⟨w.heap.size, 0, none⟩ = some (.slice ao fl ca) := p1.cell 0
  have b1 : w2.cell? ⟨w.heap.size, 1, none⟩ = some (.int .i64 x1) := p1.cell 1
  have b2 : w2.cell? ⟨w.heap.size, 2, none⟩ = some (.int .i64 x2) := p1.cell 2
  have b3 : w2.cell? ⟨w.heap.size, 3, none⟩ = some (.int .i64 x3) := p1.cell 3
  have c0 : w2.cell? ⟨w1.heap.size, 0, none⟩ = some (.slice bo gl cb) := B2.out.cell 0
  have c1 : w2.cell? ⟨w1.heap.size, 1, none⟩ = some (.int .i64 y1) := B2.out.cell 1
  have c2 : w2.cell? ⟨w1.heap.size, 2, none⟩ = some (.int .i64 y2) := B2.out.cell 2
  have c3 : w2.cell? ⟨w1.heap.size, 3, none⟩ = some (.int .i64 y3) := B2.out.cell 3
  clear p1
  by_cases h1 : x1 = y1
  · by_cases h2 : x2 = y2
    · by_cases h3 : x3 = y3
      · subst h1 h2 h3
        go_enter Try.func13, Try.ntmps13
        go_wp2_with (go_at_call 23; refine (HE.out _ A12.out).mono ?_; rintro e w3 ⟨rfl, qa⟩; have A3 := Lib.hid qa; clear qa)
        go_ret
        simp only [and_self, decide_true, Bool.true_and]
        exact ⟨rfl, Adds.trans A12.out A3.out⟩
      · subst h1 h2
        rw [decide_eq_false (fun h => h3 h.2.2)]
        go_enter Try.func13, Try.ntmps13
        go_wp2
        go_ret
        exact ⟨rfl, A12.out⟩
    · subst h1
      rw [decide_eq_false (fun h => h2 h.2.1)]
      go_enter Try.func13, Try.ntmps13
      go_wp2
      go_ret
      exact ⟨rfl, A12.out⟩
  · rw [decide_eq_false (fun h => h1 h.1)]
    go_enter Try.func13, Try.ntmps13
    go_wp2
    go_ret
    exact ⟨rfl, A12.out⟩
end Go.Proofs.Ytkodjmdghjcndaa
