/- The law's few, where no sum can pass: true of few alone. -/
import Derived.Test.YtkodjmdghjcndaaGMem
import Derived.Test.YtkodjmdghjcndaaIF8
namespace Go.Proofs.Ytkodjmdghjcndaa
open Go Go.RowKit Go.Shelf

/-- Some answer; if it is yes, the program is small. -/
def FewB (fs : List Fu) (e : Ending) : Prop := ∃ b : Bool, e = .returned (.bool b) ∧ (b = true → fs.length ≤ 40 ∧ ∀ f ∈ fs, f.2.length ≤ 1600)
abbrev sumL (l : List Fu) : Nat := (l.map fun f => f.2.length).sum
theorem sumL_take (fs : List Fu) (k : Nat) (h : k < fs.length) : sumL (fs.take (k + 1)) = sumL (fs.take k) + (fs.getD k zF).2.length := by
  rw [List.take_add_one, List.getD_eq_getElem?_getD, List.getElem?_eq_getElem h]
  simp only [sumL, List.map_append, List.sum_append, Option.toList_some, List.map_cons, List.map_nil, List.sum_cons, List.sum_nil, Option.getD_some, Nat.add_zero]
theorem sumL_le (c : Nat) : ∀ l : List Fu, (∀ f ∈ l, f.2.length ≤ c) → sumL l ≤ l.length * c
  | [], _ => by simp [sumL]
  | f :: l, h => by
    have h1 := h f (by simp)
    have h2 := sumL_le c l (fun g hg => h g (by simp [hg]))
    simp only [sumL, List.map_cons, List.sum_cons, List.length_cons, Nat.add_mul] at h2 ⊢
    omega
theorem sumL_mem (l : List Fu) (f : Fu) (h : f ∈ l) : f.2.length ≤ sumL l := by
  induction l with
  | nil => simp at h
  | cons g l ih =>
    simp only [sumL, List.map_cons, List.sum_cons]
    rcases List.mem_cons.1 h with rfl | h
    · omega
    · have := ih h; simp only [sumL] at this; omega
set_option maxRecDepth 100000 in
set_option maxHeartbeats 8000000 in
theorem few_ex {m : Nat} (u : Value) (p : Pg) (w : World) (hf : FuncsW m w u p.1) (hs : ∀ f ∈ p.1, f.2.length ≤ 4398046511104) : Calls Try.prog 5 #[pgV u p] w fun e w' => FewB p.1 e ∧ Adds w w' := by
  obtain ⟨fs, x1, x2, x3⟩ := p
  simp only at hs
  have HF := Lib.hid hf.here
  have HS := Lib.hid hs
  obtain ⟨ao, cap, rfl, h1, h2, _⟩ := hf
  unfold maxLen at h2
  obtain ⟨fl, hfl⟩ : ∃ fl, fs.length = fl := ⟨_, rfl⟩
  have HFl := Lib.hid hfl
  simp only [hfl] at HF h1 ⊢
  have hfI : (fl : Int) ≤ 9223372036854775807 := by omega
  clear hfl h1 h2 hs
  obtain ⟨w1, hw1⟩ : ∃ w1, w.alloc (.cells #[.slice ao fl cap, .int .i64 x1, .int .i64 x2, .int .i64 x3] 24) = w1 := ⟨_, rfl⟩
  have A1 := Lib.hid (show Adds w w1 by rw [← hw1]; exact (Gr.new _ _).adds)
  have B1 := Lib.hid (show BkS 24 w1 w.heap.size [.slice ao fl cap, .int .i64 x1, .int .i64 x2, .int .i64 x3] by rw [← hw1]; exact BkS.new _ _ _)
  have b0 : w1.cell? ⟨w.heap.size, 0, none⟩ = some (.slice ao fl cap) := B1.out.cell 0
  go_enter Try.func5, Try.ntmps5
  go_wp2
  go_loop [3, 4] (fun n i => ∃ (z k : Nat), n = .int .i64 z ∧ i = .int .i64 k ∧ k ≤ 40 ∧ k ≤ fl ∧ Hid (z = sumL (fs.take k))) (fun _ i => 41 - (intOf i).toNat)
  case atStart => exact ⟨0, 0, rfl, rfl, by omega, by omega, Lib.hid (by simp [sumL])⟩
  case round =>
    obtain ⟨z, k, rfl, rfl, hk40, hkl, HZ⟩ := hrel
    have hz : z ≤ 175921860444160 := by
      rw [HZ.out]
      have h := sumL_le 4398046511104 (fs.take k) (fun f hf => HS.out f (List.mem_of_mem_take hf))
      have h2 : (fs.take k).length ≤ 40 := by rw [List.length_take]; omega
      have h3 := Nat.mul_le_mul_right 4398046511104 h2
      omega
    have hzI : (z : Int) ≤ 175921860444160 := by omega
    by_cases hlt : k < fl
    · have hltI : (k : Int) < (fl : Int) := by omega
      by_cases h40 : k < 40
      · have h40I : (k : Int) < 40 := by omega
        obtain ⟨g, off, rfl, hg, hat⟩ := (show FuncsW w.heap.size w (.slice ao fs.length cap) fs by have h := HF.out; rw [← HFl.out] at h; exact h).at (i := k) (by rw [HFl.out]; exact hlt)
        have hcl : (fs.getD k zF).2.length ≤ 4398046511104 := by
          have hk : k < fs.length := by rw [HFl.out]; exact hlt
          rw [List.getD_eq_getElem?_getD, List.getElem?_eq_getElem hk]
          exact HS.out _ (List.getElem_mem hk)
        have HZ2 := Lib.hid (show z + (fs.getD k zF).2.length = sumL (fs.take (k + 1)) by rw [sumL_take fs k (by rw [HFl.out]; exact hlt), ← HZ.out])
        obtain ⟨k0, c, k1, hc, _⟩ := hat
        obtain ⟨ac, cc, rfl, _, _⟩ := hc.form
        generalize (fs.getD k zF).2.length = cl at *
        have hclI : (cl : Int) ≤ 4398046511104 := by omega
        have k2 : w1.cell? ⟨g, off + k * 2 + 1, none⟩ = some (.slice ac cl cc) := A1.out.cellAt k1
        clear hc k0 k1
        go_wp2
        go_round
        case rel => exact ⟨z + cl, k + 1, by go_num, by go_num, by omega, by omega, HZ2⟩
        case measure => simp [intOf]; omega
      · have h40I : ¬ (k : Int) < 40 := by omega
        have hfmI : ¬ (fl : Int) ≤ 40 := by omega
        go_wp2
        go_ret
        exact ⟨⟨_, rfl, fun h => by cases h⟩, A1.out⟩
    · have hltI : ¬ (k : Int) < (fl : Int) := by omega
      by_cases hfm : fl ≤ 40
      · have hfmI : (fl : Int) ≤ 40 := by omega
        have HE := Lib.hid (show sumL fs = z by rw [HZ.out, List.take_of_length_le (by rw [HFl.out]; omega)])
        go_wp2
        go_ret
        refine ⟨⟨_, rfl, fun h => ⟨by rw [HFl.out]; exact hfm, fun f hf => ?_⟩⟩, A1.out⟩
        have h1 := sumL_mem fs f hf
        have h2 := HE.out
        simp at h
        omega
      · exfalso; omega
end Go.Proofs.Ytkodjmdghjcndaa
