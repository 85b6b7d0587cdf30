/- Len, and the document's Len, of a small program. -/
import Derived.Test.YtkodjmdghjcndaaGFew
namespace Go.Proofs.Ytkodjmdghjcndaa
open Go Go.RowKit Go.Shelf

theorem sum_small {fs : List Fu} {k fl : Nat} (hf : fs.length = fl) (hl : fl ≤ 40) (hc : ∀ f ∈ fs, f.2.length ≤ 1600) : sumL (fs.take k) ≤ 64000 := by
  have h := sumL_le 1600 (fs.take k) (fun f hf => hc f (List.mem_of_mem_take hf))
  have h2 : (fs.take k).length ≤ 40 := by rw [List.length_take]; omega
  have h3 := Nat.mul_le_mul_right 1600 h2
  omega
set_option maxRecDepth 100000 in
set_option maxHeartbeats 8000000 in
theorem len_small {m : Nat} (u : Value) (p : Pg) (w : World) (hf : FuncsW m w u p.1) (hl : p.1.length ≤ 40) (hc : ∀ f ∈ p.1, f.2.length ≤ 1600) : Calls Try.prog 9 #[pgV u p] w fun e w' => e = .returned (.int .i64 (sumL p.1 : Nat)) ∧ Adds w w' := by
  obtain ⟨fs, x1, x2, x3⟩ := p
  simp only at hl hc ⊢
  have HF := Lib.hid hf.here
  have HS := Lib.hid hc
  obtain ⟨ao, cap, rfl, h1, h2, _⟩ := hf
  obtain ⟨fl, hfl⟩ : ∃ fl, fs.length = fl := ⟨_, rfl⟩
  have HFl := Lib.hid hfl
  simp only [hfl] at HF h1 hl ⊢
  have HL := Lib.hid hl
  have hfI : (fl : Int) ≤ 40 := by omega
  clear hfl h1 h2 hc hl
  obtain ⟨w1, hw1⟩ : ∃ w1, w.alloc (.cells #[.slice ao fl cap, .int .i64 x1, .int .i64 x2, .int .i64 x3] 24) = w1 := ⟨_, rfl⟩
  have A1 := Lib.hid (show Adds w w1 by rw [← hw1]; exact (Gr.new _ _).adds)
  have B1 := Lib.hid (show BkS 24 w1 w.heap.size [.slice ao fl cap, .int .i64 x1, .int .i64 x2, .int .i64 x3] by rw [← hw1]; exact BkS.new _ _ _)
  have b0 : w1.cell? ⟨w.heap.size, 0, none⟩ = some (.slice ao fl cap) := B1.out.cell 0
  go_enter Try.func9, Try.ntmps9
  go_wp2
  go_loopw [3, 9] (fun n i wr => ∃ (z k : Nat), n = .int .i64 z ∧ i = .int .i64 k ∧ k ≤ fl ∧ Hid (z = sumL (fs.take k)) ∧ Hid (Adds w1 wr)) (fun _ i _ => fl + 1 - (intOf i).toNat)
  case atStart => exact ⟨0, 0, rfl, rfl, by omega, Lib.hid (by simp [sumL]), Lib.hid (Adds.refl _)⟩
  case round =>
    obtain ⟨z, k, rfl, rfl, hkl, HZ, HA⟩ := hrel
    have hz : z ≤ 64000 := by rw [HZ.out]; exact sum_small HFl.out HL.out HS.out
    have hzI : (z : Int) ≤ 64000 := by omega
    by_cases hlt : k < fl
    · have hltI : (k : Int) < (fl : Int) := by omega
      obtain ⟨g, off, rfl, hg, hat⟩ := (show FuncsW w.heap.size wr (.slice ao fs.length cap) fs by have h := HF.out.adds (Adds.trans A1.out HA.out); rw [← HFl.out] at h; exact h).at (i := k) (by rw [HFl.out]; exact hlt)
      have hcl : (fs.getD k zF).2.length ≤ 1600 := by
        have hk : k < fs.length := by rw [HFl.out]; exact hlt
        rw [List.getD_eq_getElem?_getD, List.getElem?_eq_getElem hk]
        exact HS.out _ (List.getElem_mem hk)
      have HZ2 := Lib.hid (show z + (fs.getD k zF).2.length = sumL (fs.take (k + 1)) by rw [sumL_take fs k (by rw [HFl.out]; exact hlt), ← HZ.out])
      obtain ⟨k0, c, k1, hc, _⟩ := hat
      obtain ⟨ac, cc, rfl, _, _⟩ := hc.form
      generalize (fs.getD k zF).2.length = cl at *
      have hclI : (cl : Int) ≤ 1600 := by omega
      have HLt := Lib.hid hlt
      generalize (fs.getD k zF).1 = rg at *
      obtain ⟨w5, hw5⟩ : ∃ w5, wr.alloc (.cells #[.int .i64 rg, .slice ac cl cc] 40) = w5 := ⟨_, rfl⟩
      have A5 := Lib.hid (show Adds wr w5 by rw [← hw5]; exact (Gr.new _ _).adds)
      have B5 := Lib.hid (show BkS 40 w5 wr.heap.size [.int .i64 rg, .slice ac cl cc] by rw [← hw5]; exact BkS.new _ _ _)
      have d1 : w5.cell? ⟨wr.heap.size, 1, none⟩ = some (.slice ac cl cc) := B5.out.cell 1
      clear hc hcl hlt hkl hz hg
      go_wp2
      try rw [hw5]
      go_roundw
      case rel => exact ⟨z + cl, k + 1, by go_num, by go_num, HLt.out, HZ2, Lib.hid (Adds.trans HA.out A5.out)⟩
      case measure => simp [intOf]; have := HLt.out; omega
    · have hltI : ¬ (k : Int) < (fl : Int) := by omega
      have HE := Lib.hid (show sumL fs = z by rw [HZ.out, List.take_of_length_le (by rw [HFl.out]; omega)])
      clear hlt hkl hz
      go_wp2
      go_ret
      exact ⟨by rw [HE.out]; rfl, Adds.trans A1.out HA.out⟩
set_option maxRecDepth 100000 in
set_option maxHeartbeats 8000000 in
theorem refLen_small {m : Nat} (u : Value) (p : Pg) (w : World) (hf : FuncsW m w u p.1) (hl : p.1.length ≤ 40) (hc : ∀ f ∈ p.1, f.2.length ≤ 1600) : Calls Try.prog 10 #[pgV u p] w fun e w' => e = .returned (.int .i64 (sumL p.1 : Nat)) ∧ Adds w w' := by
  obtain ⟨fs, x1, x2, x3⟩ := p
  simp only at hl hc ⊢
  have HF := Lib.hid hf.here
  have HS := Lib.hid hc
  obtain ⟨ao, cap, rfl, h1, h2, _⟩ := hf
  obtain ⟨fl, hfl⟩ : ∃ fl, fs.length = fl := ⟨_, rfl⟩
  have HFl := Lib.hid hfl
  simp only [hfl] at HF h1 hl ⊢
  have HL := Lib.hid hl
  have hfI : (fl : Int) ≤ 40 := by omega
  clear hfl h1 h2 hc hl
  obtain ⟨w1, hw1⟩ : ∃ w1, w.alloc (.cells #[.slice ao fl cap, .int .i64 x1, .int .i64 x2, .int .i64 x3] 24) = w1 := ⟨_, rfl⟩
  have A1 := Lib.hid (show Adds w w1 by rw [← hw1]; exact (Gr.new _ _).adds)
  have B1 := Lib.hid (show BkS 24 w1 w.heap.size [.slice ao fl cap, .int .i64 x1, .int .i64 x2, .int .i64 x3] by rw [← hw1]; exact BkS.new _ _ _)
  have b0 : w1.cell? ⟨w.heap.size, 0, none⟩ = some (.slice ao fl cap) := B1.out.cell 0
  go_enter Try.func10, Try.ntmps10
  go_wp2
  go_loop [3, 4] (fun n i => ∃ (z k : Nat), n = .int .i64 z ∧ i = .int .i64 k ∧ k ≤ fl ∧ Hid (z = sumL (fs.take k))) (fun _ i => fl + 1 - (intOf i).toNat)
  case atStart => exact ⟨0, 0, rfl, rfl, by omega, Lib.hid (by simp [sumL])⟩
  case round =>
    obtain ⟨z, k, rfl, rfl, hkl, HZ⟩ := hrel
    have hz : z ≤ 64000 := by rw [HZ.out]; exact sum_small HFl.out HL.out HS.out
    have hzI : (z : Int) ≤ 64000 := by omega
    by_cases hlt : k < fl
    · have hltI : (k : Int) < (fl : Int) := by omega
      obtain ⟨g, off, rfl, hg, hat⟩ := (show FuncsW w.heap.size w (.slice ao fs.length cap) fs by have h := HF.out; rw [← HFl.out] at h; exact h).at (i := k) (by rw [HFl.out]; exact hlt)
      have hcl : (fs.getD k zF).2.length ≤ 1600 := by
        have hk : k < fs.length := by rw [HFl.out]; exact hlt
        rw [List.getD_eq_getElem?_getD, List.getElem?_eq_getElem hk]
        exact HS.out _ (List.getElem_mem hk)
      have HZ2 := Lib.hid (show z + (fs.getD k zF).2.length = sumL (fs.take (k + 1)) by rw [sumL_take fs k (by rw [HFl.out]; exact hlt), ← HZ.out])
      obtain ⟨k0, c, k1, hc, _⟩ := hat
      obtain ⟨ac, cc, rfl, _, _⟩ := hc.form
      generalize (fs.getD k zF).2.length = cl at *
      have hclI : (cl : Int) ≤ 1600 := by omega
      have HLt := Lib.hid hlt
      have k2 : w1.cell? ⟨g, off + k * 2 + 1, none⟩ = some (.slice ac cl cc) := A1.out.cellAt k1
      clear hc k0 k1 hcl hlt hkl hz hg
      go_wp2
      go_round
      case rel => exact ⟨z + cl, k + 1, by go_num, by go_num, HLt.out, HZ2⟩
      case measure => simp [intOf]; have := HLt.out; omega
    · have hltI : ¬ (k : Int) < (fl : Int) := by omega
      have HE := Lib.hid (show sumL fs = z by rw [HZ.out, List.take_of_length_le (by rw [HFl.out]; omega)])
      clear hlt hkl hz
      go_wp2
      go_ret
      exact ⟨by rw [HE.out]; rfl, A1.out⟩
end Go.Proofs.Ytkodjmdghjcndaa
