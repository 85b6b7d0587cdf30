/- The law's few: it ends, with some answer. -/
import Derived.Test.YtdbbilabhlnhmaaG12
namespace Go.Proofs.Ytdbbilabhlnhmaa
open Go Go.RowKit Go.Shelf

def SomeB (e : Ending) : Prop := ∃ b, e = .returned (.bool b)
set_option maxRecDepth 100000 in
set_option maxHeartbeats 8000000 in
theorem few_any {m : Nat} (u : Value) (p : Pg) (w : World) (hf : FuncsW m w u p.1) : Calls Try.prog 6 #[pgV u p] w fun e w' => SomeB e ∧ Adds w w' := by
  obtain ⟨fs, x1, x2, x3⟩ := p
  have HF := Lib.hid hf.here
  obtain ⟨ao, cap, rfl, h1, h2, _⟩ := hf
  unfold maxLen at h2
  obtain ⟨fl, hfl⟩ : ∃ fl, fs.length = fl := ⟨_, rfl⟩
  have HFl := Lib.hid hfl
  simp only [hfl] at HF h1 ⊢
  have hfI : (fl : Int) ≤ 9223372036854775807 := by omega
  clear hfl h1 h2
  obtain ⟨w1, hw1⟩ : ∃ w1, w.alloc (.cells #[.slice ao fl cap, .int .i64 x1, .int .i64 x2, .int .i64 x3] 24) = w1 := ⟨_, rfl⟩
  have A1 := Lib.hid (show Adds w w1 by rw [← hw1]; exact (Gr.new _ _).adds)
  have B1 := Lib.hid (show BkS 24 w1 w.heap.size [.slice ao fl cap, .int .i64 x1, .int .i64 x2, .int .i64 x3] by rw [← hw1]; exact BkS.new _ _ _)
  have b0 : w1.cell? ⟨w.heap.size, 0, none⟩ = some (.slice ao fl cap) := B1.out.cell 0
  go_enter Try.func6, Try.ntmps6
  go_wp2
  go_loop [3, 4] (fun n i => ∃ (z : Int) (k : Nat), n = .int .i64 z ∧ i = .int .i64 k ∧ k ≤ 40 ∧ k ≤ fl) (fun _ i => 41 - (intOf i).toNat)
  case atStart => exact ⟨0, 0, rfl, rfl, by omega, by omega⟩
  case round =>
    obtain ⟨z, k, rfl, rfl, hk40, hkl⟩ := hrel
    by_cases hlt : k < fl
    · have hltI : (k : Int) < (fl : Int) := by omega
      by_cases h40 : k < 40
      · have h40I : (k : Int) < 40 := by omega
        obtain ⟨g, off, rfl, hg, hat⟩ := (show FuncsW w.heap.size w (.slice ao fs.length cap) fs by have h := HF.out; rw [← HFl.out] at h; exact h).at (i := k) (by rw [HFl.out]; exact hlt)
        obtain ⟨k0, c, k1, hc, _⟩ := hat
        obtain ⟨ac, cc, rfl, _, _⟩ := hc.form
        generalize (fs.getD k zF).2.length = cl at *
        have k2 : w1.cell? ⟨g, off + k * 2 + 1, none⟩ = some (.slice ac cl cc) := A1.out.cellAt k1
        clear hc k0 k1
        go_wp2
        go_round
        case rel => exact ⟨_, k + 1, rfl, by go_num, by omega, by omega⟩
        case measure => simp [intOf]; omega
      · have h40I : ¬ (k : Int) < 40 := by omega
        have hfmI : ¬ (fl : Int) ≤ 40 := by omega
        go_wp2
        go_ret
        exact ⟨⟨_, rfl⟩, A1.out⟩
    · have hltI : ¬ (k : Int) < (fl : Int) := by omega
      by_cases hfm : fl ≤ 40
      · have hfmI : (fl : Int) ≤ 40 := by omega
        go_wp2
        go_ret
        exact ⟨⟨_, rfl⟩, A1.out⟩
      · exfalso; omega
end Go.Proofs.Ytdbbilabhlnhmaa
