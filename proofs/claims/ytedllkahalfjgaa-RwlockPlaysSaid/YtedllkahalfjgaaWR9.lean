/- The document's New: its contract. -/
import Derived.Test.YtedllkahalfjgaaWR4
namespace Go.Proofs.Ytedllkahalfjgaa
open Go Go.RowKit

theorem run_mkL (n : Nat) (hn : n ≤ 64) (w : World) :
    (Instr.makeSlice 28 (.int .i64 (n : Int)) (.int .i64 (n : Int))).run Try.prog w = .ok (.slice (some ⟨w.heap.size, 0, none⟩) n n) (w.alloc (.cells (madeCells #[.slice none 0 0, .int .i64 0] (n * 2)) 108)) := by
  obtain ⟨i0, hi, hz, hs, hb⟩ := info_parts infoLk
  have h := run_make (P := Try.prog) w 28 108 i0 _ Try.underlying28 hi hz .i64 .i64 n n (by omega) (by omega) (by rw [hb]; omega) (by omega)
  rw [hs] at h
  simpa [Value.cells] using h
theorem made_at (n i : Nat) (hi : i < n) : (madeCells #[Value.slice none 0 0, Value.int .i64 0] (n * 2))[i * 2]? = some (.slice none 0 0) ∧ (madeCells #[Value.slice none 0 0, Value.int .i64 0] (n * 2))[i * 2 + 1]? = some (.int .i64 0) := by
  unfold madeCells
  constructor
  · rw [Array.getElem?_map, Array.getElem?_eq_getElem (by simp; omega)]
    simp
  · rw [Array.getElem?_map, Array.getElem?_eq_getElem (by simp; omega)]
    simp [Nat.add_mod]
theorem refw_new {R : Nat → Prop} {w : World} {g n : Nat} (hn : n ≤ 64) (hR : R g) (hg : w.heap[g]? = some (.cells (madeCells #[Value.slice none 0 0, Value.int .i64 0] (n * 2)) 108 (0, 0))) : RefW R w (.slice (some ⟨g, 0, none⟩) n n) (List.replicate n lk0) := by
  refine ⟨g, n, _, by simp, hR, hg, by simp, by unfold maxLen; omega, by simp [madeCells], fun i x hx => ?_⟩
  have hi : i < n := by have := (List.getElem?_eq_some_iff.1 hx).1; simpa using this
  rw [List.eq_of_mem_replicate (List.mem_of_getElem? hx)]
  exact ⟨(made_at n i hi).2, .slice none 0 0, (made_at n i hi).1, CutR.nil _, fun k hk => by cases hk⟩
theorem refNew_yes (n : Nat) (h64 : n ≤ 64) (w : World) : Calls Try.prog 11 #[.int .i64 ((n : Nat) : Int)] w fun e w' => ∃ s', e = .returned (.tuple #[.agg #[s'], .int .i64 0]) ∧ RefW (fun k => w.heap.size ≤ k) w' s' (List.replicate n lk0) ∧ Adds w w' := by
  obtain ⟨w0, hw0⟩ : ∃ w0, w.alloc (.cells #[.slice none 0 0] 30) = w0 := ⟨_, rfl⟩
  have HA := Lib.hid (show Adds w w0 by rw [← hw0]; exact (Gr.new _ _).adds)
  have hb : BkS 30 w0 w.heap.size [.slice none 0 0] := by rw [← hw0]; exact BkS.new _ _ _
  have hmk := run_mkL n h64 w0
  obtain ⟨w1, hw1⟩ : ∃ w1, w0.alloc (.cells (madeCells #[.slice none 0 0, .int .i64 0] (n * 2)) 108) = w1 := ⟨_, rfl⟩
  have hh := heap_new w0 (.cells (madeCells #[.slice none 0 0, .int .i64 0] (n * 2)) 108)
  rw [hw1] at hmk hh
  have HA1 := Lib.hid (show Adds w0 w1 by rw [← hw1]; exact (Gr.new _ _).adds)
  have HB1 := Lib.hid (hb.adds HA1.out)
  have c0 : w1.cell? ⟨w.heap.size, 0, none⟩ = some (.slice none 0 0) := HB1.out.cell 0
  have f0 := HB1.out.free 0
  have HR := Lib.hid (refw_new (R := fun k => w.heap.size ≤ k) h64 (show w.heap.size ≤ w0.heap.size from HA.out.size) hh)
  have h1 : ¬ (n : Int) < 0 := by omega
  have h2 : ¬ 64 < (n : Int) := by omega
  clear hh hb h64
  go_enter Try.func11, Try.ntmps11
  go_wp2
  refine bodyPost_ret (res_box2 rfl _ _ _ _ _ _ _ rfl (HB1.out.set 0 (.slice (some ⟨w0.heap.size, 0, none⟩) n n)) Try.underlying30 rfl (by kernel_rfl)) rfl ?_
  exact ⟨_, rfl, HR.out.far HB1.out (by decide) (by decide) 0 _, Adds.set (Adds.trans HA.out HA1.out) (Nat.le_refl _) 0 _⟩
theorem refNew_no (many : Int) (h : ¬ (0 ≤ many ∧ many ≤ 64)) (w : World) : Calls Try.prog 11 #[.int .i64 many] w fun e w' => e = .returned (.tuple #[.agg #[.slice none 0 0], .int .i64 2]) ∧ Adds w w' := by
  obtain ⟨w0, hw0⟩ : ∃ w0, w.alloc (.cells #[.slice none 0 0] 30) = w0 := ⟨_, rfl⟩
  have HA := Lib.hid (show Adds w w0 by rw [← hw0]; exact (Gr.new _ _).adds)
  have hb : BkS 30 w0 w.heap.size [.slice none 0 0] := by rw [← hw0]; exact BkS.new _ _ _
  have HB := Lib.hid hb
  have c0 : w0.cell? ⟨w.heap.size, 0, none⟩ = some (.slice none 0 0) := hb.cell 0
  have f0 := hb.free 0
  clear hb
  by_cases h1 : many < 0
  · clear h
    go_enter Try.func11, Try.ntmps11
    go_wp2
    refine bodyPost_ret (res_box2 rfl _ _ _ _ _ _ _ rfl (HB.out.set 0 (.slice none 0 0)) Try.underlying30 rfl (by kernel_rfl)) rfl ?_
    exact ⟨rfl, Adds.set HA.out (Nat.le_refl _) 0 _⟩
  · have h2 : 64 < many := by omega
    clear h
    go_enter Try.func11, Try.ntmps11
    go_wp2
    refine bodyPost_ret (res_box2 rfl _ _ _ _ _ _ _ rfl (HB.out.set 0 (.slice none 0 0)) Try.underlying30 rfl (by kernel_rfl)) rfl ?_
    exact ⟨rfl, Adds.set HA.out (Nat.le_refl _) 0 _⟩
end Go.Proofs.Ytedllkahalfjgaa
