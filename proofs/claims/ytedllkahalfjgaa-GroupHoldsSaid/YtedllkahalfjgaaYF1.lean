/- isNone, Len, has, count, fits, add: their contracts. -/
import Derived.Test.YtedllkahalfjgaaYPl
import Derived.Test.YtedllkahalfjgaaBB
import Derived.Test.YtedllkahalfjgaaBC
namespace Go.Proofs.Ytedllkahalfjgaa
open Go Go.RowKit

theorem isNone_noG {w : World} {v : Value} (h : NoG w v) : Calls Try.prog 59 #[v] w fun e w' => e = .returned (.bool true) ∧ w = w' := by
  rcases h with rfl | ⟨b, rfl, k⟩
  · go_enter Try.func59, Try.ntmps59
    go_wp2
    go_ret
    exact ⟨rfl, rfl⟩
  · have c0 := k.cell 0
    clear k
    go_enter Try.func59, Try.ntmps59
    go_wp2
    go_ret
    exact ⟨rfl, rfl⟩
theorem isNone_hol {w : World} {v : Value} {bc : Nat} {l : List Int} (h : HolG w v bc l) : Calls Try.prog 59 #[v] w fun e w' => e = .returned (.bool false) ∧ w = w' := by
  obtain ⟨bp, rfl, c0⟩ := h.c0
  clear h
  go_enter Try.func59, Try.ntmps59
  go_wp2
  go_ret
  exact ⟨rfl, rfl⟩
theorem len_noG {w : World} {v : Value} (h : NoG w v) : Calls Try.prog 32 #[v] w fun e w' => e = .returned (.int .i64 0) ∧ w = w' := by
  have HN := Lib.hid (isNone_noG h)
  clear h
  go_enter Try.func32, Try.ntmps32
  go_wp2_with (go_at_call 59; refine HN.out.mono ?_; rintro e w1 ⟨rfl, rfl⟩)
  go_ret
  exact ⟨rfl, rfl⟩
theorem len_hol {w : World} {v : Value} {bc : Nat} {l : List Int} (h : HolG w v bc l) : Calls Try.prog 32 #[v] w fun e w' => e = .returned (.int .i64 ((l.length : Nat) : Int)) ∧ w = w' := by
  have HN := Lib.hid (isNone_hol h)
  have cm := h.many
  obtain ⟨bp, rfl, c0⟩ := h.c0
  obtain ⟨x, hx⟩ : ∃ x : Int, ((l.length : Nat) : Int) = x := ⟨_, rfl⟩
  rw [hx] at cm ⊢
  clear h hx
  go_enter Try.func32, Try.ntmps32
  go_wp2_with (go_at_call 59; refine HN.out.mono ?_; rintro e w1 ⟨rfl, rfl⟩)
  go_ret
  exact ⟨rfl, rfl⟩
theorem has_noG {w : World} {v : Value} (h : NoG w v) (i : Int) : Calls Try.prog 67 #[v, .int .i64 i] w fun e w' => e = .returned (.bool false) ∧ w = w' := by
  have HL := Lib.hid (len_noG h)
  clear h
  by_cases h0 : 0 ≤ i
  · have h1 : ¬ i < 0 := by omega
    go_enter Try.func67, Try.ntmps67
    go_wp2_with (go_at_call 32; refine HL.out.mono ?_; rintro e w1 ⟨rfl, rfl⟩)
    go_ret
    exact ⟨by simp [h0], rfl⟩
  · go_enter Try.func67, Try.ntmps67
    go_wp2_with (go_at_call 32; refine HL.out.mono ?_; rintro e w1 ⟨rfl, rfl⟩)
    go_ret
    exact ⟨rfl, rfl⟩
theorem has_hol {w : World} {v : Value} {bc : Nat} {l : List Int} (h : HolG w v bc l) (i : Int) : Calls Try.prog 67 #[v, .int .i64 i] w fun e w' => e = .returned (.bool (hasQ l i)) ∧ w = w' := by
  have HL := Lib.hid (len_hol h)
  unfold hasQ
  obtain ⟨x, hx⟩ : ∃ x : Int, ((l.length : Nat) : Int) = x := ⟨_, rfl⟩
  rw [hx] at HL ⊢
  clear h hx
  by_cases h0 : 0 ≤ i
  · by_cases h1 : i < x
    · rw [decide_eq_true ⟨h0, h1⟩]
      go_enter Try.func67, Try.ntmps67
      go_wp2_with (go_at_call 32; refine HL.out.mono ?_; rintro e w1 ⟨rfl, rfl⟩)
      go_ret
      exact ⟨by simp [], rfl⟩
    · rw [decide_eq_false (fun h => h1 h.2)]
      go_enter Try.func67, Try.ntmps67
      go_wp2_with (go_at_call 32; refine HL.out.mono ?_; rintro e w1 ⟨rfl, rfl⟩)
      go_ret
      exact ⟨by simp [h1], rfl⟩
  · rw [decide_eq_false (fun h => h0 h.1)]
    go_enter Try.func67, Try.ntmps67
    go_wp2_with (go_at_call 32; refine HL.out.mono ?_; rintro e w1 ⟨rfl, rfl⟩)
    go_ret
    exact ⟨rfl, rfl⟩
theorem count_any {w : World} {v : Value} {bc : Nat} {l : List Int} (h : HolG w v bc l) {k : Nat} (hk : k < l.length) : Calls Try.prog 68 #[.pointer (some ⟨bc, 0, none⟩), .int .i64 (k : Int)] w fun e w' => e = .returned (.int .i64 (atQ l (k : Int))) ∧ w = w' := by
  have hl := h.len
  have c := h.cell (show k < 64 by omega)
  rw [← atQ_nat] at c
  have hk64 : (k : Int) < 64 := by omega
  generalize atQ l (k : Int) = x at *
  clear h hk hl
  go_enter Try.func68, Try.ntmps68
  go_wp2
  go_ret
  exact ⟨rfl, rfl⟩
set_option maxHeartbeats 1000000 in
theorem fits_any {w : World} {v : Value} {bc : Nat} {l : List Int} (h : HolG w v bc l) {k : Nat} (hk : k < l.length) (n : Int) : Calls Try.prog 83 #[.pointer (some ⟨bc, 0, none⟩), .int .i64 (k : Int), .int .i64 n] w fun e w' => e = .returned (.bool (decide (-(atQ l (k : Int)) ≤ n ∧ n ≤ 2147483647 - atQ l (k : Int)))) ∧ w = w' := by
  have hl := h.len
  have c := h.cell (show k < 64 by omega)
  rw [← atQ_nat] at c
  have hk64 : (k : Int) < 64 := by omega
  obtain ⟨h0, h1⟩ := atQ_may h.ok (k : Int)
  generalize atQ l (k : Int) = x at *
  clear h hk hl
  have e1 : IntKind.i64.wrap (-x) = -x := by rw [IntKind.wrap_i64]; omega
  have e2 : IntKind.i64.wrap (2147483647 - x) = 2147483647 - x := by rw [IntKind.wrap_i64]; omega
  by_cases g0 : -x ≤ n
  · by_cases g1 : n ≤ 2147483647 - x
    · rw [decide_eq_true ⟨g0, g1⟩]
      go_enter Try.func83, Try.ntmps83
      go_wp2
      go_ret
      exact ⟨by simp [], rfl⟩
    · rw [decide_eq_false (fun h => g1 h.2)]
      go_enter Try.func83, Try.ntmps83
      go_wp2
      go_ret
      exact ⟨by simp [], rfl⟩
  · rw [decide_eq_false (fun h => g0 h.1)]
    go_enter Try.func83, Try.ntmps83
    go_wp2
    go_ret
    exact ⟨rfl, rfl⟩
set_option maxHeartbeats 1000000 in
theorem addC_any {w : World} {v : Value} {bc : Nat} {l : List Int} (h : HolG w v bc l) {k : Nat} (hk : k < l.length) (n : Int) (hn : 0 ≤ atQ l (k : Int) + n ∧ atQ l (k : Int) + n ≤ 2147483647) :
    Calls Try.prog 64 #[.pointer (some ⟨bc, 0, none⟩), .int .i64 (k : Int), .int .i64 n] w fun e w' => e = .returned (.int .i64 (atQ l (k : Int) + n)) ∧ HolG w' v bc (l.set k (atQ l (k : Int) + n)) ∧ TnS bc w w' := by
  have hl := h.len
  have c := h.cell (show k < 64 by omega)
  rw [← atQ_nat] at c
  have f := h.cnt.free k
  have hk64 : (k : Int) < 64 := by omega
  have HP := Lib.hid (show ∀ W, Adds w W → HolG (W.setCell ⟨bc, k, none⟩ (.int .i64 (atQ l (k : Int) + n))) v bc (l.set k (atQ l (k : Int) + n)) from fun W ha => (h.adds ha).put hk hn)
  obtain ⟨n0, n1⟩ := hn
  have e1 : IntKind.i64.wrap (atQ l (k : Int) + n) = atQ l (k : Int) + n := by rw [IntKind.wrap_i64]; omega
  generalize atQ l (k : Int) = x at *
  clear h hk hl
  have c' : w.drew.cell? ⟨bc, k, none⟩ = some (.int .i64 x) := c
  have f' : w.drew.frozen? ⟨bc, k, none⟩ = false := f
  go_enter Try.func64, Try.ntmps64
  go_wp2
  go_region
  all_goals
    simp only [Exit.then]
    go_simp
    go_wp2
    go_ret
    exact ⟨rfl, HP.out _ (Adds.drew w), (TnS.of_adds bc (Adds.drew w)).trans (TnS.setCell bc k _ _)⟩
end Go.Proofs.Ytedllkahalfjgaa
