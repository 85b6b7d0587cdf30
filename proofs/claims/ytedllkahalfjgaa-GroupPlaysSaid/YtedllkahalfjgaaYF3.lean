/- Add, Count, Done: their contracts. -/
import Derived.Test.YtedllkahalfjgaaYF2
namespace Go.Proofs.Ytedllkahalfjgaa
open Go Go.RowKit

/-- What a call leaves: the same groups, others in them; nothing else has turned. -/
def GoesQ (w : World) (v : Value) (bc : Nat) (l' : List Int) (r : Value) (e : Ending) (w' : World) : Prop := e = .returned r ∧ HolG w' v bc l' ∧ TnS bc w w'
set_option maxHeartbeats 1000000 in
theorem add_noG {w : World} {v : Value} (h : NoG w v) (i n : Int) : Calls Try.prog 28 #[v, .int .i64 i, .int .i64 n] w fun e w' => e = .returned (.tuple #[.int .i64 0, .int .i64 1]) ∧ Adds w w' := by
  obtain ⟨a, rfl⟩ : ∃ a, v = .pointer a := by
    rcases h with rfl | ⟨b, rfl, _⟩
    · exact ⟨_, rfl⟩
    · exact ⟨_, rfl⟩
  have hA : Adds w (w.alloc (.cells #[.int .i64 1, .int .i64 4, .int .i64 250] 25)) := (Gr.new _ _).adds
  have hf := first_any (v := .pointer a) (i := i) (n := n) (r1 := true) (r4 := false) (r5 := false) (BkS.new 25 w [.int .i64 1, .int .i64 4, .int .i64 250])
    (fun W1 h1 => meets1_any (fun W2 h2 => isNone_noG (h.adds (Adds.trans hA (Adds.trans h1 h2)))) i n) (fun e => Bool.noConfusion e) (fun e => Bool.noConfusion e)
  have HF := Lib.hid (hf.mono fun e w' ⟨h1, h2⟩ => (⟨h1, Adds.trans hA h2⟩ : e = Ending.returned (.int .i64 1) ∧ Adds w w'))
  clear hf
  clear h hA
  go_enter Try.func28, Try.ntmps28
  go_wp2
  refine wp_scope_fwd 0 rfl ?_
  go_wp2_with (go_at_call 62; refine HF.out.mono ?_; rintro e w1 ⟨rfl, ha⟩; have HA := Lib.hid ha; clear ha)
  go_step3
  refine ⟨rfl, ?_⟩
  go_wp2
  rw [Exit.noGoto_ret]
  go_ret2
  exact ⟨rfl, HA.out⟩
theorem firstE_add {l : List Int} {i n : Int} : firstE false (!hasQ l i) (!decide (-(atQ l i) ≤ n ∧ n ≤ 2147483647 - atQ l i)) = addE l i n := by
  unfold firstE addE hasQ
  by_cases h1 : 0 ≤ i ∧ i < l.length
  · by_cases h2 : -(atQ l i) ≤ n ∧ n ≤ 2147483647 - atQ l i
    · simp [h1, h2]
    · simp [h1, h2]
  · simp [h1]
set_option maxHeartbeats 1000000 in
theorem add_any {w : World} {v : Value} {bc : Nat} {l : List Int} (h : HolG w v bc l) (i n : Int) : Calls Try.prog 28 #[v, .int .i64 i, .int .i64 n] w (GoesQ w v bc (addL l i n) (.tuple #[.int .i64 (addW l i n), .int .i64 (addE l i n)])) := by
  have hA : Adds w (w.alloc (.cells #[.int .i64 1, .int .i64 4, .int .i64 250] 25)) := (Gr.new _ _).adds
  have HF := Lib.hid (show Calls Try.prog 62 #[.func (.func 63) #[moreQ v i n] #[], .slice (some ⟨w.heap.size, 0, none⟩) 3 3] (w.alloc (.cells #[.int .i64 1, .int .i64 4, .int .i64 250] 25)) fun e w' => e = .returned (.int .i64 (addE l i n)) ∧ Adds w w' from by
    rw [← firstE_add]
    refine (first_any (v := v) (i := i) (n := n) (r1 := false) (r4 := !hasQ l i) (r5 := !decide (-(atQ l i) ≤ n ∧ n ≤ 2147483647 - atQ l i)) (BkS.new 25 w [.int .i64 1, .int .i64 4, .int .i64 250])
      (fun W1 h1 => meets1_any (fun W2 h2 => isNone_hol (h.adds (Adds.trans hA (Adds.trans h1 h2)))) i n) (fun _ W1 h1 => meets4_any i n (fun W2 h2 => has_hol (h.adds (Adds.trans hA (Adds.trans h1 h2))) i))
      (fun _ h4 W1 h1 => by
        have hi : 0 ≤ i ∧ i < l.length := by unfold hasQ at h4; simpa using h4
        obtain ⟨k, rfl⟩ : ∃ k : Nat, i = k := ⟨i.toNat, by omega⟩
        exact meets250_any (h.adds (Adds.trans hA h1)) (by omega) n)).mono fun e w' ⟨h1, h2⟩ => ⟨h1, Adds.trans hA h2⟩)
  clear hA
  obtain ⟨bp, hv, c0⟩ := h.c0
  subst hv
  unfold addL addW
  by_cases he : addE l i n = 0
  · obtain ⟨h1, h2, h3⟩ := addE_good he
    obtain ⟨k, rfl⟩ : ∃ k : Nat, i = k := ⟨i.toNat, by omega⟩
    have HC := Lib.hid (fun (W : World) (hW : Adds w W) => addC_any (h.adds hW) (k := k) (by omega) n (by omega))
    have HP := Lib.hid (fun (W : World) (hW : Adds w W) => show W.cell? ⟨bp, 0, none⟩ = some (.pointer (some ⟨bc, 0, none⟩)) from Adds.cellAt hW c0)
    rw [he] at HF ⊢
    rw [if_pos rfl, if_pos rfl, Int.toNat_natCast]
    generalize atQ l (k : Int) + n = x at *
    clear h h1 h2 h3 he c0
    go_enter Try.func28, Try.ntmps28
    go_wp2
    refine wp_scope_fwd 0 rfl ?_
    go_wp2_with (first
      | (go_at_call 62; refine HF.out.mono ?_; clear HF; rintro e w1 ⟨rfl, hA⟩; have c1 := HP.out w1 hA; have HA := Lib.hid hA; clear hA)
      | (go_at_call 64; refine (HC.out w1 HA.out).mono ?_; rintro e w2 ⟨rfl, g1, g2⟩; have H2 := Lib.hid (And.intro g1 g2); clear g1 g2))
    simp only [Exit.jump]
    go_ret2
    exact ⟨rfl, H2.out.1, (TnS.of_adds bc HA.out).trans H2.out.2⟩
  · rw [if_neg he, if_neg he]
    have HN := Lib.hid he
    have hne : (addE l i n == 0) = false := by simpa using he
    have HH := Lib.hid h
    generalize addE l i n = x at *
    clear h c0 he
    go_enter Try.func28, Try.ntmps28
    go_wp2
    refine wp_scope_fwd 0 rfl ?_
    have hx : ¬ x = 0 := HN.out
    go_wp2_with (go_at_call 62; refine HF.out.mono ?_; rintro e w1 ⟨rfl, ha⟩; have HA := Lib.hid ha; clear ha)
    go_step3
    refine ⟨rfl, ?_⟩
    go_wp2
    rw [Exit.noGoto_ret]
    go_ret2
    exact ⟨rfl, HH.out.adds HA.out, TnS.of_adds bc HA.out⟩
theorem count_noG {w : World} {v : Value} (h : NoG w v) (i : Int) : Calls Try.prog 30 #[v, .int .i64 i] w fun e w' => e = .returned (.int .i64 0) ∧ w = w' := by
  have HH := Lib.hid (has_noG h i)
  clear h
  go_enter Try.func30, Try.ntmps30
  go_wp2_with (go_at_call 67; refine HH.out.mono ?_; rintro e w1 ⟨rfl, rfl⟩)
  go_ret
  exact ⟨rfl, rfl⟩
theorem done_noG {w : World} {v : Value} (h : NoG w v) (i : Int) : Calls Try.prog 31 #[v, .int .i64 i] w fun e w' => e = .returned (.bool false) ∧ w = w' := by
  have HH := Lib.hid (has_noG h i)
  clear h
  go_enter Try.func31, Try.ntmps31
  go_wp2_with (go_at_call 67; refine HH.out.mono ?_; rintro e w1 ⟨rfl, rfl⟩)
  go_ret
  exact ⟨rfl, rfl⟩
theorem countG_any {w : World} {v : Value} {bc : Nat} {l : List Int} (h : HolG w v bc l) (i : Int) : Calls Try.prog 30 #[v, .int .i64 i] w fun e w' => e = .returned (.int .i64 (atQ l i)) ∧ w = w' := by
  have HH := Lib.hid (has_hol h i)
  obtain ⟨bp, hv, c0⟩ := h.c0
  subst hv
  by_cases hi : 0 ≤ i ∧ i < l.length
  · rw [show hasQ l i = true from decide_eq_true hi] at HH
    obtain ⟨k, rfl⟩ : ∃ k : Nat, i = k := ⟨i.toNat, by omega⟩
    have HC := Lib.hid (count_any h (k := k) (by omega))
    clear h hi
    go_enter Try.func30, Try.ntmps30
    go_wp2_with (first
      | (go_at_call 67; refine HH.out.mono ?_; rintro e w1 ⟨rfl, rfl⟩)
      | (go_at_call 68; refine HC.out.mono ?_; rintro e w1 ⟨rfl, rfl⟩))
    go_ret
    exact ⟨rfl, rfl⟩
  · rw [show hasQ l i = false from decide_eq_false hi] at HH
    rw [atQ_no hi]
    clear h hi c0
    go_enter Try.func30, Try.ntmps30
    go_wp2_with (go_at_call 67; refine HH.out.mono ?_; rintro e w1 ⟨rfl, rfl⟩)
    go_ret
    exact ⟨rfl, rfl⟩
theorem doneG_any {w : World} {v : Value} {bc : Nat} {l : List Int} (h : HolG w v bc l) (i : Int) : Calls Try.prog 31 #[v, .int .i64 i] w fun e w' => e = .returned (.bool (doneQ l i)) ∧ w = w' := by
  have HH := Lib.hid (has_hol h i)
  obtain ⟨bp, hv, c0⟩ := h.c0
  subst hv
  unfold doneQ
  by_cases hi : 0 ≤ i ∧ i < l.length
  · rw [show hasQ l i = true from decide_eq_true hi] at HH ⊢
    obtain ⟨k, rfl⟩ : ∃ k : Nat, i = k := ⟨i.toNat, by omega⟩
    have HC := Lib.hid (count_any h (k := k) (by omega))
    rw [Bool.true_and]
    generalize atQ l (k : Int) = x at *
    clear h hi
    by_cases hx : x = 0
    · subst hx
      go_enter Try.func31, Try.ntmps31
      go_wp2_with (first
        | (go_at_call 67; refine HH.out.mono ?_; rintro e w1 ⟨rfl, rfl⟩)
        | (go_at_call 68; refine HC.out.mono ?_; rintro e w1 ⟨rfl, rfl⟩))
      go_ret
      exact ⟨rfl, rfl⟩
    · have hb : (x == 0) = false := by simpa using hx
      rw [decide_eq_false hx]
      clear hx
      go_enter Try.func31, Try.ntmps31
      go_wp2_with (first
        | (go_at_call 67; refine HH.out.mono ?_; rintro e w1 ⟨rfl, rfl⟩)
        | (go_at_call 68; refine HC.out.mono ?_; rintro e w1 ⟨rfl, rfl⟩))
      go_ret
      exact ⟨rfl, rfl⟩
  · rw [show hasQ l i = false from decide_eq_false hi] at HH ⊢
    clear h hi c0
    go_enter Try.func31, Try.ntmps31
    go_wp2_with (go_at_call 67; refine HH.out.mono ?_; rintro e w1 ⟨rfl, rfl⟩)
    go_ret
    exact ⟨rfl, rfl⟩
end Go.Proofs.Ytedllkahalfjgaa
