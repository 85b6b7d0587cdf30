/- Parse, Name: their contracts; the document's names. -/
import Derived.Test.YtooocgnjefbnkaaDoorAK1
import Derived.Test.YtooocgnjefbnkaaDoorMarks
import Derived.Test.YtooocgnjefbnkaaDoorTurn
namespace Go.Proofs.YtooocgnjefbnkaaDoor
open Go Go.RowKit Go.Shelf
attribute [local go_sem] Oper.semAt_some

theorem beq_no {y s : ByteArray} (h : ¬ y = s) : (y.toList == s.toList) = false := by
  rw [beq_eq_false_iff_ne]
  intro e
  rw [ByteArray.toList_eq, ByteArray.toList_eq] at e
  apply h
  cases y; cases s
  simp only [ByteArray.mk.injEq]
  exact Array.toList_inj.1 e
/-- The kind of a name, among the first k. -/
def pN (s : ByteArray) : Nat → Nat
  | 0 => 0
  | k + 1 => if pN s k ≠ 0 then pN s k else if nm k = s then k + 1 else 0
theorem pN_no {s : ByteArray} {k : Nat} (h : pN s k = 0) (hn : nm k ≠ s) : pN s (k + 1) = 0 := by simp [pN, h, hn]
theorem pN_yes {s : ByteArray} {k : Nat} (h : pN s k = 0) (hn : nm k = s) : pN s (k + 1) = k + 1 := by simp [pN, h, hn]
theorem pN_stay {s : ByteArray} {k : Nat} (h : pN s k ≠ 0) : ∀ d, pN s (k + d) = pN s k
  | 0 => rfl
  | d + 1 => by
    have := pN_stay h d
    rw [← Nat.add_assoc, pN, if_pos (by rw [this]; exact h), this]
theorem pN_hit {s : ByteArray} {k : Nat} (hk : k < 12) (h : pN s k = 0) (hn : nm k = s) : pN s 12 = k + 1 := by
  have h1 := pN_yes h hn
  have h2 := pN_stay (k := k + 1) (by rw [h1]; omega) (12 - (k + 1))
  rw [show k + 1 + (12 - (k + 1)) = 12 by omega] at h2
  rw [h2, h1]
theorem results_two {fn : Func} {t u : Tmp} (h : fn.results = #[.tmp t, .tmp u]) (tmps : Array Value) (P : Program) (w : World) : (results fn tmps).run P w = .ok (.tuple #[tmps.getD t undef, tmps.getD u undef]) w := by
  simp [results, h]
def ParsePost (s : ByteArray) (w : World) (e : Ending) (w' : World) : Prop := e = .returned (.tuple #[.int .i64 (pN s 12 : Nat), .int .i64 (if pN s 12 = 0 then 5 else 0)]) ∧ Adds w w'

set_option maxRecDepth 100000 in
set_option maxHeartbeats 4000000 in
theorem parse_any (s : ByteArray) (w : World) (hN : NamesW w) : Calls Tryd.prog 19 #[.string s] w (ParsePost s w) := by
  have HN := Lib.hid hN; clear hN
  refine (callsIn_wide (n := 6)).1 ?_
  refine callsIn_of_wp_marks Tryd.func19 rfl trivial ?_ rfl
  simp only [Tryd.ntmps19, List.size_toArray, List.length_cons, List.length_nil, Nat.reduceAdd, Nat.reduceSub, Array.replicate_succ, Array.replicate_zero, List.push_toArray, List.append_toArray, List.nil_append, List.cons_append]
  gi_wp2
  refine wpIn_wide.2 (wp_scope_fwd 1 rfl ((wpIn_wide (n := 6)).1 ?_))
  gi_wp2
  obtain ⟨w1, hw1⟩ : ∃ x, (w.alloc (.cells #[.string s] 9)).alloc (.cells #[.int .i64 0] 40) = x := ⟨_, rfl⟩
  rw [hw1]
  have bs : Boxed w1 w.heap.size 9 (.string s) := hw1 ▸ (Boxed.new w _ _).alloc _
  have bf : Boxed w1 (w.heap.size + 1) 40 (.int .i64 0) := by
    have := Boxed.new (w.alloc (.cells #[.string s] 9)) 40 (.int .i64 0)
    rw [World.size_alloc] at this
    exact hw1 ▸ this
  have A1 := Lib.hid (hw1 ▸ (Adds.new _ _).trans (Adds.new _ _) : Adds w w1)
  have HS1 := Lib.hid (show w1.heap.size = w.heap.size + 2 by rw [← hw1]; simp)
  clear hw1
  have HB := Lib.hid (And.intro bs bf); clear bs bf
  refine wpIn_label ?_
  gi_wp2_with (refine ⟨trivial, ?_⟩; gi_at_call 22; refine (callsIn_wide.2 (kinds_any _)).mono ?_; rintro e w' ⟨rfl, rfl⟩)
  have hsz := HS1.out
  refine' rangeFunc_S rfl (by omega) (gf := 33) (lb := #[]) rfl trivial (enters_of Tryd.func33 (by kernel_rfl) rfl) (kinds_seq 5 (by omega) (fun _ _ => True) w1 (HN.out.adds A1.out))
    (fun _ _ => trivial) (fun _ _ _ _ _ _ _ _ => trivial) (Below.refl _ _) (fun _ => rfl)
    (fun pre V => Boxed V w.heap.size 9 (.string s) ∧ Boxed V (w.heap.size + 1) 40 (.int .i64 0) ∧ pN s pre.length = 0 ∧ Below w.heap.size w V)
    (fun c pre V => c = .exit 0 ∧ Boxed V (w.heap.size + 1) 40 (.int .i64 (pre.length : Nat)) ∧ pN s 12 = pre.length ∧ pre.length ≠ 0 ∧ Below w.heap.size w V)
    ?own ?ownx ?h0 _ ?assign ?body ?done ?stop
  case own => exact fun _ A B hs hb => ⟨boxed_below hs.1 hb (by omega), boxed_below hs.2.1 hb (by omega), hs.2.2.1, hs.2.2.2.trans (hb.mono (by omega))⟩
  case ownx => exact fun _ _ A B hs hb => ⟨hs.1, boxed_below hs.2.1 hb (by omega), hs.2.2.1, hs.2.2.2.1, hs.2.2.2.2.trans (hb.mono (by omega))⟩
  case h0 => exact ⟨HB.out.1, HB.out.2, rfl, A1.out⟩
  case assign =>
    intro l2 x W2 K hK
    have HK := Lib.hid hK; clear hK
    gi_wp2
    exact HK.out
  case body =>
    rintro l2 pre x W2 ⟨hs2, hf2, hp2, hb2⟩ ⟨hx, rfl⟩
    have cs := hs2.cell
    have cf := hf2.cell
    have ff := hf2.frozen
    rw [List.length_range] at hp2
    have HX := Lib.hid (And.intro hs2 (And.intro hf2 hb2)); clear hs2 hf2 hb2
    have HP := Lib.hid hp2; clear hp2
    have HXX := Lib.hid hx; clear hx
    unfold nmV
    obtain ⟨y, hy⟩ : ∃ y, nm x = y := ⟨_, rfl⟩
    rw [hy]
    have HY := Lib.hid hy; clear hy
    by_cases he : y = s
    · subst he
      gi_wp2
      obtain ⟨hs2, hf2, hb2⟩ := HX.out
      refine ⟨(KeepsOthers.setCell _ _ _).from _, rfl, ?_, ?_, by simp, hb2.setCell (by show w.heap.size ≤ w.heap.size + 1; omega) _⟩
      · have := hf2.set (.int .i64 (1 + (x : Int)))
        rw [show ((List.range x ++ [x]).length : Int) = 1 + (x : Int) by simp; omega]
        exact this
      · rw [pN_hit HXX.out HP.out HY.out]
        simp
    · have hne : (y.toList == s.toList) = false := beq_no he
      gi_wp2
      obtain ⟨hs2, hf2, hb2⟩ := HX.out
      exact ⟨⟨Nat.le_refl _, fun _ _ _ h _ => h⟩, trivial, hs2, hf2, by rw [← List.range_succ, List.length_range]; exact pN_no HP.out (by rw [HY.out]; exact he), hb2⟩
  case done =>
    rintro D xs W2 hD rfl ⟨hs2, hf2, hp2, hb2⟩ hK
    have cf := hf2.cell
    clear hs2 hf2
    gi_wp2
    refine wpIn_wide.2 ?_
    go_step3
    refine ⟨rfl, ?_⟩
    refine (wpIn_wide (n := 6)).1 ?_
    gi_wp2
    rw [Exit.noGoto_ret]
    show LeavesInM _ _ _ _ _ _ _ _ _
    have hms : Marks w1.heap.size W2.heap.size W2 [{ target := .collected D, args := #[] }] := ⟨D, rfl, hD, (Array.getElem?_eq_some_iff.1 hK).1, hK, trivial⟩
    refine marks_leave _ _ _ hms fun W'' hb'' => ⟨_, results_two rfl _ _ _, ?_, hb2.trans (hb''.mono (by omega))⟩
    rw [List.length_range] at hp2
    rw [hp2]
    rfl
  case stop =>
    rintro D c pre W2 hD hpre ⟨rfl, hf2, hp2, hp0, hb2⟩ hK
    have cf := hf2.cell
    clear hf2
    obtain ⟨q, hq⟩ : ∃ q, pre.length = q := ⟨_, rfl⟩
    rw [hq] at cf hp0 hp2
    have hp1 : ((q : Int) == 0) = false := by rw [beq_eq_false_iff_ne]; omega
    clear hq hpre
    gi_wp2
    simp only [Exit.jump]
    show LeavesInM _ _ _ _ _ _ _ _ _
    have hms : Marks w1.heap.size W2.heap.size W2 [{ target := .collected D, args := #[] }] := ⟨D, rfl, hD, (Array.getElem?_eq_some_iff.1 hK).1, hK, trivial⟩
    refine marks_leave _ _ _ hms fun W'' hb'' => ⟨_, results_two rfl _ _ _, ?_, hb2.trans (hb''.mono (by omega))⟩
    rw [hp2, if_neg hp0]
    rfl

/-- Name: at a kind; at none. -/
theorem name_yes (k : Nat) (h1 : 1 ≤ k) (h12 : k ≤ 12) (w : World) (hN : NamesW w) : Calls Tryd.prog 17 #[.int .i64 k] w fun e w' => e = .returned (.tuple #[nmV (k - 1), .int .i64 0]) ∧ w = w' := by
  have c := hN (k - 1) (by omega)
  have hl : ¬ (k : Int) < 1 := by omega
  have hg : ¬ (12 : Int) < (k : Int) := by omega
  obtain ⟨nv, hnv⟩ : ∃ y, nmV (k - 1) = y := ⟨_, rfl⟩
  rw [hnv] at c ⊢
  obtain ⟨j, rfl⟩ : ∃ j, k = j + 1 := ⟨k - 1, by omega⟩
  have hj : ((j + 1 : Nat) : Int) - 1 = (j : Int) := by omega
  simp only [Nat.add_sub_cancel] at c
  clear hN hnv
  go_enter Tryd.func17, Tryd.ntmps17
  go_wp2
  refine wp_scope_fwd 0 rfl ?_
  go_wp2
  simp only [Exit.jump]
  go_ret2
  exact ⟨rfl, rfl⟩
theorem name_no (x : Int) (hk : ¬ (1 ≤ x ∧ x ≤ 12)) (w : World) : Calls Tryd.prog 17 #[.int .i64 x] w fun e w' => e = .returned (.tuple #[.string ByteArray.empty, .int .i64 2]) ∧ w = w' := by
  by_cases h : x < 1
  · clear hk
    go_enter Tryd.func17, Tryd.ntmps17
    go_wp2
    refine wp_scope_fwd 0 rfl ?_
    go_wp2
    go_step3
    refine ⟨rfl, ?_⟩
    go_wp2
    rw [Exit.noGoto_ret]
    go_ret2
    exact ⟨rfl, rfl⟩
  · have h2 : (12 : Int) < x := by omega
    clear hk
    go_enter Tryd.func17, Tryd.ntmps17
    go_wp2
    refine wp_scope_fwd 0 rfl ?_
    go_wp2
    go_step3
    refine ⟨rfl, ?_⟩
    go_wp2
    rw [Exit.noGoto_ret]
    go_ret2
    exact ⟨rfl, rfl⟩

/-- The document's list of names, in a world. -/
def NamesAt (n : Nat) (w : World) (v : Value) : Prop := ∃ b, v = .slice (some ⟨b, 0, none⟩) 12 12 ∧ n ≤ b ∧ ∀ i, i < 12 → w.cell? ⟨b, i, none⟩ = some (nmV i)
theorem NamesAt.adds {n : Nat} {w w' : World} {v : Value} (h : NamesAt n w v) (ha : Adds w w') : NamesAt n w' v := by
  obtain ⟨b, rfl, hb, hc⟩ := h
  exact ⟨b, rfl, hb, fun i hi => ha.cellAt (hc i hi)⟩
theorem refNames_any (w : World) : Calls Tryd.prog 18 #[] w fun e w' => ∃ v, e = .returned v ∧ NamesAt w.heap.size w' v ∧ Adds w w' := by
  go_enter Tryd.func18, Tryd.ntmps18
  go_wp2
  go_ret
  refine ⟨_, rfl, ⟨_, rfl, Nat.le_refl _, fun i hi => ?_⟩, Adds.new _ _⟩
  rw [cell_of_row _ w.heap.size i _ _ _ (heap_alloc_new w _)]
  match i, hi with
  | 0, _ => rfl
  | 1, _ => rfl
  | 2, _ => rfl
  | 3, _ => rfl
  | 4, _ => rfl
  | 5, _ => rfl
  | 6, _ => rfl
  | 7, _ => rfl
  | 8, _ => rfl
  | 9, _ => rfl
  | 10, _ => rfl
  | 11, _ => rfl

end Go.Proofs.YtooocgnjefbnkaaDoor
