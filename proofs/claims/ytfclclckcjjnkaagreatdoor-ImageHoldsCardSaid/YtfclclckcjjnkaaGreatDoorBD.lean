/- Merged: AK1, AK2. -/
import Derived.Lib.LaidTab
import Derived.Test.YtfclclckcjjnkaaGreatDoorBC
import Derived.Test.YtfclclckcjjnkaaGreatDoorBA
namespace Go.Proofs.YtfclclckcjjnkaaGreatDoor
open Go Go.RowKit Go.Shelf
attribute [local go_sem] Oper.semAt_some

def nmB : List (List UInt8) := [[97, 100, 100], [115, 117, 98], [109, 117, 108], [100, 105, 118], [109, 111, 100], [97, 110, 100], [111, 114], [120, 111, 114], [115, 104, 108], [115, 104, 114], [108, 101, 115, 115], [101, 113, 117, 97, 108]]
def nm (i : Nat) : ByteArray := str (nmB.getD i [])
def nmV (i : Nat) : Value := .string (nm i)
/-- The table lies where it was laid. -/
def NamesW (w : World) : Prop := ∀ i, i < 12 → w.cell? ⟨5, i, none⟩ = some (nmV i)
theorem NamesW.adds {w w' : World} (h : NamesW w) (ha : Adds w w') : NamesW w' := fun i hi => ha.cellAt (h i hi)
def nmA : Array Value := #[nmV 0, nmV 1, nmV 2, nmV 3, nmV 4, nmV 5, nmV 6, nmV 7, nmV 8, nmV 9, nmV 10, nmV 11]
theorem nm_ix (j : Nat) (hj : j < 12) (W : World) : (Instr.index 316 (.agg nmA) (.int .i64 j)).run Tryz.prog W = .ok (nmV j) W := by
  match j, hj with
  | 0, _ => show _ = _; kernel_rfl
  | 1, _ => show _ = _; kernel_rfl
  | 2, _ => show _ = _; kernel_rfl
  | 3, _ => show _ = _; kernel_rfl
  | 4, _ => show _ = _; kernel_rfl
  | 5, _ => show _ = _; kernel_rfl
  | 6, _ => show _ = _; kernel_rfl
  | 7, _ => show _ = _; kernel_rfl
  | 8, _ => show _ = _; kernel_rfl
  | 9, _ => show _ = _; kernel_rfl
  | 10, _ => show _ = _; kernel_rfl
  | 11, _ => show _ = _; kernel_rfl

theorem kinds_any (w : World) : Calls Tryz.prog 262 #[] w fun e w' => e = .returned (.func (.func 275) #[] #[]) ∧ w = w' := by
  go_enter Tryz.func262, Tryz.ntmps262
  go_wp2
  go_ret
  exact ⟨rfl, rfl⟩
abbrev kdV (x : Nat) : Array Value := #[.int .i64 ((x : Nat) : Int), nmV x]
abbrev kdV1 (x : Nat) : Array Value := #[.int .i64 (1 + ((x : Nat) : Int)), nmV x]

set_option maxRecDepth 100000 in
set_option maxHeartbeats 2000000 in
theorem kinds_in (B n : Nat) (hn : 1 ≤ n) (l : Nat) (Kp : World → World → Prop) (J Jx : List Nat → World → Prop)
    (hY : ∀ pre x W, J pre W → (x < 12 ∧ pre = List.range x) → YieldAt Fence.wide (n - 1) Tryz.prog l (kdV1 x) W fun e W' =>
      (e = .returned (.bool true) ∧ J (pre ++ [x]) W' ∧ Kp W W' ∧ KeepsFrom B W W') ∨ (e = .returned (.bool false) ∧ Jx (pre ++ [x]) W' ∧ KeepsFrom B W W'))
    (W : World) (hN : NamesW W) (h0 : J [] W) :
    CallsIn Fence.wide n Tryz.prog 275 #[.func (.yield l) #[] #[]] W fun e W' => (∃ v, e = .returned v) ∧
      ((∃ ys, ys = List.range 12 ∧ J ys W') ∨ (∃ pre, (∃ x, x < 12 ∧ pre = List.range (x + 1)) ∧ Jx pre W')) := by
  have HY := Lib.hid hY; clear hY
  have c0 : W.cell? ⟨5, 0, none⟩ = some (nmV 0) := hN 0 (by decide)
  have c1 : W.cell? ⟨5, 1, none⟩ = some (nmV 1) := hN 1 (by decide)
  have c2 : W.cell? ⟨5, 2, none⟩ = some (nmV 2) := hN 2 (by decide)
  have c3 : W.cell? ⟨5, 3, none⟩ = some (nmV 3) := hN 3 (by decide)
  have c4 : W.cell? ⟨5, 4, none⟩ = some (nmV 4) := hN 4 (by decide)
  have c5 : W.cell? ⟨5, 5, none⟩ = some (nmV 5) := hN 5 (by decide)
  have c6 : W.cell? ⟨5, 6, none⟩ = some (nmV 6) := hN 6 (by decide)
  have c7 : W.cell? ⟨5, 7, none⟩ = some (nmV 7) := hN 7 (by decide)
  have c8 : W.cell? ⟨5, 8, none⟩ = some (nmV 8) := hN 8 (by decide)
  have c9 : W.cell? ⟨5, 9, none⟩ = some (nmV 9) := hN 9 (by decide)
  have c10 : W.cell? ⟨5, 10, none⟩ = some (nmV 10) := hN 10 (by decide)
  have c11 : W.cell? ⟨5, 11, none⟩ = some (nmV 11) := hN 11 (by decide)
  clear hN
  have HIX := Lib.hid nm_ix
  refine callsIn_of_wp Tryz.func275 rfl trivial ?_ rfl
  simp only [Tryz.ntmps275, List.size_toArray, List.length_cons, List.length_nil, Nat.reduceAdd, Nat.reduceSub, Array.replicate_succ, Array.replicate_zero, List.push_toArray, List.append_toArray, List.nil_append, List.cons_append]
  gi_wp2
  clear c0 c1 c2 c3 c4 c5 c6 c7 c8 c9 c10 c11
  gi_loopw [2, 3, 5] (fun _ _ i wr => ∃ j : Nat, i = .int .i64 j ∧ j ≤ 12 ∧ J (List.range j) wr) (fun _ _ i _ => 12 - (intOf i).toNat)
  case atStart => exact ⟨0, rfl, Nat.zero_le _, h0⟩
  case round =>
    obtain ⟨j, rfl, hjl, hJs⟩ := hrel
    have HJ := Lib.hid hJs; clear hJs
    by_cases hlt : j < 12
    · obtain ⟨fn, tmps, assign, body, hy, hR⟩ := HY.out _ j wr HJ.out ⟨hlt, rfl⟩
      have hix := HIX.out j hlt
      unfold nmA at hix
      dsimp only [kdV1] at hy
      obtain ⟨nv, hnv⟩ : ∃ y, nmV j = y := ⟨_, rfl⟩
      rw [hnv] at hix hy
      clear hnv
      gi_wp2
      refine hR.mono ?_
      rintro e W3 (⟨rfl, hJ3, hk3, _⟩ | ⟨rfl, hJx3, _⟩)
      · have HJ3 := Lib.hid hJ3; clear hJ3 hk3
        gi_wp2
        go_roundw
        case rel => exact ⟨j + 1, by go_num, hlt, by rw [List.range_succ]; exact HJ3.out⟩
        case measure => simp [intOf]; omega
      · have HJ3 := Lib.hid hJx3; clear hJx3
        gi_wp2
        refine bodyPost_ret (results_none rfl _ _ _) rfl ?_
        exact ⟨⟨_, rfl⟩, .inr ⟨_, ⟨j, hlt, List.range_succ.symm⟩, HJ3.out⟩⟩
    · gi_wp2
      go_end0
      obtain rfl : j = 12 := by omega
      exact ⟨⟨_, rfl⟩, .inl ⟨_, rfl, HJ.out⟩⟩
/-- .. as the law of a range asks for it. -/
theorem kinds_seq (n : Nat) (hn : 1 ≤ n) (Kp : World → World → Prop) (w : World) (hN : NamesW w) :
    SeqS Fence.wide n Tryz.prog 275 #[] kdV1 Kp (fun xs => xs = List.range 12) (fun pre => ∃ x, x < 12 ∧ pre = List.range (x + 1)) (fun pre x => x < 12 ∧ pre = List.range x) w := fun l J Jx W hb _ _ hY h0 =>
  kinds_in W.heap.size n hn l Kp J Jx hY W (hN.adds hb) h0
end Go.Proofs.YtfclclckcjjnkaaGreatDoor
namespace Go.Proofs.YtfclclckcjjnkaaGreatDoor
open Go Go.RowKit Go.Shelf
attribute [local go_sem] Oper.semAt_some

theorem beq_no {y s : ByteArray} (h : ¬ y = s) : (y.toList == s.toList) = false := by
  rw [beq_eq_false_iff_ne]
  intro e
  rw [ByteArray.toList_eq, ByteArray.toList_eq] at e
  apply h
  cases y; cases s
  simp only [ByteArray.mk.injEq]
  exact Array.toList_inj.1 e
/-- The kind of a name, among the first k. -/
def pN (s : ByteArray) : Nat → Nat
  | 0 => 0
  | k + 1 => if pN s k ≠ 0 then pN s k else if nm k = s then k + 1 else 0
theorem pN_no {s : ByteArray} {k : Nat} (h : pN s k = 0) (hn : nm k ≠ s) : pN s (k + 1) = 0 := by simp [pN, h, hn]
theorem pN_yes {s : ByteArray} {k : Nat} (h : pN s k = 0) (hn : nm k = s) : pN s (k + 1) = k + 1 := by simp [pN, h, hn]
theorem pN_stay {s : ByteArray} {k : Nat} (h : pN s k ≠ 0) : ∀ d, pN s (k + d) = pN s k
  | 0 => rfl
  | d + 1 => by
    have := pN_stay h d
    rw [← Nat.add_assoc, pN, if_pos (by rw [this]; exact h), this]
theorem pN_hit {s : ByteArray} {k : Nat} (hk : k < 12) (h : pN s k = 0) (hn : nm k = s) : pN s 12 = k + 1 := by
  have h1 := pN_yes h hn
  have h2 := pN_stay (k := k + 1) (by rw [h1]; omega) (12 - (k + 1))
  rw [show k + 1 + (12 - (k + 1)) = 12 by omega] at h2
  rw [h2, h1]
theorem results_two {fn : Func} {t u : Tmp} (h : fn.results = #[.tmp t, .tmp u]) (tmps : Array Value) (P : Program) (w : World) : (results fn tmps).run P w = .ok (.tuple #[tmps.getD t undef, tmps.getD u undef]) w := by
  simp [results, h]
def ParsePost (s : ByteArray) (w : World) (e : Ending) (w' : World) : Prop := e = .returned (.tuple #[.int .i64 (pN s 12 : Nat), .int .i64 (if pN s 12 = 0 then 5 else 0)]) ∧ Adds w w'

set_option maxRecDepth 100000 in
set_option maxHeartbeats 4000000 in
theorem parse_any (s : ByteArray) (w : World) (hN : NamesW w) : Calls Tryz.prog 249 #[.string s] w (ParsePost s w) := by
  have HN := Lib.hid hN; clear hN
  refine (callsIn_wide (n := 6)).1 ?_
  refine callsIn_of_wp_marks Tryz.func249 rfl trivial ?_ rfl
  simp only [Tryz.ntmps249, List.size_toArray, List.length_cons, List.length_nil, Nat.reduceAdd, Nat.reduceSub, Array.replicate_succ, Array.replicate_zero, List.push_toArray, List.append_toArray, List.nil_append, List.cons_append]
  gi_wp2
  refine wpIn_wide.2 (wp_scope_fwd 1 rfl ((wpIn_wide (n := 6)).1 ?_))
  gi_wp2
  obtain ⟨w1, hw1⟩ : ∃ x, (w.alloc (.cells #[.string s] 9)).alloc (.cells #[.int .i64 0] 295) = x := ⟨_, rfl⟩
  rw [hw1]
  have bs : Boxed w1 w.heap.size 9 (.string s) := hw1 ▸ (Boxed.new w _ _).alloc _
  have bf : Boxed w1 (w.heap.size + 1) 295 (.int .i64 0) := by
    have := Boxed.new (w.alloc (.cells #[.string s] 9)) 295 (.int .i64 0)
    rw [World.size_alloc] at this
    exact hw1 ▸ this
  have A1 := Lib.hid (hw1 ▸ (Adds.new _ _).trans (Adds.new _ _) : Adds w w1)
  have HS1 := Lib.hid (show w1.heap.size = w.heap.size + 2 by rw [← hw1]; simp)
  clear hw1
  have HB := Lib.hid (And.intro bs bf); clear bs bf
  refine wpIn_label ?_
  gi_wp2_with (refine ⟨trivial, ?_⟩; gi_at_call 262; refine (callsIn_wide.2 (kinds_any _)).mono ?_; rintro e w' ⟨rfl, rfl⟩)
  have hsz := HS1.out
  refine' rangeFunc_S rfl (by omega) (gf := 275) (lb := #[]) rfl trivial (enters_of Tryz.func275 (by kernel_rfl) rfl) (kinds_seq 5 (by omega) (fun _ _ => True) w1 (HN.out.adds A1.out))
    (fun _ _ => trivial) (fun _ _ _ _ _ _ _ _ => trivial) (Below.refl _ _) (fun _ => rfl)
    (fun pre V => Boxed V w.heap.size 9 (.string s) ∧ Boxed V (w.heap.size + 1) 295 (.int .i64 0) ∧ pN s pre.length = 0 ∧ Below w.heap.size w V)
    (fun c pre V => c = .exit 0 ∧ Boxed V (w.heap.size + 1) 295 (.int .i64 (pre.length : Nat)) ∧ pN s 12 = pre.length ∧ pre.length ≠ 0 ∧ Below w.heap.size w V)
    ?own ?ownx ?h0 _ ?assign ?body ?done ?stop
  case own => exact fun _ A B hs hb => ⟨boxed_below hs.1 hb (by omega), boxed_below hs.2.1 hb (by omega), hs.2.2.1, hs.2.2.2.trans (hb.mono (by omega))⟩
  case ownx => exact fun _ _ A B hs hb => ⟨hs.1, boxed_below hs.2.1 hb (by omega), hs.2.2.1, hs.2.2.2.1, hs.2.2.2.2.trans (hb.mono (by omega))⟩
  case h0 => exact ⟨HB.out.1, HB.out.2, rfl, A1.out⟩
  case assign =>
    intro l2 x W2 K hK
    have HK := Lib.hid hK; clear hK
    gi_wp2
    exact HK.out
  case body =>
    rintro l2 pre x W2 ⟨hs2, hf2, hp2, hb2⟩ ⟨hx, rfl⟩
    have cs := hs2.cell
    have cf := hf2.cell
    have ff := hf2.frozen
    rw [List.length_range] at hp2
    have HX := Lib.hid (And.intro hs2 (And.intro hf2 hb2)); clear hs2 hf2 hb2
    have HP := Lib.hid hp2; clear hp2
    have HXX := Lib.hid hx; clear hx
    unfold nmV
    obtain ⟨y, hy⟩ : ∃ y, nm x = y := ⟨_, rfl⟩
    rw [hy]
    have HY := Lib.hid hy; clear hy
    by_cases he : y = s
    · subst he
      gi_wp2
      obtain ⟨hs2, hf2, hb2⟩ := HX.out
      refine ⟨(KeepsOthers.setCell _ _ _).from _, rfl, ?_, ?_, by simp, hb2.setCell (by show w.heap.size ≤ w.heap.size + 1; omega) _⟩
      · have := hf2.set (.int .i64 (1 + (x : Int)))
        rw [show ((List.range x ++ [x]).length : Int) = 1 + (x : Int) by simp; omega]
        exact this
      · rw [pN_hit HXX.out HP.out HY.out]
        simp
    · have hne : (y.toList == s.toList) = false := beq_no he
      gi_wp2
      obtain ⟨hs2, hf2, hb2⟩ := HX.out
      exact ⟨⟨Nat.le_refl _, fun _ _ _ h _ => h⟩, trivial, hs2, hf2, by rw [← List.range_succ, List.length_range]; exact pN_no HP.out (by rw [HY.out]; exact he), hb2⟩
  case done =>
    rintro D xs W2 hD rfl ⟨hs2, hf2, hp2, hb2⟩ hK
    have cf := hf2.cell
    clear hs2 hf2
    gi_wp2
    refine wpIn_wide.2 ?_
    go_step3
    refine ⟨rfl, ?_⟩
    refine (wpIn_wide (n := 6)).1 ?_
    gi_wp2
    rw [Exit.noGoto_ret]
    show LeavesInM _ _ _ _ _ _ _ _ _
    have hms : Marks w1.heap.size W2.heap.size W2 [{ target := .collected D, args := #[] }] := ⟨D, rfl, hD, (Array.getElem?_eq_some_iff.1 hK).1, hK, trivial⟩
    refine marks_leave _ _ _ hms fun W'' hb'' => ⟨_, results_two rfl _ _ _, ?_, hb2.trans (hb''.mono (by omega))⟩
    rw [List.length_range] at hp2
    rw [hp2]
    rfl
  case stop =>
    rintro D c pre W2 hD hpre ⟨rfl, hf2, hp2, hp0, hb2⟩ hK
    have cf := hf2.cell
    clear hf2
    obtain ⟨q, hq⟩ : ∃ q, pre.length = q := ⟨_, rfl⟩
    rw [hq] at cf hp0 hp2
    have hp1 : ((q : Int) == 0) = false := by rw [beq_eq_false_iff_ne]; omega
    clear hq hpre
    gi_wp2
    simp only [Exit.jump]
    show LeavesInM _ _ _ _ _ _ _ _ _
    have hms : Marks w1.heap.size W2.heap.size W2 [{ target := .collected D, args := #[] }] := ⟨D, rfl, hD, (Array.getElem?_eq_some_iff.1 hK).1, hK, trivial⟩
    refine marks_leave _ _ _ hms fun W'' hb'' => ⟨_, results_two rfl _ _ _, ?_, hb2.trans (hb''.mono (by omega))⟩
    rw [hp2, if_neg hp0]
    rfl

/-- Name: at a kind; at none. -/
theorem name_yes (k : Nat) (h1 : 1 ≤ k) (h12 : k ≤ 12) (w : World) (hN : NamesW w) : Calls Tryz.prog 238 #[.int .i64 k] w fun e w' => e = .returned (.tuple #[nmV (k - 1), .int .i64 0]) ∧ w = w' := by
  have c := hN (k - 1) (by omega)
  have hl : ¬ (k : Int) < 1 := by omega
  have hg : ¬ (12 : Int) < (k : Int) := by omega
  obtain ⟨nv, hnv⟩ : ∃ y, nmV (k - 1) = y := ⟨_, rfl⟩
  rw [hnv] at c ⊢
  obtain ⟨j, rfl⟩ : ∃ j, k = j + 1 := ⟨k - 1, by omega⟩
  have hj : ((j + 1 : Nat) : Int) - 1 = (j : Int) := by omega
  simp only [Nat.add_sub_cancel] at c
  clear hN hnv
  go_enter Tryz.func238, Tryz.ntmps238
  go_wp2
  refine wp_scope_fwd 0 rfl ?_
  go_wp2
  simp only [Exit.jump]
  go_ret2
  exact ⟨rfl, rfl⟩
theorem name_no (x : Int) (hk : ¬ (1 ≤ x ∧ x ≤ 12)) (w : World) : Calls Tryz.prog 238 #[.int .i64 x] w fun e w' => e = .returned (.tuple #[.string ByteArray.empty, .int .i64 2]) ∧ w = w' := by
  by_cases h : x < 1
  · clear hk
    go_enter Tryz.func238, Tryz.ntmps238
    go_wp2
    refine wp_scope_fwd 0 rfl ?_
    go_wp2
    go_step3
    refine ⟨rfl, ?_⟩
    go_wp2
    rw [Exit.noGoto_ret]
    go_ret2
    exact ⟨rfl, rfl⟩
  · have h2 : (12 : Int) < x := by omega
    clear hk
    go_enter Tryz.func238, Tryz.ntmps238
    go_wp2
    refine wp_scope_fwd 0 rfl ?_
    go_wp2
    go_step3
    refine ⟨rfl, ?_⟩
    go_wp2
    rw [Exit.noGoto_ret]
    go_ret2
    exact ⟨rfl, rfl⟩

/-- The document's list of names, in a world. -/
def NamesAt (n : Nat) (w : World) (v : Value) : Prop := ∃ b, v = .slice (some ⟨b, 0, none⟩) 12 12 ∧ n ≤ b ∧ ∀ i, i < 12 → w.cell? ⟨b, i, none⟩ = some (nmV i)
theorem NamesAt.adds {n : Nat} {w w' : World} {v : Value} (h : NamesAt n w v) (ha : Adds w w') : NamesAt n w' v := by
  obtain ⟨b, rfl, hb, hc⟩ := h
  exact ⟨b, rfl, hb, fun i hi => ha.cellAt (hc i hi)⟩
theorem refNames_any (w : World) : Calls Tryz.prog 98 #[] w fun e w' => ∃ v, e = .returned v ∧ NamesAt w.heap.size w' v ∧ Adds w w' := by
  go_enter Tryz.func98, Tryz.ntmps98
  go_wp2
  go_ret
  refine ⟨_, rfl, ⟨_, rfl, Nat.le_refl _, fun i hi => ?_⟩, Adds.new _ _⟩
  rw [cell_of_row _ w.heap.size i _ _ _ (heap_alloc_new w _)]
  match i, hi with
  | 0, _ => rfl
  | 1, _ => rfl
  | 2, _ => rfl
  | 3, _ => rfl
  | 4, _ => rfl
  | 5, _ => rfl
  | 6, _ => rfl
  | 7, _ => rfl
  | 8, _ => rfl
  | 9, _ => rfl
  | 10, _ => rfl
  | 11, _ => rfl

end Go.Proofs.YtfclclckcjjnkaaGreatDoor
