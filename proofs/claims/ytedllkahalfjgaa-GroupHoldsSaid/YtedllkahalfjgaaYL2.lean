/- The law GroupHolds, walked. -/
import Derived.Test.YtedllkahalfjgaaYL0
import Derived.Test.YtedllkahalfjgaaYRow
namespace Go.Proofs.Ytedllkahalfjgaa
open Go Go.RowKit

theorem TnS.cellQ {b : Nat} {w w' : World} (h : TnS b w w') {c i : Nat} {v : Value} (hc : w.cell? ⟨c, i, none⟩ = some v) (hb : c ≠ b) : w'.cell? ⟨c, i, none⟩ = some v :=
  (World.cell?_of_block (h.block c (World.block_lt_of_cell? w _ hc) (fun e => hb (Option.some.inj e)))).trans hc
theorem atQ_two (s : Int) : atQ [0, s] 1 = s := rfl
theorem addE_two (s x : Int) : addE [0, s] 1 x = if -s ≤ x ∧ x ≤ 2147483647 - s then 0 else 250 := by
  unfold addE
  rw [if_pos (by simp), atQ_two]
theorem add_two_yes {s x : Int} (h : -s ≤ x ∧ x ≤ 2147483647 - s) : addE [0, s] 1 x = 0 ∧ addL [0, s] 1 x = [0, s + x] ∧ addW [0, s] 1 x = s + x := by
  have e : addE [0, s] 1 x = 0 := by rw [addE_two, if_pos h]
  refine ⟨e, ?_, ?_⟩
  · unfold addL; rw [if_pos e]; rfl
  · unfold addW; rw [if_pos e]; rfl
theorem add_two_no {s x : Int} (h : ¬ (-s ≤ x ∧ x ≤ 2147483647 - s)) : addE [0, s] 1 x = 250 ∧ addL [0, s] 1 x = [0, s] ∧ addW [0, s] 1 x = 0 := by
  have e : addE [0, s] 1 x = 250 := by rw [addE_two, if_neg h]
  refine ⟨e, ?_, ?_⟩
  · unfold addL; rw [if_neg (by rw [e]; decide)]
  · unfold addW; rw [if_neg (by rw [e]; decide)]
theorem done_two (s : Int) : doneQ [0, s] 1 = decide (s = 0) := by unfold doneQ hasQ; rw [atQ_two]; simp
theorem done_two0 (s : Int) : doneQ [0, s] 0 = true := by unfold doneQ hasQ; rw [show atQ [0, s] 0 = 0 from rfl]; simp
theorem HolG.two {w : World} {v : Value} {bc : Nat} {s : Int} (h : HolG w v bc [0, s]) : 0 ≤ s ∧ s ≤ 2147483647 := h.ok s (by simp)
theorem NumsW.at_ {N : Nat} {w w' : World} {v : Value} {l : List Int} (h : NumsW N w v l) (ha : Adds w w') {k : Nat} (hk : k < l.length) : ∃ g off cap, v = .slice (some ⟨g, off, none⟩) l.length cap ∧ g < N ∧ w'.cell? ⟨g, off + k, none⟩ = some (.int .i64 (l.getD k 0)) := by
  obtain ⟨ao, cap, rfl, _, hc⟩ := h
  obtain ⟨g, off, rfl, hg, hc⟩ := hc (by rintro rfl; simp at hk)
  exact ⟨g, off, cap, rfl, hg, Adds.cellAt ha (hc k hk)⟩
set_option maxRecDepth 100000 in
set_option maxHeartbeats 8000000 in
theorem law_holds15 (va : Value) (l : List Int) (w : World) (ha : NumsW w.heap.size w va l) (hk : ∀ y ∈ l, In64 y) :
    Calls Try.prog 8 #[va] w fun e W' => e = .returned (.bool true) ∧ Adds w W' := by
  have HW := Lib.hid works_any
  have HNum := Lib.hid num_any
  have HV := Lib.hid ha
  have HKo := Lib.hid hk
  obtain ⟨ao, cap, rfl, hmx, _⟩ := ha
  clear hk
  by_cases h60 : l.length ≤ 60
  · have h60I : ¬ 60 < (l.length : Int) := by omega
    have HNew := Lib.hid (newQ_yes 2 (by decide) w)
    have h5 : (l.length : Int) ≤ 60 := by omega
    clear h60 hmx
    go_enter Try.func8, Try.ntmps8
    go_wp2_with (go_at_call 20; refine HNew.out.mono ?_; rintro e w1 ⟨v, bc, rfl, h1, h2, h3⟩; have M1 := Lib.hid h1; have A1 := Lib.hid h3; have B1 := Lib.hid h2; clear h1 h2 h3 HNew)
    go_loopw [5, 6] (fun sv iv wr => ∃ (k : Nat) (s : Int), iv = .int .i64 k ∧ sv = .int .i64 s ∧ k ≤ l.length ∧ HolG wr v bc [0, s] ∧ Adds w wr) (fun _ iv _ => l.length + 1 - (intOf iv).toNat)
    case atStart => exact ⟨0, 0, rfl, rfl, Nat.zero_le _, M1.out, A1.out⟩
    case round =>
      obtain ⟨k, s, rfl, rfl, hk, hM, hA⟩ := hrel
      by_cases hlt : k < l.length
      · obtain ⟨g, off, cap', e, hgN, cx⟩ := HV.out.at_ hA hlt
        simp only [Value.slice.injEq] at e
        obtain ⟨rfl, e0, rfl⟩ := e
        clear e0
        have hx64 : In64 (l.getD k 0) := by
          rw [List.getD_eq_getElem?_getD, List.getElem?_eq_getElem hlt]
          exact HKo.out _ (List.getElem_mem hlt)
        have HX := Lib.hid (fun (W : World) (hT : TnS bc wr W) => show W.cell? ⟨g, off + k, none⟩ = some (.int .i64 (l.getD k 0)) from hT.cellQ cx (by have := B1.out; omega))
        obtain ⟨x, hx⟩ : ∃ x, l.getD k 0 = x := ⟨_, rfl⟩
        rw [hx] at cx hx64 HX
        clear hgN
        obtain ⟨x0, x1⟩ := hx64
        obtain ⟨s0, s1⟩ := hM.two
        have hltI : (k : Int) < (l.length : Int) := by omega
        have HK := Lib.hid (show k + 1 ≤ l.length from hlt)
        have HAr := Lib.hid hA
        have hw1 : IntKind.i64.wrap (-s) = -s := by rw [IntKind.wrap_i64]; omega
        have hw2 : IntKind.i64.wrap (2147483647 - s) = 2147483647 - s := by rw [IntKind.wrap_i64]; omega
        have HD0 := Lib.hid (fun (y : Int) (W : World) (h : HolG W v bc [0, y]) => show Calls Try.prog 31 #[v, .int .i64 0] W fun e w' => e = .returned (.bool true) ∧ W = w' from by have := doneG_any h 0; rwa [done_two0] at this)
        have HD1 := Lib.hid (fun (y : Int) (W : World) (h : HolG W v bc [0, y]) => show Calls Try.prog 31 #[v, .int .i64 1] W fun e w' => e = .returned (.bool (decide (y = 0))) ∧ W = w' from by have := doneG_any h 1; rwa [done_two] at this)
        have HCt := Lib.hid (fun (y : Int) (W : World) (h : HolG W v bc [0, y]) => show Calls Try.prog 30 #[v, .int .i64 1] W fun e w' => e = .returned (.int .i64 y) ∧ W = w' from countG_any h 1)
        by_cases hm : -s ≤ x ∧ x ≤ 2147483647 - s
        · have HAd := Lib.hid (show Calls Try.prog 28 #[v, .int .i64 1, .int .i64 x] wr (GoesQ wr v bc [0, s + x] (.tuple #[.int .i64 (s + x), .int .i64 0])) from by
            obtain ⟨e1, e2, e3⟩ := add_two_yes hm
            have := add_any hM 1 x
            rwa [e1, e2, e3] at this)
          obtain ⟨m0, m1⟩ := hm
          have hw3 : IntKind.i64.wrap (s + x) = s + x := by rw [IntKind.wrap_i64]; omega
          obtain ⟨y, hy⟩ : ∃ y, s + x = y := ⟨_, rfl⟩
          rw [hy] at HAd hw3
          have hyy : (y != y) = false := by simp
          clear hk hM hA hlt hx
          by_cases y0 : y = 0
          · subst y0
            go_wp2_with (first
              | (go_at_call 28; refine HAd.out.mono ?_; clear HAd; rintro e w3 ⟨rfl, h1, h2⟩; have M3 := Lib.hid h1; have T3 := Lib.hid h2; have cx3 := HX.out w3 h2; have HE0 := Lib.hid (HD0.out 0 w3 h1); have he1 := HD1.out 0 w3 h1; rw [decide_eq_true (rfl : (0 : Int) = 0)] at he1; have HE1 := Lib.hid he1; clear h1 h2 he1)
              | (go_at_call 22; refine (HNum.out _ _).mono ?_; rintro e w' ⟨rfl, rfl⟩)
              | (go_at_call 30; refine (HCt.out 0 w3 M3.out).mono ?_; rintro e w' ⟨rfl, rfl⟩)
              | (go_at_call 31; with_reducible refine HE1.out.mono ?_; clear HE1; rintro e w' ⟨rfl, rfl⟩)
              | (go_at_call 31; with_reducible refine HE0.out.mono ?_; rintro e w' ⟨rfl, rfl⟩))
            go_roundw
            case rel => exact ⟨k + 1, 0, by go_num, rfl, HK.out, M3.out, TnS.own HAr.out B1.out T3.out⟩
            case measure => simp [intOf]; have := HK.out; omega
          · have hy0 : (y == 0) = false := by simpa using y0
            go_wp2_with (first
              | (go_at_call 28; refine HAd.out.mono ?_; clear HAd; rintro e w3 ⟨rfl, h1, h2⟩; have M3 := Lib.hid h1; have T3 := Lib.hid h2; have cx3 := HX.out w3 h2; have HE0 := Lib.hid (HD0.out y w3 h1); have he1 := HD1.out y w3 h1; rw [decide_eq_false y0] at he1; have HE1 := Lib.hid he1; clear h1 h2 he1)
              | (go_at_call 22; refine (HNum.out _ _).mono ?_; rintro e w' ⟨rfl, rfl⟩)
              | (go_at_call 30; refine (HCt.out y w3 M3.out).mono ?_; rintro e w' ⟨rfl, rfl⟩)
              | (go_at_call 31; with_reducible refine HE1.out.mono ?_; clear HE1; rintro e w' ⟨rfl, rfl⟩)
              | (go_at_call 31; with_reducible refine HE0.out.mono ?_; rintro e w' ⟨rfl, rfl⟩))
            go_roundw
            case rel => exact ⟨k + 1, y, by go_num, rfl, HK.out, M3.out, TnS.own HAr.out B1.out T3.out⟩
            case measure => simp [intOf]; have := HK.out; omega
        · have HAd := Lib.hid (show Calls Try.prog 28 #[v, .int .i64 1, .int .i64 x] wr (GoesQ wr v bc [0, s] (.tuple #[.int .i64 0, .int .i64 250])) from by
            obtain ⟨e1, e2, e3⟩ := add_two_no hm
            have := add_any hM 1 x
            rwa [e1, e2, e3] at this)
          have hyy : (s != s) = false := by simp
          by_cases m0 : -s ≤ x
          · have m1 : ¬ x ≤ 2147483647 - s := fun h => hm ⟨m0, h⟩
            clear hk hM hA hlt hx hm
            by_cases y0 : s = 0
            · subst y0
              go_wp2_with (first
                | (go_at_call 28; refine HAd.out.mono ?_; clear HAd; rintro e w3 ⟨rfl, h1, h2⟩; have M3 := Lib.hid h1; have T3 := Lib.hid h2; have cx3 := HX.out w3 h2; have HE0 := Lib.hid (HD0.out 0 w3 h1); have he1 := HD1.out 0 w3 h1; rw [decide_eq_true (rfl : (0 : Int) = 0)] at he1; have HE1 := Lib.hid he1; clear h1 h2 he1)
                | (go_at_call 22; refine (HNum.out _ _).mono ?_; rintro e w' ⟨rfl, rfl⟩)
                | (go_at_call 30; refine (HCt.out 0 w3 M3.out).mono ?_; rintro e w' ⟨rfl, rfl⟩)
                | (go_at_call 31; with_reducible refine HE1.out.mono ?_; clear HE1; rintro e w' ⟨rfl, rfl⟩)
                | (go_at_call 31; with_reducible refine HE0.out.mono ?_; rintro e w' ⟨rfl, rfl⟩))
              go_roundw
              case rel => exact ⟨k + 1, 0, by go_num, rfl, HK.out, M3.out, TnS.own HAr.out B1.out T3.out⟩
              case measure => simp [intOf]; have := HK.out; omega
            · have hy0 : (s == 0) = false := by simpa using y0
              go_wp2_with (first
                | (go_at_call 28; refine HAd.out.mono ?_; clear HAd; rintro e w3 ⟨rfl, h1, h2⟩; have M3 := Lib.hid h1; have T3 := Lib.hid h2; have cx3 := HX.out w3 h2; have HE0 := Lib.hid (HD0.out s w3 h1); have he1 := HD1.out s w3 h1; rw [decide_eq_false y0] at he1; have HE1 := Lib.hid he1; clear h1 h2 he1)
                | (go_at_call 22; refine (HNum.out _ _).mono ?_; rintro e w' ⟨rfl, rfl⟩)
                | (go_at_call 30; refine (HCt.out s w3 M3.out).mono ?_; rintro e w' ⟨rfl, rfl⟩)
                | (go_at_call 31; with_reducible refine HE1.out.mono ?_; clear HE1; rintro e w' ⟨rfl, rfl⟩)
                | (go_at_call 31; with_reducible refine HE0.out.mono ?_; rintro e w' ⟨rfl, rfl⟩))
              go_roundw
              case rel => exact ⟨k + 1, s, by go_num, rfl, HK.out, M3.out, TnS.own HAr.out B1.out T3.out⟩
              case measure => simp [intOf]; have := HK.out; omega
          · clear hk hM hA hlt hx hm
            by_cases y0 : s = 0
            · subst y0
              go_wp2_with (first
                | (go_at_call 28; refine HAd.out.mono ?_; clear HAd; rintro e w3 ⟨rfl, h1, h2⟩; have M3 := Lib.hid h1; have T3 := Lib.hid h2; have cx3 := HX.out w3 h2; have HE0 := Lib.hid (HD0.out 0 w3 h1); have he1 := HD1.out 0 w3 h1; rw [decide_eq_true (rfl : (0 : Int) = 0)] at he1; have HE1 := Lib.hid he1; clear h1 h2 he1)
                | (go_at_call 22; refine (HNum.out _ _).mono ?_; rintro e w' ⟨rfl, rfl⟩)
                | (go_at_call 30; refine (HCt.out 0 w3 M3.out).mono ?_; rintro e w' ⟨rfl, rfl⟩)
                | (go_at_call 31; with_reducible refine HE1.out.mono ?_; clear HE1; rintro e w' ⟨rfl, rfl⟩)
                | (go_at_call 31; with_reducible refine HE0.out.mono ?_; rintro e w' ⟨rfl, rfl⟩))
              go_roundw
              case rel => exact ⟨k + 1, 0, by go_num, rfl, HK.out, M3.out, TnS.own HAr.out B1.out T3.out⟩
              case measure => simp [intOf]; have := HK.out; omega
            · have hy0 : (s == 0) = false := by simpa using y0
              go_wp2_with (first
                | (go_at_call 28; refine HAd.out.mono ?_; clear HAd; rintro e w3 ⟨rfl, h1, h2⟩; have M3 := Lib.hid h1; have T3 := Lib.hid h2; have cx3 := HX.out w3 h2; have HE0 := Lib.hid (HD0.out s w3 h1); have he1 := HD1.out s w3 h1; rw [decide_eq_false y0] at he1; have HE1 := Lib.hid he1; clear h1 h2 he1)
                | (go_at_call 22; refine (HNum.out _ _).mono ?_; rintro e w' ⟨rfl, rfl⟩)
                | (go_at_call 30; refine (HCt.out s w3 M3.out).mono ?_; rintro e w' ⟨rfl, rfl⟩)
                | (go_at_call 31; with_reducible refine HE1.out.mono ?_; clear HE1; rintro e w' ⟨rfl, rfl⟩)
                | (go_at_call 31; with_reducible refine HE0.out.mono ?_; rintro e w' ⟨rfl, rfl⟩))
              go_roundw
              case rel => exact ⟨k + 1, s, by go_num, rfl, HK.out, M3.out, TnS.own HAr.out B1.out T3.out⟩
              case measure => simp [intOf]; have := HK.out; omega
      · have hltI : ¬ (k : Int) < (l.length : Int) := by omega
        have HAr := Lib.hid hA
        clear hk hM hA hlt
        go_wp2_with (first
          | (go_at_call 22; refine (HNum.out _ _).mono ?_; rintro e w' ⟨rfl, rfl⟩)
          | (go_at_call 19; refine (HW.out _).mono ?_; rintro e w8 ⟨rfl, q8⟩; have H8 := Lib.hid q8; clear q8))
        go_ret
        exact ⟨rfl, Adds.trans HAr.out H8.out⟩
  · have h60I : 60 < (l.length : Int) := by omega
    go_enter Try.func8, Try.ntmps8
    go_wp2_with (go_at_call 19; refine (HW.out _).mono ?_; rintro e w8 ⟨rfl, q8⟩; have H8 := Lib.hid q8; clear q8)
    go_ret
    exact ⟨rfl, H8.out⟩
end Go.Proofs.Ytedllkahalfjgaa
