/- Those that are taken; the iterator over them: its contract, at the wide fence. -/
import Derived.Test.YtedllkahalfjgaaWC1
namespace Go.Proofs.Ytedllkahalfjgaa
open Go Go.RowKit Go.Shelf
attribute [local go_sem] Oper.semAt_some

def tkB (x : Lk) : Bool := decide (x.rd.length ≠ 0) || decide (x.wr ≠ 0)
def upTo (ls : List Lk) (k : Nat) : List Nat := (List.range k).filter fun i => tkB (ls.getD i lk0)
def takenL (ls : List Lk) : List Nat := upTo ls ls.length
def cnt (ls : List Lk) (k : Nat) : Nat := (upTo ls k).length
theorem cnt_zero (ls : List Lk) : cnt ls 0 = 0 := rfl
theorem upTo_succ (ls : List Lk) (k : Nat) : upTo ls (k + 1) = upTo ls k ++ if tkB (ls.getD k lk0) then [k] else [] := by
  unfold upTo
  rw [List.range_succ, List.filter_append]
  cases h : tkB (ls.getD k lk0)
  · rw [List.filter_cons_of_neg (by rw [h]; simp)]; simp
  · rw [List.filter_cons_of_pos (p := fun i => tkB (ls.getD i lk0)) (by exact h)]; simp
theorem cnt_yes {ls : List Lk} {k : Nat} (h : tkB (ls.getD k lk0) = true) : cnt ls (k + 1) = cnt ls k + 1 := by unfold cnt; rw [upTo_succ, h]; simp
theorem cnt_no {ls : List Lk} {k : Nat} (h : tkB (ls.getD k lk0) = false) : cnt ls (k + 1) = cnt ls k := by unfold cnt; rw [upTo_succ, h]; simp
theorem upTo_le (ls : List Lk) : ∀ (n k : Nat), k ≤ n → ∃ l, upTo ls n = upTo ls k ++ l
  | 0, k, h => ⟨[], by rw [show k = 0 by omega]; rfl⟩
  | n + 1, k, h => by
    by_cases e : k = n + 1
    · exact ⟨[], by rw [e]; simp⟩
    · obtain ⟨l, hl⟩ := upTo_le ls n k (by omega)
      exact ⟨_, by rw [upTo_succ, hl, List.append_assoc]⟩
theorem upTo_at {ls : List Lk} {n k : Nat} (hk : k < n) (h : tkB (ls.getD k lk0) = true) : cnt ls k < (upTo ls n).length ∧ (upTo ls n).getD (cnt ls k) 0 = k := by
  obtain ⟨l, hl⟩ := upTo_le ls n (k + 1) hk
  rw [upTo_succ, h] at hl
  simp only [if_true, List.append_assoc, List.singleton_append] at hl
  constructor
  · rw [hl]; simp [cnt]
  · rw [hl]
    unfold cnt
    rw [List.getD_eq_getElem?_getD, List.getElem?_append_right (Nat.le_refl _)]
    simp
theorem cnt_le (ls : List Lk) {n k : Nat} (hk : k ≤ n) : cnt ls k ≤ cnt ls n := by
  obtain ⟨l, hl⟩ := upTo_le ls n k hk
  unfold cnt; rw [hl]; simp
/-- The round that comes next, of N. -/
def AtU (N : Nat) (pre : List Nat) (x : Nat) : Prop := x < N ∧ pre = List.range x
/-- One that is taken, and whether it is a writer. -/
def tkA (ls : List Lk) (x : Nat) : Nat := (takenL ls).getD x 0
def tkW (ls : List Lk) (x : Nat) : Bool := decide ((ls.getD (tkA ls x) lk0).wr ≠ 0)
abbrev tkV (ls : List Lk) (x : Nat) : Array Value := #[.int .i64 ((tkA ls x : Nat) : Int), .bool (tkW ls x)]
theorem getD_map {lv : List LM} {k : Nat} {x : LM} (h : lv[k]? = some x) : (lv.map LM.lk).getD k lk0 = x.lk := by
  rw [List.getD_eq_getElem?_getD, List.getElem?_map, h]; rfl
set_option maxRecDepth 100000 in
set_option maxHeartbeats 4000000 in
theorem rising1_in (B n : Nat) (hn : 1 ≤ n) (l Bm Bk : Nat) (M : Nat → Prop) (lv : List LM) (N : Nat) (hN : cnt (lv.map LM.lk) lv.length = N) (hl : lv.length ≤ 64) (hsv : ∀ x ∈ lv, ∃ ao cap, x.sv = .slice ao x.lk.rd.length cap) (J Jx : List Nat → World → Prop) (W : World)
    (hJ : Stable W.heap.size J)
    (hY : ∀ pre x W1, J pre W1 → AtU N pre x → YieldAt Fence.wide (n - 1) Try.prog l (tkV (lv.map LM.lk) x) W1 fun z W' =>
      (z = .returned (.bool true) ∧ J (pre ++ [x]) W' ∧ KeepC M W1 W' ∧ KeepsFrom B W1 W') ∨ (z = .returned (.bool false) ∧ Jx (pre ++ [x]) W' ∧ KeepsFrom B W1 W'))
    (_hB : B ≤ W.heap.size) (hBm : ¬ M Bm) (hBk : ¬ M Bk) (c1 : W.cell? ⟨Bm, 0, none⟩ = some (.pointer (some ⟨Bk, 0, none⟩))) (hH : BkS 94 W Bk (listC lv)) (h0 : J [] W) :
    CallsIn Fence.wide n Try.prog 87 #[.func (.yield l) #[] #[], .pointer (some ⟨Bm, 0, none⟩)] W fun z W' => (∃ v, z = .returned v) ∧
      ((∃ ys, ys = List.range N ∧ J ys W') ∨ (∃ pre, (∃ j, j ≤ N ∧ pre = List.range j) ∧ Jx pre W')) := by
  have HY := Lib.hid hY; have HJ := Lib.hid hJ; have HH := Lib.hid hH; have HL := Lib.hid hl; have HBm := Lib.hid hBm; have HBk := Lib.hid hBk; have HSV := Lib.hid hsv
  have HNN := Lib.hid hN
  have HA := Lib.hid (allW_any Bk lv.length hl W ((hH.cell 192).trans (listC_many hl)))
  obtain ⟨m, hm⟩ : ∃ m, lv.length = m := ⟨_, rfl⟩
  have HMM := Lib.hid hm
  rw [hm] at HA
  clear hY hJ hH hBm hBk hN hsv hm hl
  refine callsIn_of_wp Try.func87 rfl trivial ?_ rfl
  simp only [Try.ntmps87, List.size_toArray, List.length_cons, List.length_nil, Nat.reduceAdd, Nat.reduceSub, Array.replicate_succ, Array.replicate_zero, List.push_toArray, List.append_toArray, List.nil_append, List.cons_append]
  gi_wp2_with (refine ⟨trivial, ?_⟩; gi_at_call 79; refine (callsIn_wide.2 HA.out).mono ?_; rintro e w3 ⟨rfl, ha⟩; have HA3 := Lib.hid ha.adds; clear ha)
  have HB0 := Lib.hid (show KeepC M W w3 from KeepC.of_below HA3.out)
  have HJ0 := Lib.hid (HJ.out _ _ _ h0 HA3.out)
  clear h0
  gi_loopw [8] (fun i wr => ∃ k : Nat, i = .int .i64 k ∧ k ≤ m ∧ J (List.range (cnt (lv.map LM.lk) k)) wr ∧ KeepC M W wr ∧ W.heap.size ≤ wr.heap.size) (fun i _ => m + 1 - (intOf i).toNat)
  case atStart => exact ⟨0, rfl, Nat.zero_le _, HJ0.out, HB0.out, HA3.out.size⟩
  case round =>
    obtain ⟨k, rfl, hk, hJs, hnx, hsz⟩ := hrel
    have HX := Lib.hid hnx; have HJs := Lib.hid hJs; have HSz := Lib.hid hsz
    have hmI : (m : Int) ≤ 64 := by have := HL.out; have := HMM.out; omega
    have cm : wr.cell? ⟨Bm, 0, none⟩ = some (.pointer (some ⟨Bk, 0, none⟩)) := HX.out.cell HBm.out c1
    clear hnx hJs hsz
    by_cases hlt : k < m
    · obtain ⟨x, hx⟩ : ∃ x, lv[k]? = some x := ⟨_, List.getElem?_eq_getElem (by rw [HMM.out]; exact hlt)⟩
      obtain ⟨ao, cap, hsv⟩ := HSV.out x (List.mem_of_getElem? hx)
      have k0 := HX.out.cell HBk.out ((HH.out.cell (k * 3)).trans (listC_at HL.out hx 0 (by decide)))
      have k2 := HX.out.cell HBk.out ((HH.out.cell (k * 3 + 2)).trans (listC_at HL.out hx 2 (by decide)))
      have HR := Lib.hid (hasReaders_at Bk (k * 3) ao x.lk.rd.length cap wr (by rw [← hsv]; exact k0))
      have HW := Lib.hid (hasWriter_at Bk (k * 3) (decide (x.lk.wr ≠ 0)) wr k2)
      have hgx := getD_map hx
      have hkI : (k : Int) < (m : Int) := by omega
      by_cases ht : tkB x.lk = true
      · have ht2 : tkB ((lv.map LM.lk).getD k lk0) = true := by rw [hgx]; exact ht
        obtain ⟨hlt2, hat⟩ := upTo_at (n := lv.length) (by rw [HMM.out]; exact hlt) ht2
        have hc1 := cnt_yes ht2
        have hlt3 : cnt (lv.map LM.lk) k < N := by rw [← HNN.out]; exact hlt2
        have hta : tkA (lv.map LM.lk) (cnt (lv.map LM.lk) k) = k := by unfold tkA takenL; rw [List.length_map]; exact hat
        obtain ⟨fn, tmps, assign, body, hy, hR⟩ := HY.out _ _ wr HJs.out ⟨hlt3, rfl⟩
        dsimp only [tkV] at hy
        rw [show tkW (lv.map LM.lk) (cnt (lv.map LM.lk) k) = decide (x.lk.wr ≠ 0) by unfold tkW; rw [hta, hgx], hta] at hy
        have HC := Lib.hid hc1
        have HY2 := Lib.hid (And.intro hlt hlt3)
        unfold tkB at ht
        obtain ⟨q1, hq1⟩ : ∃ q1, decide (x.lk.rd.length ≠ 0) = q1 := ⟨_, rfl⟩
        obtain ⟨q2, hq2⟩ : ∃ q2, decide (x.lk.wr ≠ 0) = q2 := ⟨_, rfl⟩
        rw [hq1] at HR ht
        rw [hq2] at HW ht hy
        clear k0 k2 hgx ht2 hlt2 hat hc1 hlt3 hta hx hlt hk hsv hq1 hq2
        cases q1
        · have : q2 = true := by simpa using ht
          subst this
          clear ht
          gi_wp2_with (first
            | (refine ⟨trivial, ?_⟩; gi_at_call 71; refine (callsIn_wide.2 HR.out).mono ?_; rintro e w4 ⟨rfl, rfl⟩)
            | (refine ⟨trivial, ?_⟩; gi_at_call 69; refine (callsIn_wide.2 HW.out).mono ?_; rintro e w4 ⟨rfl, rfl⟩))
          refine hR.mono ?_
          rintro e W3 (⟨rfl, hJ3, hk3, hf3⟩ | ⟨rfl, hJx3, hf3⟩)
          · have HJ3 := Lib.hid (And.intro hJ3 (And.intro hk3 hf3))
            clear hJ3 hk3 hf3
            gi_wp2
            go_roundw
            case rel => exact ⟨k + 1, by go_num, HY2.out.1, by rw [HC.out, List.range_succ]; exact HJ3.out.1, HX.out.trans HJ3.out.2.1, Nat.le_trans HSz.out HJ3.out.2.2.size⟩
            case measure => have := HY2.out.1; simp [intOf]; omega
          · have HJ3 := Lib.hid hJx3; clear hJx3 hf3
            gi_wp2
            refine bodyPost_ret (results_none rfl _ _ _) rfl ?_
            exact ⟨⟨_, rfl⟩, .inr ⟨_, ⟨cnt (lv.map LM.lk) k + 1, HY2.out.2, (List.range_succ).symm⟩, HJ3.out⟩⟩
        · clear ht
          gi_wp2_with (first
            | (refine ⟨trivial, ?_⟩; gi_at_call 71; refine (callsIn_wide.2 HR.out).mono ?_; rintro e w4 ⟨rfl, rfl⟩)
            | (refine ⟨trivial, ?_⟩; gi_at_call 69; refine (callsIn_wide.2 HW.out).mono ?_; rintro e w4 ⟨rfl, rfl⟩))
          refine ⟨trivial, ?_⟩
          gi_wp2_with (refine ⟨trivial, ?_⟩; gi_at_call 69; refine (callsIn_wide.2 HW.out).mono ?_; rintro e w4 ⟨rfl, rfl⟩)
          refine hR.mono ?_
          rintro e W3 (⟨rfl, hJ3, hk3, hf3⟩ | ⟨rfl, hJx3, hf3⟩)
          · have HJ3 := Lib.hid (And.intro hJ3 (And.intro hk3 hf3))
            clear hJ3 hk3 hf3
            gi_wp2
            go_roundw
            case rel => exact ⟨k + 1, by go_num, HY2.out.1, by rw [HC.out, List.range_succ]; exact HJ3.out.1, HX.out.trans HJ3.out.2.1, Nat.le_trans HSz.out HJ3.out.2.2.size⟩
            case measure => have := HY2.out.1; simp [intOf]; omega
          · have HJ3 := Lib.hid hJx3; clear hJx3 hf3
            gi_wp2
            refine bodyPost_ret (results_none rfl _ _ _) rfl ?_
            exact ⟨⟨_, rfl⟩, .inr ⟨_, ⟨cnt (lv.map LM.lk) k + 1, HY2.out.2, (List.range_succ).symm⟩, HJ3.out⟩⟩
      · have ht0 : tkB x.lk = false := by simpa using ht
        have ht2 : tkB ((lv.map LM.lk).getD k lk0) = false := by rw [hgx]; exact ht0
        have hc1 := cnt_no ht2
        have HC := Lib.hid hc1
        have HLt := Lib.hid hlt
        unfold tkB at ht0
        rw [Bool.or_eq_false_iff] at ht0
        obtain ⟨h1, h2⟩ := ht0
        rw [h1] at HR
        rw [h2] at HW
        clear k0 k2 hgx ht ht2 hc1 hx hlt hk hsv h1 h2
        gi_wp2_with (first
          | (refine ⟨trivial, ?_⟩; gi_at_call 71; refine (callsIn_wide.2 HR.out).mono ?_; rintro e w4 ⟨rfl, rfl⟩)
          | (refine ⟨trivial, ?_⟩; gi_at_call 69; refine (callsIn_wide.2 HW.out).mono ?_; rintro e w4 ⟨rfl, rfl⟩))
        go_roundw
        case rel => exact ⟨k + 1, by go_num, HLt.out, by rw [HC.out]; exact HJs.out, HX.out, HSz.out⟩
        case measure => have := HLt.out; simp [intOf]; omega
    · have hkI : ¬ (k : Int) < (m : Int) := by omega
      have HE := Lib.hid (show k = m by omega)
      clear hlt hk
      gi_wp2
      go_end0
      exact ⟨⟨_, rfl⟩, .inl (by rw [← HNN.out, HMM.out, ← HE.out]; exact HJs.out)⟩
end Go.Proofs.Ytedllkahalfjgaa
