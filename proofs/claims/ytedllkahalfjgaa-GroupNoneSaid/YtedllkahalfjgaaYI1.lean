/- Those that are not done; rising and its iterator: their contracts, at the wide fence. -/
import Derived.Test.YtedllkahalfjgaaYF4
namespace Go.Proofs.Ytedllkahalfjgaa
open Go Go.RowKit Go.Shelf
attribute [local go_sem] Oper.semAt_some

def upO (l : List Int) (k : Nat) : List Nat := (List.range k).filter fun i => decide (l.getD i 0 ≠ 0)
def openL (l : List Int) : List Nat := upO l l.length
def cntO (l : List Int) (k : Nat) : Nat := (upO l k).length
theorem upO_succ (l : List Int) (k : Nat) : upO l (k + 1) = upO l k ++ if l.getD k 0 = 0 then [] else [k] := by
  unfold upO
  rw [List.range_succ, List.filter_append]
  by_cases h : l.getD k 0 = 0
  · rw [List.filter_cons_of_neg (by rw [h]; simp), if_pos h]; simp
  · rw [List.filter_cons_of_pos (p := fun i => decide (l.getD i 0 ≠ 0)) (by simpa using h), if_neg h]; simp
theorem cntO_yes {l : List Int} {k : Nat} (h : ¬ l.getD k 0 = 0) : cntO l (k + 1) = cntO l k + 1 := by unfold cntO; rw [upO_succ, if_neg h]; simp
theorem cntO_no {l : List Int} {k : Nat} (h : l.getD k 0 = 0) : cntO l (k + 1) = cntO l k := by unfold cntO; rw [upO_succ, if_pos h]; simp
theorem upO_le (l : List Int) : ∀ (n k : Nat), k ≤ n → ∃ m, upO l n = upO l k ++ m
  | 0, k, h => ⟨[], by rw [show k = 0 by omega]; rfl⟩
  | n + 1, k, h => by
    by_cases e : k = n + 1
    · exact ⟨[], by rw [e]; simp⟩
    · obtain ⟨m, hm⟩ := upO_le l n k (by omega)
      exact ⟨_, by rw [upO_succ, hm, List.append_assoc]⟩
theorem upO_at {l : List Int} {n k : Nat} (hk : k < n) (h : ¬ l.getD k 0 = 0) : cntO l k < (upO l n).length ∧ (upO l n).getD (cntO l k) 0 = k := by
  obtain ⟨m, hm⟩ := upO_le l n (k + 1) hk
  rw [upO_succ, if_neg h] at hm
  simp only [List.append_assoc, List.singleton_append] at hm
  constructor
  · rw [hm]; simp [cntO]
  · rw [hm]
    unfold cntO
    rw [List.getD_eq_getElem?_getD, List.getElem?_append_right (Nat.le_refl _)]
    simp
theorem openL_len (l : List Int) : (openL l).length ≤ l.length := by
  unfold openL upO
  have := List.length_filter_le (fun i => decide (l.getD i 0 ≠ 0)) (List.range l.length)
  rw [List.length_range] at this
  exact this
/-- The x-th that is not done. -/
def opA (l : List Int) (x : Nat) : Nat := (openL l).getD x 0
theorem opA_at {l : List Int} {x : Nat} (h : x < (openL l).length) : opA l x < l.length ∧ ¬ l.getD (opA l x) 0 = 0 := by
  have hm : opA l x ∈ openL l := by
    unfold opA
    rw [List.getD_eq_getElem?_getD, List.getElem?_eq_getElem h]
    exact List.getElem_mem h
  have hm2 : opA l x ∈ (List.range l.length).filter fun i => decide (l.getD i 0 ≠ 0) := hm
  obtain ⟨h1, h2⟩ := List.mem_filter.1 hm2
  exact ⟨List.mem_range.1 h1, by simpa using h2⟩
/-- The count at x. -/
def gQ (l : List Int) (x : Nat) : Int := l.getD x 0
abbrev opV (l : List Int) (x : Nat) : Array Value := #[.int .i64 ((opA l x : Nat) : Int), .int .i64 (gQ l (opA l x))]
abbrev riV (l : List Int) (x : Nat) : Array Value := #[.int .i64 ((x : Nat) : Int), .int .i64 (gQ l x)]
/-- The round that comes next, of N. -/
def AtO (N : Nat) (pre : List Nat) (x : Nat) : Prop := x < N ∧ pre = List.range x
theorem keepC_stableO (M : Nat → Prop) {B : Nat} {W : World} (hB : W.heap.size ≤ B) {β : Type} : Stable B (fun (_ : β) W' => KeepC M W W') := fun _ A C h hk => fun k c e f hm hc => by
  have hlt := (Array.getElem?_eq_some_iff.1 hc).1
  rw [hk.block k (by omega)]
  exact h k c e f hm hc
theorem keepsFrom_upO {B B' : Nat} {W W' : World} (h : KeepsFrom B W W') (hB : B ≤ B') : KeepsFrom B' W W' := ⟨h.size, fun k o hk ho hc => h.same k o (Nat.le_trans hB hk) ho hc⟩
theorem rising_any (Bk : Nat) (w : World) : Calls Try.prog 66 #[.pointer (some ⟨Bk, 0, none⟩)] w fun x w' =>
    x = .returned (.func (.func 84) #[] #[.pointer (some ⟨w.heap.size, 0, none⟩)]) ∧ w.alloc (.cells #[.pointer (some ⟨Bk, 0, none⟩)] 67) = w' := by
  go_enter Try.func66, Try.ntmps66
  go_wp2
  go_ret
  exact ⟨rfl, rfl⟩
set_option maxRecDepth 100000 in
set_option maxHeartbeats 4000000 in
theorem rising1_in (B n : Nat) (hn : 1 ≤ n) (q Bm Bk : Nat) (M : Nat → Prop) (l : List Int) (hl : l.length ≤ 64) (J Jx : List Nat → World → Prop) (W : World)
    (hJ : Stable W.heap.size J)
    (hY : ∀ pre x W1, J pre W1 → AtO l.length pre x → YieldAt Fence.wide (n - 1) Try.prog q (riV l x) W1 fun z W' =>
      (z = .returned (.bool true) ∧ J (pre ++ [x]) W' ∧ KeepC M W1 W' ∧ KeepsFrom B W1 W') ∨ (z = .returned (.bool false) ∧ Jx (pre ++ [x]) W' ∧ KeepsFrom B W1 W'))
    (_hB : B ≤ W.heap.size) (hBm : ¬ M Bm) (hBk : ¬ M Bk) (c1 : W.cell? ⟨Bm, 0, none⟩ = some (.pointer (some ⟨Bk, 0, none⟩))) (hH : BkS 115 W Bk (cntC l)) (h0 : J [] W) :
    CallsIn Fence.wide n Try.prog 84 #[.func (.yield q) #[] #[], .pointer (some ⟨Bm, 0, none⟩)] W fun z W' => (∃ v, z = .returned v) ∧
      ((∃ ys, ys = List.range l.length ∧ J ys W') ∨ (∃ pre, (∃ j, j ≤ l.length ∧ pre = List.range j) ∧ Jx pre W')) := by
  have HY := Lib.hid hY; have HJ := Lib.hid hJ; have HH := Lib.hid hH; have HL := Lib.hid hl; have HBm := Lib.hid hBm; have HBk := Lib.hid hBk
  obtain ⟨m, hm⟩ : ∃ m, l.length = m := ⟨_, rfl⟩
  have HMM := Lib.hid hm
  have cm := (hH.cell 64).trans (cntC_many hl)
  obtain ⟨z, hz⟩ : ∃ z : Int, ((l.length : Nat) : Int) = z := ⟨_, rfl⟩
  rw [hz] at cm
  have z0 : 0 ≤ z := by omega
  have z1 : z ≤ 64 := by omega
  have hr := fun W => run_sliceAt_array_h (P := Try.prog) W 113 ⟨Bk, 0, none⟩ (by kernel_rfl) .i64 z z0 (by rw [show Try.prog.arrayLen 113 = 64 by kernel_rfl]; exact z1)
  have HZ := Lib.hid (show z.toNat = m ∧ z = (m : Int) by omega)
  have d1 : W.drew.cell? ⟨Bm, 0, none⟩ = some (.pointer (some ⟨Bk, 0, none⟩)) := c1
  have d2 : W.drew.cell? ⟨Bk, 64, none⟩ = some (.int .i64 z) := cm
  rw [hm]
  clear hY hJ hH hBm hBk hl hm hz cm
  refine callsIn_of_wp Try.func84 rfl trivial ?_ rfl
  simp only [Try.ntmps84, List.size_toArray, List.length_cons, List.length_nil, Nat.reduceAdd, Nat.reduceSub, Array.replicate_succ, Array.replicate_zero, List.push_toArray, List.append_toArray, List.nil_append, List.cons_append]
  gi_wp2
  have HD1 := Lib.hid (fun (W' : World) (ha : Adds W.drew W') => show W'.cell? ⟨Bm, 0, none⟩ = some (.pointer (some ⟨Bk, 0, none⟩)) from Adds.cellAt ha d1)
  have HD2 := Lib.hid (fun (W' : World) (ha : Adds W.drew W') => show W'.cell? ⟨Bk, 64, none⟩ = some (.int .i64 z) from Adds.cellAt ha d2)
  have hzt := HZ.out.1
  refine wpIn_wide.2 ?_
  refine wp_region_loose [] (fun _ _ _ => True) Adds (by kernel_rfl) (by kernel_rfl) (by simp) Adds.refl (fun _ _ _ h k => Adds.trans h k) (fun _ _ _ _ _ _ => trivial) ?_
  repeat (refine wpL_step (fun K hK => ?_); first
    | (refine stepL_ex rfl rfl rfl Adds.refl (fun w' hw' => rfl) ?_; go_simp; refine hK _ ?_; clear hK K)
    | (refine stepL_ex (v := .pointer (some ⟨Bk, 0, none⟩)) rfl rfl rfl Adds.refl ?_ ?_; (· (intro w' hw'; clear hK; have hc := HD1.out w' hw'; go_simp)); go_simp; refine hK _ ?_; clear hK K)
    | (refine stepL_ex (v := .int .i64 z) rfl rfl rfl Adds.refl ?_ ?_; (· (intro w' hw'; clear hK; have hc := HD2.out w' hw'; go_simp)); go_simp; refine hK _ ?_; clear hK K)
    | (refine stepL_ex (v := .slice (some ⟨Bk, 0, none⟩) m 64) rfl rfl rfl Adds.refl ?_ ?_; (· (intro w' hw'; clear hK; have hc := hr w'; go_simp)); go_simp; refine hK _ ?_; clear hK K)
    | (refine stepL_ex (v := .int .i64 ((m : Nat) : Int)) rfl rfl rfl Adds.refl ?_ ?_; (· (intro w' hw'; clear hK; go_simp)); go_simp; refine hK _ ?_; clear hK K))
  refine wpL_nil ?_
  intro w3 a3
  simp only [forL]
  have HA3 := Lib.hid (Adds.trans (Adds.drew W) a3)
  have HB0 := Lib.hid (show KeepC M W w3 from KeepC.of_below HA3.out)
  have HJ0 := Lib.hid (HJ.out _ _ _ h0 HA3.out)
  clear h0 a3 hr d1 d2 HD1 HD2 c1
  gi_wp2
  gi_loopw [14] (fun i wr => ∃ k : Nat, i = .int .i64 k ∧ k ≤ m ∧ J (List.range k) wr ∧ KeepC M W wr ∧ W.heap.size ≤ wr.heap.size) (fun i _ => m + 1 - (intOf i).toNat)
  case atStart => exact ⟨0, rfl, Nat.zero_le _, HJ0.out, HB0.out, HA3.out.size⟩
  case round =>
    obtain ⟨k, rfl, hk, hJs, hnx, hsz⟩ := hrel
    have HX := Lib.hid hnx; have HJs := Lib.hid hJs; have HSz := Lib.hid hsz
    have hmI : (m : Int) ≤ 64 := by have := HL.out; have := HMM.out; omega
    clear hnx hJs hsz
    by_cases hlt : k < m
    · have ck : wr.cell? ⟨Bk, k, none⟩ = some (.int .i64 (gQ l k)) := HX.out.cell HBk.out ((HH.out.cell k).trans (cntC_at HL.out (show k < 64 by omega)))
      have hkI : (k : Int) < (m : Int) := by omega
      obtain ⟨fn, tmps, assign, body, hy, hR⟩ := HY.out _ _ wr HJs.out ⟨by rw [HMM.out]; exact hlt, rfl⟩
      dsimp only [riV] at hy
      have HLt := Lib.hid hlt
      generalize gQ l k = c at *
      clear hlt hk
      gi_wp2
      refine hR.mono ?_
      rintro e W3 (⟨rfl, hJ3, hk3, hf3⟩ | ⟨rfl, hJx3, hf3⟩)
      · have HJ3 := Lib.hid (And.intro hJ3 (And.intro hk3 hf3))
        clear hJ3 hk3 hf3
        gi_wp2
        go_roundw
        case rel => exact ⟨k + 1, by go_num, HLt.out, by rw [List.range_succ]; exact HJ3.out.1, HX.out.trans HJ3.out.2.1, Nat.le_trans HSz.out HJ3.out.2.2.size⟩
        case measure => have := HLt.out; simp [intOf]; omega
      · have HJ3 := Lib.hid hJx3; clear hJx3 hf3
        gi_wp2
        refine bodyPost_ret (results_none rfl _ _ _) rfl ?_
        exact ⟨⟨_, rfl⟩, .inr ⟨_, ⟨k + 1, HLt.out, (List.range_succ).symm⟩, HJ3.out⟩⟩
    · have hkI : ¬ (k : Int) < (m : Int) := by omega
      have HE := Lib.hid (show k = m by omega)
      clear hlt hk
      gi_wp2
      go_end0
      exact ⟨⟨_, rfl⟩, .inl (by rw [← HE.out]; exact HJs.out)⟩
end Go.Proofs.Ytedllkahalfjgaa
