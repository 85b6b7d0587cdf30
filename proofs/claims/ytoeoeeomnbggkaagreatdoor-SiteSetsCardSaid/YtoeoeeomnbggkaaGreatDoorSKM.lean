/- Merged: SK1, SK2, SK3, SK4, SI3, SI4. -/
import Derived.Sort.MapsRangeIn
import Derived.Shelf.SlIterI.Collect
import Derived.Test.YtoeoeeomnbggkaaGreatDoorSMapM
import Derived.Test.YtoeoeeomnbggkaaGreatDoorSMem
import Derived.Test.YtoeoeeomnbggkaaGreatDoorKeep
import Derived.Test.YtoeoeeomnbggkaaGreatDoorSeq
import Derived.OwnWalkIn
import Derived.Test.YtoeoeeomnbggkaaGreatDoorSI2
import Derived.Test.YtoeoeeomnbggkaaGreatDoorMarks
import Derived.Deep.RegionLaw
import Derived.Test.YtoeoeeomnbggkaaGreatDoorLoose2
import Derived.Test.YtoeoeeomnbggkaaGreatDoorSF9
import Derived.Test.YtoeoeeomnbggkaaGreatDoorSSet
import Derived.Test.YtoeoeeomnbggkaaGreatDoorSSort
import Derived.Test.YtoeoeeomnbggkaaGreatDoorSIM
import Derived.Test.YtoeoeeomnbggkaaGreatDoorSNM
namespace Go.Proofs.YtoeoeeomnbggkaaGreatDoor
open Go Go.RowKit Go.Shelf Go.Maps
attribute [local go_sem] Oper.semAt_some

section
variable {F : Fence} {n : Nat} {ops : Array Oper} {rest : List Oper} {o : Oper} {a : Act} {w : World} {Q : Exit → Act → World → Prop}
theorem wpListIn_rangeS (hg : o.guard = none) (m : Operand) (hop : o.op = Op.range 53 m) (b : Nat) (L : List Pr) (hm : a.eval m = .map (some b)) (h : SetAt w b L)
    (hK : ∀ w', RngS w' b w.heap.size L L → Adds w w' → w'.heap.size = w.heap.size + 1 → wpListIn F n Tryz.prog ops Q rest (a.put o.dst (.pointer (some ⟨w.heap.size, 0, none⟩))) w') : wpListIn F n Tryz.prog ops Q (o :: rest) a w := by
  refine wpListIn_plain hg fun K' hK' => ?_
  obtain ⟨w', hrun, r1, r2, r3⟩ := h.range
  unfold Oper.wpIn
  refine ⟨?_, ?_⟩
  · simp [Oper.about, hop]
  · rw [Oper.semAt_plain F _ _ (by rw [hop]; intro c hc'; cases hc')]
    simp [execOp, hop, hm, hrun, Result.andThen]
    exact hK' _ _ (hK w' r1 r2 r3)
theorem wpListIn_nextS (hg : o.guard = none) (it : Operand) (hop : o.op = Op.next it false) (b r : Nat) (L todo : List Pr) (hit : a.eval it = .pointer (some ⟨r, 0, none⟩)) (h : RngS w b r L todo)
    (hDone : todo = [] → wpListIn F n Tryz.prog ops Q rest (a.put o.dst (.tuple #[.bool false])) w)
    (hMore : ∀ (x : Pr) (todo' : List Pr) (w' : World), todo.Perm (x :: todo') → x ∈ L → RngS w' b r L todo' → w.grownBy w' (some r) → w'.heap.size = w.heap.size → w'.rangeLeft b r < w.rangeLeft b r →
      (Instr.entry (.pointer (some ⟨r, 0, none⟩))).run Tryz.prog w' = .ok (.tuple #[prV x, .agg #[]]) w' → wpListIn F n Tryz.prog ops Q rest (a.put o.dst (.tuple #[.bool true, prV x, .agg #[]])) w') :
    wpListIn F n Tryz.prog ops Q (o :: rest) a w := by
  refine wpListIn_plain hg fun K' hK' => ?_
  unfold Oper.wpIn
  refine ⟨by simp [Oper.about, hop], ?_⟩
  rw [Oper.semAt_plain F _ _ (by rw [hop]; intro c hc'; cases hc')]
  rcases h.next o.type with ⟨h0, hrun⟩ | ⟨x, todo', w', h1, h2, hrun, h3, h4, h5, h7, h6⟩
  · simp [execOp, hop, hit, hrun, Result.andThen]
    exact hK' _ _ (hDone h0)
  · simp [execOp, hop, hit, hrun, Result.andThen]
    exact hK' _ _ (hMore x todo' w' h1 h2 h3 h4 h5 h7 h6)
end

theorem RngS.iter {w : World} {b r : Nat} {L todo : List Pr} (h : RngS w b r L todo) : ∃ o, w.heap[r]? = some o ∧ o.isCells = false := by
  obtain ⟨n, es, left, cnt, ⟨es0, clock, since, seen, c0, h1, h2, h3, h4, h5, h6⟩, h7⟩ := h
  exact ⟨_, h5, rfl⟩
set_option maxRecDepth 100000 in
set_option maxHeartbeats 2000000 in
theorem keysS1_in (n : Nat) (hn : 1 ≤ n) (l Bm b : Nat) (L : List Pr) (J Jx : List Pr → World → Prop) (W : World)
    (hY : ∀ pre x W1, J pre W1 → (x ∈ L ∧ pre.length < L.length) → YieldAt Fence.wide (n - 1) Tryz.prog l #[prV x] W1 fun e W' =>
      (e = .returned (.bool true) ∧ J (pre ++ [x]) W' ∧ W'.heap[b]? = W1.heap[b]? ∧ KeepsFrom W.heap.size W1 W') ∨ (e = .returned (.bool false) ∧ Jx (pre ++ [x]) W' ∧ KeepsFrom W.heap.size W1 W'))
    (hJ : OwnFrom W.heap.size J) (hm : W.cell? ⟨Bm, 0, none⟩ = some (.map (some b))) (hM : SetAt W b L) (h0 : J [] W) :
    CallsIn Fence.wide n Tryz.prog 52 #[.func (.yield l) #[] #[], .pointer (some ⟨Bm, 0, none⟩)] W fun e W' => (∃ v, e = .returned v) ∧
      ((∃ xs, xs.Perm (L) ∧ J xs W') ∨ (∃ pre, True ∧ Jx pre W')) := by
  have HY := Lib.hid hY; clear hY
  have HJ := Lib.hid hJ; clear hJ
  have HM := Lib.hid hM; clear hM
  refine callsIn_of_wp Tryz.func52 rfl trivial ?_ rfl
  simp only [Tryz.ntmps52, List.size_toArray, List.length_cons, List.length_nil, Nat.reduceAdd, Nat.reduceSub, Array.replicate_succ, Array.replicate_zero, List.push_toArray, List.append_toArray, List.nil_append, List.cons_append]
  gi_wp2_with (gi_at_range; refine wpListIn_rangeS rfl _ rfl b L rfl HM.out ?_; intro w0 hr ha hs; have HR := Lib.hid hr; have HA := Lib.hid ha; clear hr ha hs)
  go_frame
  obtain ⟨r, hr⟩ : ∃ r, W.heap.size = r := ⟨_, rfl⟩
  rw [hr] at HR HY HJ ⊢
  have HE := Lib.hid hr; clear hr
  have HJ0 := Lib.hid (show J [] w0 from HJ.out [] W w0 none h0 ⟨HA.out.os, HA.out.tape, HA.out.output, HA.out.size, fun k hk _ => HA.out.block k hk⟩ (fun r e => by cases e))
  clear h0
  gi_loopw [] (fun wr => ∃ (todo : List Pr) (ss : List Pr), RngS wr b r L todo ∧ (ss ++ todo).Perm (L) ∧ J ss wr) (fun wr => wr.rangeLeft b r)
  case atStart => exact ⟨L, [], HR.out, List.Perm.refl _, HJ0.out⟩
  case round =>
    obtain ⟨todo, ss, hrg, hperm, hJs⟩ := hrel
    have HRg := Lib.hid hrg; have HPm := Lib.hid hperm; have HJs := Lib.hid hJs
    clear hrg hperm hJs
    gi_wp2_with (gi_at_next; refine wpListIn_nextS rfl _ rfl b r L todo rfl HRg.out ?_ ?_)
    · intro ht
      subst ht
      gi_wp2
      go_end0
      exact ⟨⟨_, rfl⟩, .inl ⟨ss, by simpa using HPm.out, HJs.out⟩⟩
    · intro x1 x2 x3 x4 todo' w2 hp hm' hrg2 hg2 hs2 hl2 hen
      have HP := Lib.hid hp; have HR2 := Lib.hid hrg2; have HL2 := Lib.hid hl2
      have HJ2 := Lib.hid (show J ss w2 from HJ.out ss wr w2 (some r) HJs.out hg2 (fun q e => by cases e; exact ⟨Nat.le_refl _, HRg.out.iter⟩))
      have HPm2 := Lib.hid (show (ss ++ [((x1, x2), (x3, x4))] ++ todo').Perm (L) from by
        refine List.Perm.trans ?_ HPm.out
        have h1 := HP.out
        rw [List.append_assoc]
        exact (List.Perm.refl _).append h1.symm)
      obtain ⟨wa, hwa⟩ : ∃ wa, w2.alloc (.cells #[.int .i64 x1, .int .i64 x2, .int .i64 x3, .int .i64 x4] 56) = wa := ⟨_, rfl⟩
      have HA2 := Lib.hid (show Adds w2 wa by rw [← hwa]; exact (Gr.new _ _).adds)
      have HRa := Lib.hid (HR2.out.same (HA2.out.block b HR2.out.map.lt) (HA2.out.block r HR2.out.lt))
      have HLa := Lib.hid (rangeLeftS_same (HA2.out.block b HR2.out.map.lt) (HA2.out.block r HR2.out.lt))
      have HJa := Lib.hid (show J ss wa from HJ.out ss w2 wa none HJ2.out ⟨HA2.out.os, HA2.out.tape, HA2.out.output, HA2.out.size, fun k hk _ => HA2.out.block k hk⟩ (fun q e => by cases e))
      obtain ⟨fn, tmps, assign, body, hy, hR⟩ := HY.out ss ((x1, x2), (x3, x4)) wa HJa.out ⟨hm', by
        have h1 := HPm2.out.length_eq
        simp at h1
        omega⟩
      have bk : BkS 56 wa w2.heap.size [.int .i64 x1, .int .i64 x2, .int .i64 x3, .int .i64 x4] := by rw [← hwa]; exact BkS.new _ _ _
      have d0 : wa.cell? ⟨w2.heap.size, 0, none⟩ = some (.int .i64 x1) := bk.cell 0
      have d1 : wa.cell? ⟨w2.heap.size, 1, none⟩ = some (.int .i64 x2) := bk.cell 1
      have d2 : wa.cell? ⟨w2.heap.size, 2, none⟩ = some (.int .i64 x3) := bk.cell 2
      have d3 : wa.cell? ⟨w2.heap.size, 3, none⟩ = some (.int .i64 x4) := bk.cell 3
      clear bk
      have HKeep := Lib.hid (show ∀ W', KeepsFrom r wa W' → KeepsFrom r w2 W' from fun W' h => ⟨Nat.le_trans HA2.out.size h.size, fun k o hk ho hc => h.same k o hk ((HA2.out.block k (Array.getElem?_eq_some_iff.1 ho).1).trans ho) hc⟩)
      clear hp hm' hrg2 hg2 hs2 hl2
      gi_wp2
      refine hR.mono ?_
      rintro e W3 (⟨rfl, hJ3, hb3, hk3⟩ | ⟨rfl, hJx3, _⟩)
      · have HJ3 := Lib.hid hJ3
        obtain ⟨o, ho, hc⟩ := HRa.out.iter
        have hr3 : W3.heap[r]? = wa.heap[r]? := (hk3.same r o (Nat.le_refl _) ho hc).trans ho.symm
        have HR3 := Lib.hid (HRa.out.same hb3 hr3)
        have HL3 := Lib.hid (rangeLeftS_same hb3 hr3)
        clear hJ3 hb3 hk3 ho hc hr3
        gi_wp2
        go_roundw
        case rel => exact ⟨todo', ss ++ [((x1, x2), (x3, x4))], HR3.out, HPm2.out, HJ3.out⟩
        case measure => rw [HL3.out, HLa.out]; exact HL2.out
      · have HJx3 := Lib.hid hJx3
        clear hJx3
        gi_wp2
        refine bodyPost_ret (results_none rfl _ _ _) rfl ?_
        exact ⟨⟨_, rfl⟩, .inr ⟨ss ++ [((x1, x2), (x3, x4))], trivial, HJx3.out⟩⟩

theorem keysS_any (b : Option Nat) (w : World) :
    Calls Tryz.prog 35 #[.map b] w fun e w' => e = .returned (.func (.func 52) #[] #[.pointer (some ⟨w.heap.size, 0, none⟩)]) ∧ w.alloc (.cells #[.map b] 53) = w' := by
  go_enter Tryz.func35, Tryz.ntmps35
  go_wp2
  go_ret
  exact ⟨rfl, rfl⟩

theorem keysS_seqX (n : Nat) (hn : 1 ≤ n) (Bm b : Nat) (L : List Pr) (w : World) (hm : w.cell? ⟨Bm, 0, none⟩ = some (.map (some b))) (hM : SetAt w b L) :
    SeqX Fence.wide n Tryz.prog 52 #[.pointer (some ⟨Bm, 0, none⟩)] (fun x : Pr => #[prV x]) (fun W W' => W'.heap[b]? = W.heap[b]?)
      (fun xs => xs.Perm (L)) (fun _ => True) (fun pre x => x ∈ L ∧ pre.length < L.length) w := fun l J Jx W hW hJ _ hY h0 =>
  keysS1_in n hn l Bm b L J Jx W hY hJ ((hW.cell (p := ⟨Bm, 0, none⟩) (World.block_lt_of_cell? w _ hm)).trans hm) (hM.same (hW.block b hM.lt)) h0
end Go.Proofs.YtoeoeeomnbggkaaGreatDoor
namespace Go.Proofs.YtoeoeeomnbggkaaGreatDoor
open Go Go.RowKit Go.Shelf Go.Maps
attribute [local go_sem] Oper.semAt_some

abbrev kfS : Value → Value := fun p => .func (.func 52) #[] #[p]
def flatP (l : List Pr) : List Value := l.flatMap prC
theorem flatP_length (l : List Pr) : (flatP l).length = l.length * 4 := by
  induction l with
  | nil => rfl
  | cons x t ih => simp [flatP] at ih ⊢; omega
theorem flatP_append (l m : List Pr) : flatP (l ++ m) = flatP l ++ flatP m := by simp [flatP]
/-- A slice of pairs that the call has made: it reads xs. -/
def RowS (base : Nat) (w : World) (v : Value) (xs : List Pr) : Prop := w.ownsRow base 56 4 v xs.length (flatP xs) ∧ (v = .slice none 0 0 ↔ xs = [])
theorem infoK4 : (Tryz.prog.info? 56).map (fun i => (i.zero, i.size, i.bytes)) = some (some (.agg #[.int .i64 0, .int .i64 0, .int .i64 0, .int .i64 0]), 4, 32) := by kernel_rfl
theorem cell_four_new (w : World) (x y z u : Value) (t : TypeId) : ∀ j v, [x, y, z, u][j]? = some v → (w.alloc (.cells #[x, y, z, u] t)).cell? (Addr.add ⟨w.heap.size, 0, none⟩ j) = some v := by
  intro j v h
  match j with
  | 0 => simp at h; subst h; simp [Addr.add]
  | 1 => simp at h; subst h; simp [Addr.add]
  | 2 => simp at h; subst h; simp [Addr.add]
  | 3 => simp at h; subst h; simp [Addr.add]
  | j + 4 => simp at h
theorem RowS.kept {base : Nat} {w w' : World} {v : Value} {xs : List Pr} {row : Option Nat} (h : RowS base w v xs) (hg : w.grownBy w' row) (hr : ∀ r, row = some r → ∃ o, w.heap[r]? = some o ∧ ∀ cur, o ≠ .cells cur 56 (0, 0)) : RowS base w' v xs := by
  refine ⟨h.1.kept hg ?_, h.2⟩
  cases row with
  | none =>
    cases hv : v.ownBlock with
    | none => exact .inl rfl
    | some g => exact .inr (by simp)
  | some r =>
    obtain ⟨o, ho, hn⟩ := hr r rfl
    exact ownsRow_ne_a h.1 ho hn
theorem RowS.adds {base : Nat} {w w' : World} {v : Value} {xs : List Pr} (h : RowS base w v xs) (ha : Adds w w') : RowS base w' v xs :=
  h.kept (row := none) ⟨ha.os, ha.tape, ha.output, ha.size, fun k hk _ => ha.block k hk⟩ (fun r e => by cases e)
theorem RowS.base {base base' : Nat} {w : World} {v : Value} {xs : List Pr} (h : RowS base w v xs) (hb : base' ≤ base) : RowS base' w v xs := by
  refine ⟨⟨h.1.1, h.1.2.elim .inl (fun ⟨g, cap, cur, h1, h2, h3⟩ => .inr ⟨g, cap, cur, h1, Nat.le_trans hb h2, h3⟩)⟩, h.2⟩

def KeyS (base Bs : Nat) (w : World) (pre : List Pr) (W : World) : Prop := ∃ v, W.heap[Bs]? = some (.cells #[v] 60 (0, 0)) ∧ RowS base W v pre ∧ Below base w W
theorem KeyS.own {base Bs B : Nat} {w : World} (hw : base ≤ w.heap.size) (hB : base ≤ B) : OwnFrom B (KeyS base Bs w) := fun s W W' row ⟨v, h1, h2, h3⟩ hg hr => by
  refine ⟨v, ?_, h2.kept hg (fun r e => ?_), h3.grown hg ?_ (fun k e => Nat.le_trans hB (hr k e).1)⟩
  · refine (hg.block Bs (Array.getElem?_eq_some_iff.1 h1).1 (fun e => ?_)).trans h1
    obtain ⟨o, ho, hc⟩ := (hr Bs e.symm).2
    rw [h1] at ho; cases ho; cases hc
  · obtain ⟨o, ho, hc⟩ := (hr r e).2
    exact ⟨o, ho, fun cur e => by rw [e] at hc; cases hc⟩
  · exact Nat.le_trans hw h3.size

set_option maxRecDepth 100000 in
set_option maxHeartbeats 4000000 in
theorem appendKeysS_any (Bm b : Nat) (L : List Pr) (w : World) (hm : w.cell? ⟨Bm, 0, none⟩ = some (.map (some b))) (hM : SetAt w b L) (hL : L.length ≤ 1048576) :
    Calls Tryz.prog 64 #[.slice none 0 0, kfS (.pointer (some ⟨Bm, 0, none⟩))] w fun e w' =>
      ∃ v xs, e = .returned v ∧ xs.Perm L ∧ RowS w.heap.size w' v xs ∧ Adds w w' := by
  have HM := Lib.hid hM; clear hM
  have HL := Lib.hid hL; clear hL
  have HCM := Lib.hid hm; clear hm
  obtain ⟨i0, hi, hz0, hz1, hz2⟩ := info_parts infoK4
  refine (callsIn_wide (n := 6)).1 ?_
  refine callsIn_of_wp_marks Tryz.func64 rfl trivial ?_ rfl
  simp only [Tryz.ntmps64, List.size_toArray, List.length_cons, List.length_nil, Nat.reduceAdd, Nat.reduceSub, Array.replicate_succ, Array.replicate_zero, List.push_toArray, List.append_toArray, List.nil_append, List.cons_append]
  gi_wp2
  obtain ⟨W0, hW0⟩ : ∃ W0, w.alloc (.cells #[.slice none 0 0] 60) = W0 := ⟨_, rfl⟩
  have HS0 := Lib.hid (show W0.heap.size = w.heap.size + 1 by rw [← hW0]; simp)
  have HB0 := Lib.hid (show W0.heap[w.heap.size]? = some (.cells #[.slice none 0 0] 60 (0, 0)) by rw [← hW0]; exact World.alloc_heap_new w _)
  have HA0 := Lib.hid (show Adds w W0 by rw [← hW0]; exact (Below.refl _ w).alloc (Nat.le_refl _) _)
  rw [hW0]
  clear hW0
  have HCM0 := Lib.hid ((HA0.out.cell (p := ⟨Bm, 0, none⟩) (World.block_lt_of_cell? w _ HCM.out)).trans HCM.out)
  have HM0 := Lib.hid (HM.out.same (HA0.out.block b HM.out.lt))
  obtain ⟨n0, hn0⟩ : ∃ n0, w.heap.size = n0 := ⟨_, rfl⟩
  have HN0 := Lib.hid hn0
  rw [hn0] at HS0 HB0 ⊢
  clear hn0
  refine' rangeFunc_XB rfl (by omega) (gf := 52) (lb := #[.pointer (some ⟨Bm, 0, none⟩)]) rfl trivial (enters_of Tryz.func52 (by kernel_rfl) rfl)
    (keysS_seqX 5 (by omega) Bm b L W0 HCM0.out HM0.out) (fun h k => k.trans h) (fun W l o o' hl _ _ _ => World.putObj_heap_other (by have := HM0.out.lt; omega)) (Below.refl _ _) (fun _ => rfl)
    (KeyS n0 n0 w) (fun _ _ _ => False) ?own ?ownx ?h0 _ (fun x => .cells (prC x).toArray 56 (0, 0)) (fun W o h => Below.heap_alloc _ _ b (by have := HM0.out.lt; omega)) ?assign ?body ?done ?stop
  case assign =>
    intro l2 x W2 bb K hbb hK
    have HK := Lib.hid hK; clear hK
    gi_wp2
    exact HK.out
  case own => exact KeyS.own (Nat.le_of_eq HN0.out.symm) (by have := HS0.out; omega)
  case ownx => exact fun c s A B row hs => hs.elim
  case h0 => exact ⟨_, HB0.out, ⟨⟨rfl, .inl ⟨rfl, rfl⟩⟩, by simp⟩, by rw [← HN0.out]; exact HA0.out⟩
  case body =>
    rintro l pre x W bb ⟨v, h1, h2, h3⟩ ⟨hx, hlen⟩ hbb hbo
    have HI := Lib.hid (And.intro h1 (And.intro h2 h3))
    have HP := Lib.hid (show pre.length < 1048576 by have := HL.out; omega)
    have c2 := (cell_of_box_a h1).1
    have f2 := (cell_of_box_a h1).2
    have HBs := Lib.hid (Array.getElem?_eq_some_iff.1 h1).1
    have bk : BkS 56 W bb (prC x) := hbo
    have e0 : W.cell? ⟨bb, 0, none⟩ = some (.int .i64 x.1.1) := bk.cell 0
    have e1 : W.cell? ⟨bb, 1, none⟩ = some (.int .i64 x.1.2) := bk.cell 1
    have e2 : W.cell? ⟨bb, 2, none⟩ = some (.int .i64 x.2.1) := bk.cell 2
    have e3 : W.cell? ⟨bb, 3, none⟩ = some (.int .i64 x.2.2) := bk.cell 3
    clear h1 h2 h3 hx hlen bk hbb hbo
    gi_wp2_with (first
      | (gi_at_builtin; refine wpListIn_append_own _ rfl _ _ 60 rfl n0 56 i0 (.agg #[.int .i64 0, .int .i64 0, .int .i64 0, .int .i64 0]) 4 32 Tryz.underlying60 hi hz0 hz1 hz2 rfl (by decide) _ _ _ rfl (HI.out.2.1.1.alloc _) ⟨W.heap.size, 0, none⟩ 1 1 (prC x) rfl rfl (cell_four_new _ _ _ _ _ _) (by simp [Value.oneCell']) (by have := HP.out; unfold maxLen; omega) (by have := HP.out; omega) (by have := HI.out.2.2.size; have := HN0.out; simp; omega) ?_; intro v' w3 hown' hg3 hnil3
         have hg3' : (W.alloc (.cells (prC x).toArray 56)).grownBy w3 v.ownBlock := hg3
         have hne : ∀ {j : Nat} {o : Obj}, W.heap[j]? = some o → (∀ cur, o ≠ .cells cur 56 (0, 0)) → some j ≠ v.ownBlock := fun hj hno e => by
           rcases ownsRow_ne_a HI.out.2.1.1 hj hno with e' | e'
           · rw [e'] at e; cases e
           · exact e' e.symm
         have hv3 : w3.heap[n0]? = some (.cells #[v] 60 (0, 0)) := (hg3'.block n0 (by have := HBs.out; simp; omega) (hne HI.out.1 (fun cur e => by injection e with _ h; exact absurd h (by decide)))).trans ((Below.heap_alloc _ _ n0 HBs.out).trans HI.out.1)
         have c3 := (cell_of_box_a hv3).1
         have f3 := (cell_of_box_a hv3).2
         have HV3 := Lib.hid hv3
         have HG := Lib.hid hg3'
         have HNE := Lib.hid (fun (j : Nat) (o : Obj) (h1 : W.heap[j]? = some o) (h2 : ∀ cur, o ≠ .cells cur 56 (0, 0)) => hne h1 h2)
         have HO := Lib.hid hown'
         obtain ⟨g', cap', cur', rfl, _⟩ : ∃ g' cap' cur', v' = .slice (some ⟨g', 0, none⟩) (pre.length + 1) cap' ∧ (n0 ≤ g' ∧ w3.heap[g']? = some (.cells cur' 56 (0, 0))) := by
           rcases hown'.2 with ⟨_, h0⟩ | ⟨g, cap, cur, h1, h2, h3, _⟩
           · exact absurd h0 (by omega)
           · exact ⟨g, cap, cur, h1, h2, h3⟩
         clear hown' hg3 hnil3 hg3' hne hv3 c2 f2)
      | gi_in)
    have HW4 := Lib.hid (grownBy_setCell' w3 n0 (.slice (some ⟨g', 0, none⟩) (pre.length + 1) cap'))
    have HV4 := Lib.hid (heap_setCell_box_a (.slice (some ⟨g', 0, none⟩) (pre.length + 1) cap') HV3.out)
    generalize w3.setCell ⟨n0, 0, none⟩ (.slice (some ⟨g', 0, none⟩) (pre.length + 1) cap') = w4 at HW4 HV4 ⊢
    have hWa : Below n0 W (W.alloc (.cells (prC x).toArray 56)) := (Below.refl _ _).alloc (Nat.le_of_lt HBs.out) _
    have hb3 : Below n0 W w3 := hWa.grown HG.out (by have := HBs.out; simp; omega) (fun k e => (HI.out.2.1.1.lt k e).1)
    have hb4 : Below n0 W w4 := hb3.grown HW4.out (by have := HBs.out; have := hb3.size; omega) (fun k e => by cases e; exact Nat.le_refl _)
    refine ⟨⟨hb4.size, fun k o hk ho hc => ?_⟩, ?_, _, HV4.out, ⟨?_, by simp⟩, HI.out.2.2.trans hb4⟩
    · have hk3 : w3.heap[k]? = some o := ((HG.out.block k (by have := (Array.getElem?_eq_some_iff.1 ho).1; simp; omega) (HNE.out k o ho (fun cur e => by rw [e] at hc; cases hc))).trans (Below.heap_alloc _ _ k (Array.getElem?_eq_some_iff.1 ho).1)).trans ho
      exact (HW4.out.block k (Array.getElem?_eq_some_iff.1 hk3).1 (fun e => by simp only [Option.some.injEq] at e; rw [e, HV3.out] at hk3; cases hk3; cases hc)).trans hk3
    · exact hb4.block b (by have := HM.out.lt; have := HN0.out; omega)
    · have h5 : W.heap.size ≤ w3.heap.size := hb3.size
      have := HO.out.kept HW4.out (ownsRow_ne_a HO.out HV3.out (fun cur e => by injection e with _ h; exact absurd h (by decide)))
      rw [flatP_append, show flatP [x] = prC x from List.append_nil _]
      simpa using this
  case done =>
    rintro D xs W hD hS ⟨v, h1, h2, h3⟩ hK
    have c2 := (cell_of_box_a h1).1
    have HI := Lib.hid (And.intro h1 (And.intro h2 h3))
    have HKD := Lib.hid hK
    have HSx := Lib.hid hS
    have HD := Lib.hid hD
    clear h1 h2 h3 hK hS hD
    gi_wp2
    refine ⟨by simp, .inl ⟨_, _, rfl, run_takeDeferred HKD.out, ?_⟩⟩
    have hg := grownBy_putObj' W D (.deferred none)
    have HI' := HI.out
    rw [← HN0.out] at HI'
    exact ⟨_, results_tmp rfl _ _ _, v, xs, rfl, HSx.out, HI'.2.1.kept hg (fun r e => by cases e; exact ⟨_, HKD.out, fun cur e => by cases e⟩), HI'.2.2.grown hg HI'.2.2.size (fun k e => by cases e; have := HD.out; have := HS0.out; have := HN0.out; omega)⟩
  case stop => exact fun D c pre W _ _ h => h.elim
end Go.Proofs.YtoeoeeomnbggkaaGreatDoor
namespace Go.Proofs.YtoeoeeomnbggkaaGreatDoor
open Go Go.RowKit Go.Shelf Go.Sort

def orI (x y : Int) : Int := if x = 0 then y else x
set_option maxRecDepth 100000 in
set_option maxHeartbeats 1000000 in
theorem or2_any (b : Nat) (x y : Int) (w : World) (h : BkS 3 w b [.int .i64 x, .int .i64 y]) :
    Calls Tryz.prog 53 #[.slice (some ⟨b, 0, none⟩) 2 2] w fun e w' => e = .returned (.int .i64 (orI x y)) ∧ w = w' := by
  have d0 : w.cell? ⟨b, 0, none⟩ = some (.int .i64 x) := h.cell 0
  have d1 : w.cell? ⟨b, 1, none⟩ = some (.int .i64 y) := h.cell 1
  clear h
  go_enter Tryz.func53, Tryz.ntmps53
  go_wp2
  go_loopw [8] (fun i wr => ∃ z : Int, i = .int .i64 z ∧ w = wr ∧ (z = 0 ∨ (z = 1 ∧ x = 0) ∨ (z = 2 ∧ x = 0 ∧ y = 0))) (fun i _ => 3 - (intOf i).toNat)
  case atStart => exact ⟨0, rfl, rfl, .inl rfl⟩
  case round =>
    obtain ⟨z, rfl, rfl, hz⟩ := hrel
    rcases hz with rfl | ⟨rfl, rfl⟩ | ⟨rfl, rfl, rfl⟩
    · by_cases hx : x = 0
      · subst hx
        go_wp2
        go_roundw
        case rel => exact ⟨1, by simp⟩
        case measure => simp [intOf]
      · go_wp2
        go_ret
        exact ⟨by unfold orI; rw [if_neg hx]; rfl, rfl⟩
    · by_cases hy : y = 0
      · subst hy
        go_wp2
        go_roundw
        case rel => exact ⟨2, by simp⟩
        case measure => simp [intOf]
      · go_wp2
        go_ret
        exact ⟨by unfold orI; rw [if_pos rfl]; rfl, rfl⟩
    · go_wp2
      go_ret
      exact ⟨rfl, rfl⟩

theorem bsI2 (x y : Int) (w : World) : (Instr.buildSlice 117 2 #[(0, .int .i64 x), (1, .int .i64 y)]).run Tryz.prog w = .ok (.slice (some ⟨w.heap.size, 0, none⟩) 2 2) (w.alloc (.cells #[.int .i64 x, .int .i64 y] 3)) := by kernel_rfl
theorem mkI2_run {o : Oper} {A : Act} {p q : Operand} (x y : Int) (hop : o.op = .buildSlice 117 2 #[(0, p), (1, q)]) (hx : A.eval p = .int .i64 x) (hy : A.eval q = .int .i64 y) (W : World) :
    (execOp A.eval o).run Tryz.prog W = .ok (.value (.slice (some ⟨W.heap.size, 0, none⟩) 2 2)) (W.alloc (.cells #[.int .i64 x, .int .i64 y] 3)) := by
  have h := bsI2 x y W
  simp [execOp, hop, hx, hy, h, Result.andThen]
def TwoI (x y : Int) (u : Value) (w : World) : Prop := ∃ b, u = .slice (some ⟨b, 0, none⟩) 2 2 ∧ BkS 3 w b [.int .i64 x, .int .i64 y]
theorem or2_two {x y : Int} {u : Value} {w : World} (h : TwoI x y u w) : Calls Tryz.prog 53 #[u] w fun e w' => e = .returned (.int .i64 (orI x y)) ∧ Gr w w' := by
  obtain ⟨b, rfl, hb⟩ := h
  exact (or2_any b x y w hb).mono fun _ _ ⟨h1, h2⟩ => ⟨h1, h2 ▸ Gr.refl _⟩

set_option maxRecDepth 100000 in
set_option maxHeartbeats 4000000 in
theorem coupleOrder_any (x y : Pr) (w : World) :
    Calls Tryz.prog 36 #[prV x, prV y] w fun e w' => e = .returned (.int .i64 (ordP x y)) ∧ Gr w w' := by
  have hmx : Tryz.prog.follows .mixedOrders = true := by kernel_rfl
  have ho : ordP x y = orI (ordS x.1 y.1) (ordS x.2 y.2) := rfl
  rw [ho]
  clear ho
  obtain ⟨⟨x1, x2⟩, ⟨x3, x4⟩⟩ := x
  obtain ⟨⟨y1, y2⟩, ⟨y3, y4⟩⟩ := y
  have H1 := Lib.hid (ord_at x1 x2 y1 y2)
  have H2 := Lib.hid (ord_at x3 x4 y3 y4)
  obtain ⟨z1, hz1⟩ : ∃ z, ordS (x1, x2) (y1, y2) = z := ⟨_, rfl⟩
  obtain ⟨z2, hz2⟩ : ∃ z, ordS (x3, x4) (y3, y4) = z := ⟨_, rfl⟩
  simp only [hz1, hz2] at H1 H2 ⊢
  clear hz1 hz2
  go_enter Tryz.func36, Tryz.ntmps36
  go_wp2_with fail
  obtain ⟨wb, hwb⟩ : ∃ wb, (w.alloc (.cells #[.int .i64 x1, .int .i64 x2, .int .i64 x3, .int .i64 x4] 56)).alloc (.cells #[.int .i64 y1, .int .i64 y2, .int .i64 y3, .int .i64 y4] 56) = wb := ⟨_, rfl⟩
  have HG := Lib.hid (show Gr w wb by rw [← hwb]; exact (Gr.new _ _).alloc _)
  have bx : BkS 56 wb w.heap.size [.int .i64 x1, .int .i64 x2, .int .i64 x3, .int .i64 x4] := by rw [← hwb]; exact (BkS.new _ _ _).adds (Gr.new _ _).adds
  have bY : BkS 56 wb (w.heap.size + 1) [.int .i64 y1, .int .i64 y2, .int .i64 y3, .int .i64 y4] := by rw [← hwb]; have := BkS.new 56 (w.alloc (.cells #[.int .i64 x1, .int .i64 x2, .int .i64 x3, .int .i64 x4] 56)) [.int .i64 y1, .int .i64 y2, .int .i64 y3, .int .i64 y4]; rw [World.size_alloc] at this; exact this
  have HD := Lib.hid (show ∀ w', Gr wb.drew w' → w'.cell? ⟨w.heap.size, 0, none⟩ = some (.int .i64 x1) ∧ w'.cell? ⟨w.heap.size, 1, none⟩ = some (.int .i64 x2) ∧ w'.cell? ⟨w.heap.size, 2, none⟩ = some (.int .i64 x3) ∧ w'.cell? ⟨w.heap.size, 3, none⟩ = some (.int .i64 x4) ∧ w'.cell? ⟨w.heap.size + 1, 0, none⟩ = some (.int .i64 y1) ∧ w'.cell? ⟨w.heap.size + 1, 1, none⟩ = some (.int .i64 y2) ∧ w'.cell? ⟨w.heap.size + 1, 2, none⟩ = some (.int .i64 y3) ∧ w'.cell? ⟨w.heap.size + 1, 3, none⟩ = some (.int .i64 y4) from fun w' h =>
    let p := bx.adds (Adds.trans (Adds.drew wb) h.adds); let q := bY.adds (Adds.trans (Adds.drew wb) h.adds); ⟨p.cell 0, p.cell 1, p.cell 2, p.cell 3, q.cell 0, q.cell 1, q.cell 2, q.cell 3⟩)
  first | rw [hwb] | skip
  clear hwb bx bY
  refine wp_region_loose [15] (fun _ u w => TwoI z1 z2 u w) Gr (by kernel_rfl) (by kernel_rfl) (by simp) Gr.refl (fun _ _ _ h k => Gr.trans h k) (fun _ _ _ _ h k => let ⟨b, e, hb⟩ := k; ⟨b, e, hb.adds h.adds⟩) ?_
  repeat (refine wpL_step (fun K hK => ?_); first
    | (refine stepL_ex rfl rfl rfl Gr.refl (fun w' hw' => rfl) ?_; go_simp; refine hK _ ?_; clear hK K)
    | (refine stepL_ex (v := .agg #[.int .i64 x1, .int .i64 x2]) rfl rfl rfl Gr.refl ?_ ?_; (· (intro w' hw'; clear hK; have hc := HD.out w' hw'; go_simp)); go_simp; refine hK _ ?_; clear hK K)
    | (refine stepL_ex (v := .agg #[.int .i64 x3, .int .i64 x4]) rfl rfl rfl Gr.refl ?_ ?_; (· (intro w' hw'; clear hK; have hc := HD.out w' hw'; go_simp)); go_simp; refine hK _ ?_; clear hK K)
    | (refine stepL_ex (v := .agg #[.int .i64 y1, .int .i64 y2]) rfl rfl rfl Gr.refl ?_ ?_; (· (intro w' hw'; clear hK; have hc := HD.out w' hw'; go_simp)); go_simp; refine hK _ ?_; clear hK K)
    | (refine stepL_ex (v := .agg #[.int .i64 y3, .int .i64 y4]) rfl rfl rfl Gr.refl ?_ ?_; (· (intro w' hw'; clear hK; have hc := HD.out w' hw'; go_simp)); go_simp; refine hK _ ?_; clear hK K)
    | (refine stepL_call (v := .int .i64 z1) (f := 33) (args := #[.agg #[.int .i64 x1, .int .i64 x2], .agg #[.int .i64 y1, .int .i64 y2]]) rfl rfl rfl ?_ (fun w' hw' => H1.out w') ?_; (· (intro w'; clear hK; go_simp)); go_simp; refine hK _ ?_; clear hK K)
    | (refine stepL_call (v := .int .i64 z2) (f := 33) (args := #[.agg #[.int .i64 x3, .int .i64 x4], .agg #[.int .i64 y3, .int .i64 y4]]) rfl rfl rfl ?_ (fun w' hw' => H2.out w') ?_; (· (intro w'; clear hK; go_simp)); go_simp; refine hK _ ?_; clear hK K)
    | (refine stepL_mk 15 rfl rfl rfl rfl (fun w' hw' => ⟨_, _, mkI2_run z1 z2 rfl rfl rfl w', ⟨_, rfl, BkS.new _ _ _⟩, Gr.new _ _⟩) ?_; refine hK _ ?_; clear hK K)
    | (refine stepL_call1 (f := 53) (v := .int .i64 (orI z1 z2)) (fun u => #[u]) rfl rfl ?_ (fun w' u hw' hu => or2_two hu) ?_; (· (intro w' u hw' hu; refine ⟨rfl, ?_⟩; clear hK; go_simp)); refine hK _ ?_; clear hK K))
  refine wpL_nil ?_
  intro w10 a10
  simp only [forL]
  intro u hu
  have H10 := Lib.hid (Gr.trans HG.out.drew a10)
  clear a10
  go_wp2
  go_ret
  exact ⟨rfl, H10.out⟩
end Go.Proofs.YtoeoeeomnbggkaaGreatDoor
namespace Go.Proofs.YtoeoeeomnbggkaaGreatDoor
open Go Go.RowKit Go.Shelf Go.Maps Go.Sort

theorem ltP_of (x y : Pr) : ltOf ordP x y = decide (ordP x y < 0) := rfl
theorem swoP : SWO (ltOf ordP) where
  irrefl x := by rw [ltP_of, ordP_self]; simp
  trans x y z h1 h2 := by rw [ltP_of] at *; simp only [decide_eq_true_eq] at *; exact ordP_trans h1 h2
  ntrans x y z h1 h2 := by
    rw [ltP_of] at *
    simp only [decide_eq_false_iff_not] at *
    intro h3
    by_cases e : x = y
    · subst e; exact h2 h3
    · exact h2 (ordP_trans (ordP_tot h1 e) h3)
theorem totP (x y : Pr) (h1 : ltOf ordP x y = false) (h2 : ltOf ordP y x = false) : x = y := by
  rw [ltP_of] at *
  simp only [decide_eq_false_iff_not] at *
  by_cases e : x = y
  · exact e
  · exact absurd (ordP_tot h1 e) h2
theorem cmpP (blk off size : Nat) (w : World) : CmpLays Tryz.prog 36 #[] prC 4 ordP blk off size w := fun m os dk _ x y => by
  refine (coupleOrder_any x y _).mono ?_
  rintro e w' ⟨he, q, os', rfl⟩
  exact ⟨he, q, os', rfl⟩
theorem isAggK (w : World) : (isAgg 56).run Tryz.prog w = .ok true w := by kernel_rfl
theorem sizeOfK (w : World) : (Go.sizeOf 56).run Tryz.prog w = .ok 4 w := by kernel_rfl

theorem flatP_get : ∀ (l : List Pr) (i j : Nat), j < 4 → i < l.length → (flatP l)[i * 4 + j]? = (prC (atP l i))[j]?
  | [], i, j, _, h => by simp at h
  | x :: t, 0, j, hj, _ => by
    show (prC x ++ flatP t)[0 * 4 + j]? = _
    rw [Nat.zero_mul, Nat.zero_add, List.getElem?_append_left (by simpa using hj)]
    rfl
  | x :: t, i + 1, j, hj, h => by
    show (prC x ++ flatP t)[(i + 1) * 4 + j]? = _
    rw [List.getElem?_append_right (by simp; omega), atP_cons, ← flatP_get t i j hj (by simpa using h)]
    congr 1
    simp
    omega
theorem flatK_P (l : List Pr) : flatK prC 4 l.toArray = (flatP l).toArray := by
  apply Array.ext_getElem?
  intro t
  by_cases ht : t < l.length * 4
  · have h1 := flatP_get l (t / 4) (t % 4) (by omega) (by omega)
    rw [show t / 4 * 4 + t % 4 = t by omega] at h1
    rw [show (flatP l).toArray[t]? = (flatP l)[t]? from List.getElem?_toArray .., h1]
    unfold flatK
    have h2 : t / 4 < l.length := by omega
    have h3 : t % 4 < 4 := by omega
    obtain ⟨r, hr⟩ : ∃ r, t % 4 = r := ⟨_, rfl⟩
    rw [hr] at h3
    simp only [List.size_toArray, Array.getElem?_map, Array.getElem?_range, ht, hr, if_true, Option.map_some]
    rw [show l.toArray[t / 4]! = atP l (t / 4) by simp [atP, h2]]
    match r, h3 with
    | 0, _ => rfl
    | 1, _ => rfl
    | 2, _ => rfl
    | 3, _ => rfl
  · rw [Array.getElem?_eq_none (by simp; omega), Array.getElem?_eq_none (by simp [flatP_length]; omega)]

/-! ### The row behind the sort -/
theorem rowS_some {base : Nat} {w : World} {v : Value} {xs : List Pr} (h : RowS base w v xs) (hne : xs ≠ []) : ∃ g cap cur, v = .slice (some ⟨g, 0, none⟩) xs.length cap ∧ base ≤ g ∧ w.heap[g]? = some (.cells cur 56 (0, 0)) ∧
    xs.length ≤ cap ∧ cap ≤ maxLen ∧ cur.size = cap * 4 ∧ cur.toList.take (xs.length * 4) = flatP xs := by
  rcases h.1.2 with ⟨_, h0⟩ | h1
  · exact absurd (List.length_eq_zero_iff.1 h0) hne
  · exact h1
theorem cell_of_row7 (w : World) (g i : Nat) (cur : Array Value) (t : TypeId) (fz : Nat × Nat) (h : w.heap[g]? = some (.cells cur t fz)) : w.cell? ⟨g, i, none⟩ = cur[i]? := by
  unfold World.cell?
  simp [h]
theorem rowS_holds {w : World} {g : Nat} {cur : Array Value} {fs : List Value} (hb : w.heap[g]? = some (.cells cur 56 (0, 0))) (ht : cur.toList.take fs.length = fs) : Holds id w g 0 fs.toArray := fun j hj => by
  have hj' : j < fs.length := by simpa using hj
  have h1 : cur.toList[j]? = some fs[j] := by
    have h2 := congrArg (fun l => l[j]?) ht
    simp only [List.getElem?_take_of_lt hj', List.getElem?_eq_getElem hj'] at h2
    exact h2
  constructor
  · rw [cell_of_row7 w g (0 + j) _ _ _ hb, Nat.zero_add, ← Array.getElem?_toList, h1]
    simp [hj']
  · simp [World.frozen?, hb]
theorem rowS_sorted {base : Nat} {w : World} {g cap n : Nat} {cur : Array Value} {xs ys : List Pr} {os : Array Obj} (hl : ys.length = xs.length) (hne : xs ≠ []) (hbase : base ≤ g) (hb : w.heap[g]? = some (.cells cur 56 (0, 0)))
    (h1 : xs.length ≤ cap) (h2 : cap ≤ maxLen) (h3 : cur.size = cap * 4) :
    RowS base (sortWorldK prC 4 w g 0 n ys.toArray os) (.slice (some ⟨g, 0, none⟩) xs.length cap) ys ∧ w.grownBy (sortWorldK prC 4 w g 0 n ys.toArray os) (some g) := by
  have hg : g < w.heap.size := (Array.getElem?_eq_some_iff.1 hb).1
  have hs : (sortWorldK prC 4 w g 0 n ys.toArray os).heap[g]? = some (.cells (putCells id 0 (flatP ys).toArray cur) 56 (0, 0)) := by
    unfold sortWorldK putRowK
    rw [heap_grow_old _ _ (by simpa using hg), flatK_P]
    simp [putRow, mapBlock, Sort.ahead, Array.getElem?_modify, hb, onCells]
  have hfl : (flatP ys).length = ys.length * 4 := flatP_length ys
  refine ⟨⟨⟨hfl, .inr ⟨g, cap, _, by rw [hl], hbase, hs, by omega, h2, by simp [putCells, h3], ?_⟩⟩, ?_⟩, rfl, rfl, rfl, by unfold sortWorldK putRowK; simp, fun k hk hk2 => ?_⟩
  · apply List.ext_getElem?
    intro j
    by_cases hj : j < ys.length * 4
    · rw [List.getElem?_take_of_lt hj, Array.getElem?_toList]
      simp [putCells, hfl, hj, show j < cur.size by omega]
    · rw [List.getElem?_take_eq_none (by omega), List.getElem?_eq_none (by omega)]
  · constructor
    · intro e; cases e
    · rintro rfl
      exact absurd (List.length_eq_zero_iff.1 hl.symm) hne
  · unfold sortWorldK putRowK
    rw [heap_grow_old _ _ (by simpa using hk)]
    have : g ≠ k := fun e => hk2 (by rw [e])
    simp [putRow, mapBlock, Sort.ahead, Array.getElem?_modify, this]

/-- slices.SortFunc at a row of the call's own. -/
theorem sortFS_any (base : Nat) (v : Value) (xs : List Pr) (w : World) (h : RowS base w v xs) (hx : xs.length ≤ 1048576) :
    Calls Tryz.prog 51 #[v, .func (.func 36) #[] #[]] w fun e w' => e = .returned (.tuple #[]) ∧ RowS base w' v (sortP xs) ∧ Below base w w' := by
  by_cases hne : xs = []
  · subst hne
    obtain rfl := h.2.2 rfl
    refine (AnyF.slices_SortFunc_none (P := Tryz.prog) (ρ := Tryz.laysSort_ren) { Tryz.laysSort with } none 0 (.func (.func 36) #[] #[]) w).mono ?_
    rintro e w' ⟨he, rfl⟩
    exact ⟨he, by simpa [sortP] using h, Below.refl _ _⟩
  · obtain ⟨g, cap, cur, rfl, h2, h3, h4, h5, h6, h7⟩ := rowS_some h hne
    have hsz : xs.toArray.size = xs.length := by simp
    have hH : HoldsK prC 4 w g 0 xs.toArray := by
      unfold HoldsK
      rw [flatK_P]
      exact rowS_holds h3 (by rw [flatP_length]; exact h7)
    have hc := AnyQ.slices_SortFunc_total Tryz.laysSort 4 isAggK sizeOfK prC (fun _ => rfl) (fun x v hv => by simp at hv; rcases hv with rfl | rfl | rfl | rfl <;> rfl) ordP swoP 36 #[] g 0 cap xs.toArray w (enters_of Tryz.func36 (by kernel_rfl) rfl) (cmpP g 0 _ w) hH
      (Array.getElem?_eq_some_iff.1 h3).1 (by rw [hsz]; omega) totP
    rw [hsz] at hc
    refine Calls.mono hc ?_
    rintro e w' ⟨he, n, os, rfl⟩
    have hs := rowS_sorted (n := n) (os := os) (sortP_length xs) hne h2 h3 h4 h5 h6
    exact ⟨he, hs.1, (Below.refl base w).grown hs.2 (Nat.le_of_lt (Nat.lt_of_le_of_lt h2 (Array.getElem?_eq_some_iff.1 h3).1)) (fun k e => by cases e; exact h2)⟩

theorem sortP_of {xs ys : List Pr} (h : xs.Perm ys) (hn : xs.Nodup) : sortP xs = sortP ys :=
  rise_ext (sortP_rise hn) (sortP_rise (h.nodup_iff.1 hn)) fun x => by rw [(sortP_perm xs).mem_iff, (sortP_perm ys).mem_iff, h.mem_iff]
theorem collectKeysS_any (Bm b : Nat) (L : List Pr) (w : World) (hm : w.cell? ⟨Bm, 0, none⟩ = some (.map (some b))) (hM : SetAt w b L) (hL : L.length ≤ 1048576) :
    Calls Tryz.prog 50 #[kfS (.pointer (some ⟨Bm, 0, none⟩))] w fun e w' => ∃ v xs, e = .returned v ∧ xs.Perm L ∧ RowS w.heap.size w' v xs ∧ Adds w w' := by
  have HC := Lib.hid (appendKeysS_any Bm b L w hm hM hL)
  clear hm hM hL
  go_enter Tryz.func50, Tryz.ntmps50
  go_wp2_with (go_at_call 64; refine HC.out.mono ?_; rintro e w1 ⟨v, xs, rfl, h1, h2, h3⟩; have H1 := Lib.hid h1; have H2 := Lib.hid h2; have H3 := Lib.hid h3; clear h1 h2 h3)
  go_ret
  exact ⟨v, xs, rfl, H1.out, H2.out, H3.out⟩
theorem sortedFS_any (Bm b : Nat) (L : List Pr) (w : World) (hm : w.cell? ⟨Bm, 0, none⟩ = some (.map (some b))) (hM : SetAt w b L) (hL : L.length ≤ 1048576) :
    Calls Tryz.prog 34 #[kfS (.pointer (some ⟨Bm, 0, none⟩)), .func (.func 36) #[] #[]] w fun e w' => ∃ v, e = .returned v ∧ RowS w.heap.size w' v (sortP L) ∧ Adds w w' := by
  have HC := Lib.hid (collectKeysS_any Bm b L w hm hM hL)
  have HL := Lib.hid hL
  have HD := Lib.hid hM.nodup
  clear hm hM hL
  go_enter Tryz.func34, Tryz.ntmps34
  go_wp2_with (first
    | (go_at_call 50; refine HC.out.mono ?_; rintro e w1 ⟨v, xs, rfl, h1, h2, h3⟩; have H1 := Lib.hid h1; have H2 := Lib.hid h2; have H3 := Lib.hid h3; clear h1 h2 h3)
    | (go_at_call 51; refine (sortFS_any w.heap.size v xs w1 H2.out (by have := H1.out.length_eq; have := HL.out; omega)).mono ?_; rintro e w2 ⟨rfl, h4, h5⟩; have H4 := Lib.hid h4; have H5 := Lib.hid h5; clear h4 h5))
  go_ret
  exact ⟨v, rfl, by rw [← sortP_of H1.out (H1.out.nodup_iff.2 HD.out)]; exact H4.out, Below.trans H3.out H5.out⟩
theorem rising_any (b : Nat) (L : List Pr) (w : World) (hM : SetAt w b L) (hL : L.length ≤ 1048576) :
    Calls Tryz.prog 24 #[.map (some b)] w fun e w' => ∃ v, e = .returned v ∧ RowS w.heap.size w' v (sortP L) ∧ Adds w w' := by
  have HK := Lib.hid (keysS_any (some b) w)
  obtain ⟨w1, hw1⟩ : ∃ w1, w.alloc (.cells #[.map (some b)] 53) = w1 := ⟨_, rfl⟩
  rw [hw1] at HK
  have HA := Lib.hid (show Adds w w1 by rw [← hw1]; exact (Below.refl _ _).alloc (Nat.le_refl _) _)
  have HC := Lib.hid (sortedFS_any w.heap.size b L w1 (by rw [← hw1]; simp) (hM.same (HA.out.block b hM.lt)) hL)
  clear hw1 hM hL
  go_enter Tryz.func24, Tryz.ntmps24
  go_wp2_with (first
    | (go_at_call 35; refine HK.out.mono ?_; rintro e w2 ⟨rfl, rfl⟩)
    | (go_at_call 34; refine HC.out.mono ?_; rintro e w2 ⟨v, rfl, h1, h2⟩; have H1 := Lib.hid h1; have H2 := Lib.hid h2; clear h1 h2))
  go_ret
  exact ⟨v, rfl, H1.out.base HA.out.size, Adds.trans HA.out H2.out⟩
theorem RowS.slice {base : Nat} {w : World} {v : Value} {xs : List Pr} (h : RowS base w v xs) : ∃ p n c, v = .slice p n c := by
  by_cases hne : xs = []
  · exact ⟨none, 0, 0, h.2.2 hne⟩
  · obtain ⟨g, cap, cur, rfl, _⟩ := rowS_some h hne
    exact ⟨_, _, _, rfl⟩
/-- All of a set. -/
theorem all_some (bp b : Nat) (v : Value) (L : List Pr) (hL : L.length ≤ 1048576) (w : World) (h : SetP w v bp b L) :
    Calls Tryz.prog 13 #[v] w fun e w' => e = .returned (.func (.func 25) #[] #[.pointer (some ⟨w.heap.size, 0, none⟩)]) ∧ ∃ u, w'.heap[w.heap.size]? = some (.cells #[u] 60 (0, 0)) ∧ RowS (w.heap.size + 1) w' u (sortP L) ∧ Adds w w' := by
  obtain rfl := h.ptr
  obtain ⟨w1, hw1⟩ : ∃ w1, w.alloc (.cells #[.slice none 0 0] 60) = w1 := ⟨_, rfl⟩
  have HA := Lib.hid (show Adds w w1 by rw [← hw1]; exact (Gr.new _ _).adds)
  have HZ := Lib.hid (show w1.heap.size = w.heap.size + 1 by rw [← hw1]; simp)
  have HB := Lib.hid (show w1.heap[w.heap.size]? = some (.cells #[.slice none 0 0] 60 (0, 0)) by rw [← hw1]; exact World.alloc_heap_new _ _)
  have h1 := h.adds HA.out
  have c0 := h1.c0
  have HN := Lib.hid (isNoneS_full bp b w1 c0)
  have HR := Lib.hid (rising_any b L w1 h1.set hL)
  clear h h1 hL
  go_enter Tryz.func13, Tryz.ntmps13
  go_wp2_with (first
    | (go_at_call 18; refine HN.out.mono ?_; rintro e w2 ⟨rfl, rfl⟩)
    | (go_at_call 24; refine HR.out.mono ?_; rintro e w3 ⟨u, rfl, h2, h3⟩; obtain ⟨p, n, c, rfl⟩ := h2.slice; have H2 := Lib.hid h2; have H3 := Lib.hid h3; have hb3 : w3.heap[w.heap.size]? = some (.cells #[.slice none 0 0] 60 (0, 0)) := (h3.block w.heap.size (by have := HZ.out; omega)).trans HB.out; have d0 := (cell_of_box_a hb3).1; have f0 := (cell_of_box_a hb3).2; have HB3 := Lib.hid hb3; clear h2 h3 hb3))
  go_ret
  refine ⟨rfl, .slice p n c, heap_setCell_box_a _ HB3.out, ?_, ?_⟩
  · have := HZ.out
    exact (H2.out.kept (grownBy_setCell' w3 w.heap.size _) (fun r e => by cases e; exact ⟨_, HB3.out, fun cur e => by injection e with _ h; exact absurd h (by decide)⟩)).base (Nat.le_of_eq HZ.out.symm)
  · exact Adds.set (Adds.trans HA.out H3.out) (Nat.le_refl _) 0 _
end Go.Proofs.YtoeoeeomnbggkaaGreatDoor
namespace Go.Proofs.YtoeoeeomnbggkaaGreatDoor
open Go Go.RowKit Go.Shelf
attribute [local go_sem] Oper.semAt_some

/-- The round that comes next, of N. -/
def AtJ7 (N : Nat) (pre : List Nat) (x : Nat) : Prop := x < N ∧ pre = List.range x
/-- A pair with its place, as the ranges hand it on. -/
abbrev ixV7 (L : List Pr) (x : Nat) : Array Value := #[.int .i64 ((x : Nat) : Int), prV (atP L x)]
/-- A slice of pairs that lies where M does not turn. -/
def PairsK (M : Nat → Prop) (w : World) (u : Value) (L : List Pr) : Prop :=
  ∃ ao cap, u = .slice ao L.length cap ∧ (L ≠ [] → ∃ g off, ao = some ⟨g, off, none⟩ ∧ ¬ M g ∧ ∀ i, i < L.length → At4 w g (off + i * 4) (atP L i))
theorem At4.keepC {M : Nat → Prop} {w w' : World} {g o : Nat} {x : Pr} (h : At4 w g o x) (hg : ¬ M g) (hk : KeepC M w w') : At4 w' g o x := by
  obtain ⟨h0, h1, h2, h3⟩ := h
  exact ⟨hk.cell hg h0, hk.cell hg h1, hk.cell hg h2, hk.cell hg h3⟩
theorem PairsK.keepC {M : Nat → Prop} {w w' : World} {u : Value} {L : List Pr} (h : PairsK M w u L) (hk : KeepC M w w') : PairsK M w' u L := by
  obtain ⟨ao, cap, rfl, h3⟩ := h
  exact ⟨ao, cap, rfl, fun hl => by obtain ⟨g, off, e, hg, hc⟩ := h3 hl; exact ⟨g, off, e, hg, fun i hi => (hc i hi).keepC hg hk⟩⟩

set_option maxRecDepth 100000 in
set_option maxHeartbeats 4000000 in
theorem sall1_in (B n : Nat) (hn : 1 ≤ n) (l B1 : Nat) (M : Nat → Prop) (u : Value) (L : List Pr) (hl : L.length ≤ 1048576) (J Jx : List Nat → World → Prop) (W : World)
    (hJ : Stable W.heap.size J)
    (hY : ∀ pre x W1, J pre W1 → AtJ7 L.length pre x → YieldAt Fence.wide (n - 1) Tryz.prog l (ixV7 L x) W1 fun z W' =>
      (z = .returned (.bool true) ∧ J (pre ++ [x]) W' ∧ KeepC M W1 W' ∧ KeepsFrom B W1 W') ∨ (z = .returned (.bool false) ∧ Jx (pre ++ [x]) W' ∧ KeepsFrom B W1 W'))
    (_hB : B ≤ W.heap.size) (c1 : W.cell? ⟨B1, 0, none⟩ = some u) (hP : PairsK M W u L) (h0 : J [] W) :
    CallsIn Fence.wide n Tryz.prog 37 #[.func (.yield l) #[] #[], .pointer (some ⟨B1, 0, none⟩)] W fun z W' => (∃ v, z = .returned v) ∧
      ((∃ ys, ys = List.range L.length ∧ J ys W') ∨ (∃ pre, (∃ j, j ≤ L.length ∧ pre = List.range j) ∧ Jx pre W')) := by
  have HY := Lib.hid hY; have HJ := Lib.hid hJ; have HP := Lib.hid hP; have HL := Lib.hid hl
  obtain ⟨ao, cap, rfl, _⟩ := hP
  clear hY hJ hl
  refine callsIn_of_wp Tryz.func37 rfl trivial ?_ rfl
  simp only [Tryz.ntmps37, List.size_toArray, List.length_cons, List.length_nil, Nat.reduceAdd, Nat.reduceSub, Array.replicate_succ, Array.replicate_zero, List.push_toArray, List.append_toArray, List.nil_append, List.cons_append]
  gi_wp2
  gi_loopw [7] (fun i wr => ∃ k : Nat, i = .int .i64 k ∧ k ≤ L.length ∧ J (List.range k) wr ∧ KeepC M W wr ∧ W.heap.size ≤ wr.heap.size) (fun i _ => L.length + 1 - (intOf i).toNat)
  case atStart => exact ⟨0, rfl, Nat.zero_le _, h0, KeepC.refl _ _, Nat.le_refl _⟩
  case round =>
    obtain ⟨k, rfl, hk, hJs, hnx, hsz⟩ := hrel
    have HX := Lib.hid hnx; have HJs := Lib.hid hJs; have HSz := Lib.hid hsz; have HLk := Lib.hid hk
    clear hnx hJs hsz hk
    by_cases hlt : k < L.length
    · obtain ⟨ao', cap', e, h3⟩ := HP.out.keepC HX.out
      simp only [Value.slice.injEq, true_and] at e
      obtain ⟨rfl, rfl⟩ := e
      obtain ⟨g, off, rfl, hg, hc⟩ := h3 (by rintro rfl; simp at hlt)
      obtain ⟨k0, k1, k2, k3⟩ := hc k hlt
      obtain ⟨⟨⟨x1, x2⟩, ⟨x3, x4⟩⟩, hxe⟩ : ∃ x, atP L k = x := ⟨_, rfl⟩
      rw [hxe] at k0 k1 k2 k3
      try simp only at k0 k1 k2 k3
      obtain ⟨wa, hwa⟩ : ∃ wa, wr.alloc (.cells #[.int .i64 x1, .int .i64 x2, .int .i64 x3, .int .i64 x4] 56) = wa := ⟨_, rfl⟩
      have HA := Lib.hid (show Adds wr wa by rw [← hwa]; exact (Gr.new _ _).adds)
      have bk : BkS 56 wa wr.heap.size [.int .i64 x1, .int .i64 x2, .int .i64 x3, .int .i64 x4] := by rw [← hwa]; exact BkS.new _ _ _
      have d0 : wa.cell? ⟨wr.heap.size, 0, none⟩ = some (.int .i64 x1) := bk.cell 0
      have d1 : wa.cell? ⟨wr.heap.size, 1, none⟩ = some (.int .i64 x2) := bk.cell 1
      have d2 : wa.cell? ⟨wr.heap.size, 2, none⟩ = some (.int .i64 x3) := bk.cell 2
      have d3 : wa.cell? ⟨wr.heap.size, 3, none⟩ = some (.int .i64 x4) := bk.cell 3
      have HKa := Lib.hid (HX.out.trans (KeepC.of_below HA.out))
      obtain ⟨fn, tmps, assign, body, hy, hR⟩ := HY.out _ k wa (HJ.out _ _ _ HJs.out (HA.out.mono HSz.out)) ⟨hlt, rfl⟩
      dsimp only [ixV7] at hy
      rw [hxe] at hy
      try simp only at hy
      have hltI : (k : Int) < (L.length : Int) := by omega
      have hcapI : (L.length : Int) ≤ 1048576 := by have := HL.out; omega
      have HLt := Lib.hid hlt
      clear h3 hc hxe bk hlt
      gi_wp2
      refine hR.mono ?_
      rintro e W3 (⟨rfl, hJ3, hk3, hf3⟩ | ⟨rfl, hJx3, _⟩)
      · have HJ3 := Lib.hid hJ3
        have HX3 := Lib.hid (HKa.out.trans hk3)
        have HSz3 := Lib.hid (Nat.le_trans HSz.out (Nat.le_trans HA.out.size hf3.size))
        clear hJ3 hk3 hf3
        gi_wp2
        go_roundw
        case rel => exact ⟨k + 1, by go_num, HLt.out, by rw [List.range_succ]; exact HJ3.out, HX3.out, HSz3.out⟩
        case measure => simp [intOf]; have := HLt.out; omega
      · have HJ3 := Lib.hid hJx3
        clear hJx3
        gi_wp2
        refine bodyPost_ret (results_none rfl _ _ _) rfl ?_
        exact ⟨⟨_, rfl⟩, .inr ⟨_, ⟨k + 1, HLt.out, (List.range_succ).symm⟩, HJ3.out⟩⟩
    · obtain rfl : k = L.length := by have := HLk.out; omega
      gi_wp2
      go_end0
      exact ⟨⟨_, rfl⟩, .inl ⟨_, rfl, HJs.out⟩⟩
end Go.Proofs.YtoeoeeomnbggkaaGreatDoor
namespace Go.Proofs.YtoeoeeomnbggkaaGreatDoor
open Go Go.RowKit Go.Shelf
attribute [local go_sem] Oper.semAt_some

theorem keepC_stable7 (M : Nat → Prop) {B : Nat} {W : World} (hB : W.heap.size ≤ B) {β : Type} : Stable B (fun (_ : β) W' => KeepC M W W') := fun _ A C h hb k c e f hk hc => by
  have hlt := (Array.getElem?_eq_some_iff.1 hc).1
  rw [hb.block k (by omega)]
  exact h k c e f hk hc
theorem keepsFrom_up {B B' : Nat} {W W' : World} (h : KeepsFrom B W W') (hB : B ≤ B') : KeepsFrom B' W W' := ⟨h.size, fun k o hk ho hc => h.same k o (Nat.le_trans hB hk) ho hc⟩

set_option maxRecDepth 100000 in
set_option maxHeartbeats 4000000 in
theorem pall1_in (n : Nat) (hn : 4 ≤ n) (l Bw : Nat) (M : Nat → Prop) (u : Value) (L : List Pr) (hl : L.length ≤ 1048576) (J Jx : List Nat → World → Prop)
    (W : World) (hJ : Stable W.heap.size J) (hJx : Stable W.heap.size Jx)
    (hY : ∀ pre x W1, J pre W1 → AtJ7 L.length pre x → YieldAt Fence.wide (n - 1) Tryz.prog l (ixV7 L x) W1 fun z W' =>
      (z = .returned (.bool true) ∧ J (pre ++ [x]) W' ∧ KeepC M W1 W' ∧ KeepsFrom W.heap.size W1 W') ∨ (z = .returned (.bool false) ∧ Jx (pre ++ [x]) W' ∧ KeepsFrom W.heap.size W1 W'))
    (hM : ∀ b, M b → b < W.heap.size) (c0 : W.cell? ⟨Bw, 0, none⟩ = some u) (hP : PairsK M W u L) (h0 : J [] W) :
    CallsIn Fence.wide n Tryz.prog 25 #[.func (.yield l) #[] #[], .pointer (some ⟨Bw, 0, none⟩)] W fun z W' => (∃ v, z = .returned v) ∧
      ((∃ ys, ys = List.range L.length ∧ J ys W') ∨ (∃ pre, (∃ j, j ≤ L.length ∧ pre = List.range j) ∧ Jx pre W')) := by
  have HY := Lib.hid hY; have HJ := Lib.hid hJ; have HJX := Lib.hid hJx; have HM := Lib.hid hM; have HP := Lib.hid hP; have HL := Lib.hid hl
  obtain ⟨ao, cap, rfl, _⟩ := hP
  clear hY hJ hJx hM hl
  refine callsIn_of_wp_marks Tryz.func25 rfl trivial ?_ rfl
  simp only [Tryz.ntmps25, List.size_toArray, List.length_cons, List.length_nil, Nat.reduceAdd, Nat.reduceSub, Array.replicate_succ, Array.replicate_zero, List.push_toArray, List.append_toArray, List.nil_append, List.cons_append]
  gi_wp2
  refine wpIn_scope_straight ?_
  apply wpIn_seq_k; intro K1 hK1
  refine wpIn_label ?_
  refine hK1 _ _ ?_
  clear hK1 K1
  obtain ⟨Wa, hWa⟩ : ∃ Wa, W.alloc (Obj.cells #[Value.func (Fn.yield l) #[] #[]] 62) = Wa := ⟨_, rfl⟩
  have HA := Lib.hid (hWa ▸ (Gr.new W _).adds : Adds W Wa)
  have ca0 : Wa.cell? ⟨Bw, 0, none⟩ = some (.slice ao L.length cap) := HA.out.cellAt c0
  have ca3 : Wa.cell? ⟨W.heap.size, 0, none⟩ = some (.func (.yield l) #[] #[]) := by rw [← hWa]; simp
  have hsa : W.heap.size + 1 = Wa.heap.size := by rw [← hWa]; simp
  have HSa := Lib.hid hsa
  rw [hWa]
  clear hWa hsa
  have h1n : 1 ≤ n := by omega
  gi_wp2_with (refine ⟨trivial, ?_⟩; gi_at_call 26; refine (callsIn_wide.2 (sall_any _ _ _ _)).mono ?_; rintro e w' ⟨rfl, rfl⟩)
  obtain ⟨Wb, hWb⟩ : ∃ Wb, World.alloc Wa (.cells #[.slice ao L.length cap] 60) = Wb := ⟨_, rfl⟩
  have HB := Lib.hid (hWb ▸ (Gr.new Wa _).adds : Adds Wa Wb)
  have cb0 : Wb.cell? ⟨Wa.heap.size, 0, none⟩ = some (.slice ao L.length cap) := by rw [← hWb]; simp
  have cb3 : Wb.cell? ⟨W.heap.size, 0, none⟩ = some (.func (.yield l) #[] #[]) := HB.out.cellAt ca3
  have HAB := Lib.hid (Adds.trans HA.out HB.out)
  rw [hWb]
  clear hWb ca0 ca3
  have hz := HAB.out.size
  have HPb := Lib.hid (HP.out.keepC (KeepC.of_below (M := M) HAB.out))
  refine' rangeFunc_SB rfl (by omega) (gf := 37) (lb := #[.pointer (some ⟨Wa.heap.size, 0, none⟩)]) rfl trivial (enters_of Tryz.func37 (by kernel_rfl) rfl)
    (w0 := Wb) (G := AtJ7 L.length) (encs := ixV7 L) (Kp := KeepC M) (S := fun xs => xs = List.range L.length) (Sp := fun pre => ∃ j, j ≤ L.length ∧ pre = List.range j)
    ?seq KeepC.trans (fun W l o o' _ h hc _ => KeepC.put W l o o' h hc) (Below.refl _ _) (fun _ => rfl)
    (fun pre Wr => J pre Wr ∧ KeepC M Wb Wr) (fun c pre Wr => c = .exit 0 ∧ Jx pre Wr) ?own ?ownx ?h0 _ (fun x => .cells (prC (atP L x)).toArray 56 (0, 0)) (fun W o _ => KeepC.of_below (Gr.new W o).adds) ?assign ?body ?done ?stop
  case assign =>
    intro l2 x W2 bb K hbb hK
    have HK := Lib.hid hK; clear hK
    gi_wp2
    exact HK.out
  case own => exact (Stable.higher HJ.out (by omega)).and (keepC_stable7 M (Nat.le_refl _))
  case ownx => exact fun c s A C hs hb => ⟨hs.1, HJX.out s A C hs.2 (hb.mono (by omega))⟩
  case seq =>
    intro l' J' Jx' W2 hb hJ' hJx' hY' h0'
    exact sall1_in W2.heap.size (n - 1) (by omega) l' _ M _ L HL.out J' Jx' W2 hJ' hY' (Nat.le_refl _) (Adds.cellAt hb cb0) (HPb.out.keepC (KeepC.of_below hb)) h0'
  case h0 => exact ⟨HJ.out _ _ _ h0 HAB.out, KeepC.refl _ _⟩
  case body =>
    rintro l2 pre x W2 bb ⟨hJ2, hk2⟩ hg hbb hbo
    have c2 : W2.cell? ⟨W.heap.size, 0, none⟩ = some (.func (.yield l) #[] #[]) := hk2.cell (fun hm => by have := HM.out _ hm; omega) cb3
    have bk : BkS 56 W2 bb (prC (atP L x)) := hbo
    have e0 : W2.cell? ⟨bb, 0, none⟩ = some (.int .i64 (atP L x).1.1) := bk.cell 0
    have e1 : W2.cell? ⟨bb, 1, none⟩ = some (.int .i64 (atP L x).1.2) := bk.cell 1
    have e2 : W2.cell? ⟨bb, 2, none⟩ = some (.int .i64 (atP L x).2.1) := bk.cell 2
    have e3 : W2.cell? ⟨bb, 3, none⟩ = some (.int .i64 (atP L x).2.2) := bk.cell 3
    obtain ⟨fn, tmps, assign, body, hy, hR⟩ := HY.out pre x W2 hJ2 hg
    dsimp only [ixV7] at hy
    have HK2 := Lib.hid hk2
    have HZ := Lib.hid hz
    clear bk hbo hbb hg hJ2 hk2 hz
    have hd : 1 ≤ n - 1 - 1 := by omega
    gi_wp2
    refine (RoundIn.wider hR l2 _).mono ?_
    rintro e W3 (⟨rfl, hJ3, hk3, hf3⟩ | ⟨rfl, hJx3, hf3⟩)
    · have HF := Lib.hid (And.intro hJ3 (And.intro hk3 hf3))
      clear hJ3 hk3 hf3
      gi_wp2
      exact ⟨keepsFrom_up HF.out.2.2 HZ.out, HF.out.2.1, HF.out.1, HK2.out.trans HF.out.2.1⟩
    · have HF := Lib.hid (And.intro hJx3 hf3)
      clear hJx3 hf3
      gi_wp2
      exact ⟨keepsFrom_up HF.out.2 HZ.out, rfl, HF.out.1⟩
  case done =>
    rintro D xs W2 hD rfl ⟨hJ2, hk2⟩ hK
    gi_wp2
    show LeavesInM _ _ _ _ _ _ _ _ _
    refine ⟨by simp, .inl ⟨_, _, rfl, run_takeDeferred hK, ?_⟩⟩
    exact ⟨_, results_none rfl _ _ _, ⟨_, rfl⟩, .inl ⟨_, rfl, HJ.out.putObj _ hJ2 (by omega) hK rfl⟩⟩
  case stop =>
    rintro D c pre W2 hD hpre ⟨rfl, hx⟩ hK
    gi_wp2
    show LeavesInM _ _ _ _ _ _ _ _ _
    refine ⟨by simp, .inl ⟨_, _, rfl, run_takeDeferred hK, ?_⟩⟩
    exact ⟨_, results_none rfl _ _ _, ⟨_, rfl⟩, .inr ⟨_, hpre, HJX.out.putObj _ hx (by omega) hK rfl⟩⟩
theorem pall_seqS (n : Nat) (hn : 4 ≤ n) (Bw : Nat) (M : Nat → Prop) (u : Value) (L : List Pr) (hl : L.length ≤ 1048576) (w : World) (hM : ∀ b, M b → b < w.heap.size) (c0 : w.cell? ⟨Bw, 0, none⟩ = some u) (hP : PairsK M w u L) :
    SeqS Fence.wide n Tryz.prog 25 #[.pointer (some ⟨Bw, 0, none⟩)] (ixV7 L) (KeepC M) (fun xs => xs = List.range L.length) (fun pre => ∃ j, j ≤ L.length ∧ pre = List.range j) (AtJ7 L.length) w := fun l J Jx W hb hJ hJx hY h0 =>
  pall1_in n hn l Bw M u L hl J Jx W hJ hJx hY (fun b h => Nat.lt_of_lt_of_le (hM b h) hb.size) (Adds.cellAt hb c0) (hP.keepC (KeepC.of_below hb)) h0
end Go.Proofs.YtoeoeeomnbggkaaGreatDoor
