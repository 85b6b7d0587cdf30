/- The iterator over a map's keys: its contract, at the wide fence. -/
import Derived.Sort.MapsRangeIn
import Derived.Shelf.SlIterI.Collect
import Derived.Test.YtdmbjonbcomphaaUOps
import Derived.Test.YtdmbjonbcomphaaBC
namespace Go.Proofs.Ytdmbjonbcomphaa
open Go Go.RowKit Go.Shelf Go.Maps
attribute [local go_sem] Oper.semAt_some

section
variable {F : Fence} {n : Nat} {ops : Array Oper} {rest : List Oper} {o : Oper} {a : Act} {w : World} {Q : Exit → Act → World → Prop}
theorem wpListIn_rangeU (hg : o.guard = none) (m : Operand) (hop : o.op = Op.range 46 m) (b : Nat) (L : List IP) (hm : a.eval m = .map (some b)) (h : HolAt w b L)
    (hK : ∀ w', RngH w' b w.heap.size L L → Adds w w' → w'.heap.size = w.heap.size + 1 → wpListIn F n Try.prog ops Q rest (a.put o.dst (.pointer (some ⟨w.heap.size, 0, none⟩))) w') : wpListIn F n Try.prog ops Q (o :: rest) a w := by
  refine wpListIn_plain hg fun K' hK' => ?_
  obtain ⟨w', hrun, r1, r2, r3⟩ := h.range
  unfold Oper.wpIn
  refine ⟨?_, ?_⟩
  · simp [Oper.about, hop]
  · rw [Oper.semAt_plain F _ _ (by rw [hop]; intro c hc'; cases hc')]
    simp [execOp, hop, hm, hrun, Result.andThen]
    exact hK' _ _ (hK w' r1 r2 r3)
theorem wpListIn_nextU (hg : o.guard = none) (it : Operand) (hop : o.op = Op.next it false) (b r : Nat) (L todo : List IP) (hit : a.eval it = .pointer (some ⟨r, 0, none⟩)) (h : RngH w b r L todo)
    (hDone : todo = [] → wpListIn F n Try.prog ops Q rest (a.put o.dst (.tuple #[.bool false])) w)
    (hMore : ∀ (p c : Int) (todo' : List IP) (w' : World), todo.Perm ((p, c) :: todo') → (p, c) ∈ L → RngH w' b r L todo' → w.grownBy w' (some r) → w'.heap.size = w.heap.size → w'.rangeLeft b r < w.rangeLeft b r →
      (Instr.entry (.pointer (some ⟨r, 0, none⟩))).run Try.prog w' = .ok (.tuple #[.int .i64 p, .int .i64 c]) w' → wpListIn F n Try.prog ops Q rest (a.put o.dst (.tuple #[.bool true, .int .i64 p, .int .i64 c])) w') :
    wpListIn F n Try.prog ops Q (o :: rest) a w := by
  refine wpListIn_plain hg fun K' hK' => ?_
  unfold Oper.wpIn
  refine ⟨by simp [Oper.about, hop], ?_⟩
  rw [Oper.semAt_plain F _ _ (by rw [hop]; intro c hc'; cases hc')]
  rcases h.next o.type with ⟨h0, hrun⟩ | ⟨p, c, todo', w', h1, h2, hrun, h3, h4, h5, h7, h6⟩
  · simp [execOp, hop, hit, hrun, Result.andThen]
    exact hK' _ _ (hDone h0)
  · unfold ptrV at hrun h6
    simp [execOp, hop, hit, hrun, Result.andThen]
    exact hK' _ _ (hMore p c todo' w' h1 h2 h3 h4 h5 h7 h6)
end

theorem RngH.iter {w : World} {b r : Nat} {L todo : List IP} (h : RngH w b r L todo) : ∃ o, w.heap[r]? = some o ∧ o.isCells = false := by
  obtain ⟨n, es, left, cnt, ⟨es0, clock, since, seen, c0, h1, h2, h3, h4, h5, h6⟩, h7⟩ := h
  exact ⟨_, h5, rfl⟩

set_option maxRecDepth 100000 in
set_option maxHeartbeats 2000000 in
theorem keys1_in (n : Nat) (hn : 1 ≤ n) (l Bm b : Nat) (L : List IP) (J Jx : List Int → World → Prop) (W : World)
    (hY : ∀ pre x W1, J pre W1 → (x ∈ L.map (·.1) ∧ pre.length < L.length) → YieldAt Fence.wide (n - 1) Try.prog l #[.int .i64 x] W1 fun e W' =>
      (e = .returned (.bool true) ∧ J (pre ++ [x]) W' ∧ W'.heap[b]? = W1.heap[b]? ∧ KeepsFrom W.heap.size W1 W') ∨ (e = .returned (.bool false) ∧ Jx (pre ++ [x]) W' ∧ KeepsFrom W.heap.size W1 W'))
    (hJ : OwnFrom W.heap.size J) (hm : W.cell? ⟨Bm, 0, none⟩ = some (.map (some b))) (hM : HolAt W b L) (h0 : J [] W) :
    CallsIn Fence.wide n Try.prog 45 #[.func (.yield l) #[] #[], .pointer (some ⟨Bm, 0, none⟩)] W fun e W' => (∃ v, e = .returned v) ∧
      ((∃ xs, xs.Perm (L.map (·.1)) ∧ J xs W') ∨ (∃ pre, True ∧ Jx pre W')) := by
  have HY := Lib.hid hY; clear hY
  have HJ := Lib.hid hJ; clear hJ
  have HM := Lib.hid hM; clear hM
  refine callsIn_of_wp Try.func45 rfl trivial ?_ rfl
  simp only [Try.ntmps45, List.size_toArray, List.length_cons, List.length_nil, Nat.reduceAdd, Nat.reduceSub, Array.replicate_succ, Array.replicate_zero, List.push_toArray, List.append_toArray, List.nil_append, List.cons_append]
  gi_wp2_with (gi_at_range; refine wpListIn_rangeU rfl _ rfl b L rfl HM.out ?_; intro w0 hr ha hs; have HR := Lib.hid hr; have HA := Lib.hid ha; clear hr ha hs)
  go_frame
  obtain ⟨r, hr⟩ : ∃ r, W.heap.size = r := ⟨_, rfl⟩
  rw [hr] at HR HY HJ ⊢
  have HE := Lib.hid hr; clear hr
  have HJ0 := Lib.hid (show J [] w0 from HJ.out [] W w0 none h0 ⟨HA.out.os, HA.out.tape, HA.out.output, HA.out.size, fun k hk _ => HA.out.block k hk⟩ (fun r e => by cases e))
  clear h0
  gi_loopw [] (fun wr => ∃ (todo : List IP) (ss : List Int), RngH wr b r L todo ∧ (ss ++ todo.map (·.1)).Perm (L.map (·.1)) ∧ J ss wr) (fun wr => wr.rangeLeft b r)
  case atStart => exact ⟨L, [], HR.out, List.Perm.refl _, HJ0.out⟩
  case round =>
    obtain ⟨todo, ss, hrg, hperm, hJs⟩ := hrel
    have HRg := Lib.hid hrg; have HPm := Lib.hid hperm; have HJs := Lib.hid hJs
    clear hrg hperm hJs
    gi_wp2_with (gi_at_next; refine wpListIn_nextU rfl _ rfl b r L todo rfl HRg.out ?_ ?_)
    · intro ht
      subst ht
      gi_wp2
      go_end0
      exact ⟨⟨_, rfl⟩, .inl ⟨ss, by simpa using HPm.out, HJs.out⟩⟩
    · intro p c todo' w2 hp hm' hrg2 hg2 hs2 hl2 hen
      have HP := Lib.hid hp; have HR2 := Lib.hid hrg2; have HL2 := Lib.hid hl2
      have HJ2 := Lib.hid (show J ss w2 from HJ.out ss wr w2 (some r) HJs.out hg2 (fun q e => by cases e; exact ⟨Nat.le_refl _, HRg.out.iter⟩))
      have HPm2 := Lib.hid (show (ss ++ [p] ++ todo'.map (·.1)).Perm (L.map (·.1)) from by
        refine List.Perm.trans ?_ HPm.out
        have h1 := HP.out.map (·.1)
        rw [List.append_assoc]
        exact (List.Perm.refl _).append h1.symm)
      obtain ⟨fn, tmps, assign, body, hy, hR⟩ := HY.out ss p w2 HJ2.out ⟨List.mem_map.2 ⟨(p, c), hm', rfl⟩, by
        have h1 := HPm2.out.length_eq
        simp at h1
        omega⟩
      clear hp hm' hrg2 hg2 hs2 hl2
      gi_wp2
      refine hR.mono ?_
      rintro e W3 (⟨rfl, hJ3, hb3, hk3⟩ | ⟨rfl, hJx3, _⟩)
      · have HJ3 := Lib.hid hJ3
        obtain ⟨o, ho, hc⟩ := HR2.out.iter
        have hr3 : W3.heap[r]? = w2.heap[r]? := (hk3.same r o (Nat.le_refl _) ho hc).trans ho.symm
        have HR3 := Lib.hid (HR2.out.same hb3 hr3)
        have HL3 := Lib.hid (rangeLeftH_same hb3 hr3)
        clear hJ3 hb3 hk3 ho hc hr3
        gi_wp2
        go_roundw
        case rel => exact ⟨todo', ss ++ [p], HR3.out, HPm2.out, HJ3.out⟩
        case measure => rw [HL3.out]; exact HL2.out
      · have HJx3 := Lib.hid hJx3
        clear hJx3
        gi_wp2
        refine bodyPost_ret (results_none rfl _ _ _) rfl ?_
        exact ⟨⟨_, rfl⟩, .inr ⟨ss ++ [p], trivial, HJx3.out⟩⟩

theorem keysU_any (b : Option Nat) (w : World) :
    Calls Try.prog 40 #[.map b] w fun e w' => e = .returned (.func (.func 45) #[] #[.pointer (some ⟨w.heap.size, 0, none⟩)]) ∧ w.alloc (.cells #[.map b] 46) = w' := by
  go_enter Try.func40, Try.ntmps40
  go_wp2
  go_ret
  exact ⟨rfl, rfl⟩

theorem keys_seqX (n : Nat) (hn : 1 ≤ n) (Bm b : Nat) (L : List IP) (w : World) (hm : w.cell? ⟨Bm, 0, none⟩ = some (.map (some b))) (hM : HolAt w b L) :
    SeqX Fence.wide n Try.prog 45 #[.pointer (some ⟨Bm, 0, none⟩)] (fun x : Int => #[.int .i64 x]) (fun W W' => W'.heap[b]? = W.heap[b]?)
      (fun xs => xs.Perm (L.map (·.1))) (fun _ => True) (fun pre x => x ∈ L.map (·.1) ∧ pre.length < L.length) w := fun l J Jx W hW hJ _ hY h0 =>
  keys1_in n hn l Bm b L J Jx W hY hJ ((hW.cell (p := ⟨Bm, 0, none⟩) (World.block_lt_of_cell? w _ hm)).trans hm) (hM.same (hW.block b hM.lt)) h0
end Go.Proofs.Ytdmbjonbcomphaa
