/- Merged: Z19. -/
import Derived.Test.YthhegcngkpfcoaaGreatY45
import Derived.Test.YthhegcngkpfcoaaGreatY31
import Derived.OwnWalkIn
namespace Go.Proofs.YthhegcngkpfcoaaGreat
open Go Go.RowKit Go.Shelf
attribute [local go_sem] Oper.semAt_some

section
variable {F : Fence} {n : Nat} {P : Program}
theorem rangeFunc_0 {g : Operand} {ps : Array Tmp} {assign body : Code} {Q : Exit → Act → World → Prop} {a : Act} {w : World}
    (hro : F.round = none) (h1 : 1 ≤ n) {gf : Nat} {lb : Array Value} (hg : a.eval g = .func (.func gf) #[] lb) (hFg : F.fn gf) (eg : ∀ args w, (callFunc gf args).run P w = .ok (.enter gf args) w)
    (hseq : ∀ l W1, Below w.heap.size w W1 → CallsIn F (n - 1) P gf (#[.func (.yield l) #[] #[]] ++ lb) W1 fun e W' => (∃ v, e = .returned v) ∧ Below W1.heap.size W1 W')
    (hdone : ∀ (D : Nat) (W : World), w.heap.size ≤ D → Below w.heap.size w W → W.heap[D]? = some (.deferred (some [])) → Q .normal { a with defers := { target := .collected D, args := #[] } :: a.defers } W) :
    (Code.rangeFunc g ps assign body).wpIn F n P Q a w := by
  refine wpIn_rangeFunc ?_
  intro fn hfn
  rw [hro]
  obtain ⟨rec, hrec⟩ : ∃ rec : LoopState → Option Code → Loop, rec = fun st pe => { state := st, pending := pe, fn, tmps := a.tmps, params := ps, assign, body, defers := w.heap.size } := ⟨_, rfl⟩
  obtain ⟨W1, hW1⟩ : ∃ W1, (w.alloc (.deferred (some []))).alloc (.loop (rec .ready none)) = W1 := ⟨_, rfl⟩
  have hL1 : W1.heap[w.heap.size + 1]? = some (.loop (rec .ready none)) := by
    rw [← hW1]; have := World.alloc_heap_new (w.alloc (.deferred (some []))) (.loop (rec .ready none)); rwa [World.size_alloc] at this
  have hK1 : W1.heap[w.heap.size]? = some (.deferred (some [])) := by
    rw [← hW1]; exact (Below.heap_alloc _ _ _ (by simp)).trans (World.alloc_heap_new w _)
  have hb1 : Below w.heap.size w W1 := by
    rw [← hW1]; exact ((Below.refl _ w).alloc (Nat.le_refl _) _).alloc (by simp) _
  refine ⟨w.heap.size + 1, [{ target := .collected w.heap.size, args := #[] }], W1, { target := .fn (.func gf) lb, args := #[.func (.yield (w.heap.size + 1)) #[] #[]] }, W1, gf,
    #[.func (.yield (w.heap.size + 1)) #[] #[]] ++ lb, W1, ?_, ?_, ?_, ?_, fun _ => h1, ?_⟩
  · rw [← hW1, hrec]; exact run_enterLoop_outer _ _ _ _ _
  · simp only [resolve, hg]
    simp [go_sem]
  · intro f' hf'; simp [Target.leads] at hf'; subst hf'; exact hFg
  · simp [invoke, go_sem, eg]
  · refine (hseq (w.heap.size + 1) W1 hb1).mono ?_
    rintro e W2 ⟨⟨v, rfl⟩, hb⟩
    have hl : W2.heap[w.heap.size + 1]? = some (.loop (rec .ready none)) := (hb.block _ (Array.getElem?_eq_some_iff.1 hL1).1).trans hL1
    have hk : W2.heap[w.heap.size]? = some (.deferred (some [])) := (hb.block _ (Array.getElem?_eq_some_iff.1 hK1).1).trans hK1
    have hb2 : Below w.heap.size w W2 := hb1.trans (hb.mono hb1.size)
    have he := run_endLoop (P := P) hl (by rw [hrec]; simp)
    rw [hrec] at he
    refine ⟨none, _, he, hdone w.heap.size _ (Nat.le_refl _) (hb2.trans ⟨rfl, rfl, rfl, (grownBy_putObj' _ _ _).size, fun k hk => World.putObj_heap_other (by omega)⟩) ((World.putObj_heap_other (by omega)).trans hk)⟩
end
theorem below_put {n : Nat} {w W : World} (h : Below n w W) {D : Nat} (hD : n ≤ D) (o : Obj) : Below n w (W.putObj D o) := h.trans ⟨rfl, rfl, rfl, (grownBy_putObj' _ _ _).size, fun k hk => World.putObj_heap_other (by omega)⟩

set_option maxRecDepth 100000 in
theorem copiedC_nil (fv : Value) (ao : Option Addr) (c : Nat) (w : World) : Calls Tryz.prog 52 #[.slice ao 0 c, fv] w fun e w' => (∃ bo d, e = .returned (.slice bo 0 d)) ∧ Adds w w' := by
  obtain ⟨i0, hi, hz, hs, hb⟩ := info_parts infoFr
  have hmk : ∃ bo, ∃ w1, (Instr.makeSlice 29 (.int .i64 0) (.int .i64 0)).run Tryz.prog w = .ok (.slice bo 0 0) w1 ∧ Adds w w1 := by
    have h := run_make (P := Tryz.prog) w 29 83 i0 (.agg #[.int .i64 0, .int .i64 0, .int .i64 0, .slice none 0 0]) Tryz.underlying29 hi hz .i64 .i64 0 0 (by omega) (by omega) (by rw [hb]; omega) (by omega)
    exact ⟨_, _, h, Adds.new _ _⟩
  obtain ⟨bo, w1, hmk, a1⟩ := hmk
  have A1 := Lib.hid a1
  clear a1 hi hz hs hb
  go_enter Tryz.func52, Tryz.ntmps52
  go_wp2_with fail
  go_loopw [6, 7, 13] (fun _ _ i wr => i = .int .i64 0 ∧ wr = w1) (fun _ _ _ _ => 0)
  case atStart => exact ⟨rfl, rfl⟩
  case round =>
    obtain ⟨rfl, rfl⟩ := hrel
    go_wp2
    go_ret
    exact ⟨⟨_, _, rfl⟩, A1.out⟩
set_option maxRecDepth 100000 in
theorem copiedF_nil (ao : Option Addr) (c : Nat) (w : World) : Calls Tryz.prog 27 #[.slice ao 0 c] w fun e w' => (∃ bo d, e = .returned (.slice bo 0 d)) ∧ Adds w w' := by
  have HC := Lib.hid (fun (V : Value) (W : World) => copiedC_nil V ao c W)
  go_enter Tryz.func27, Tryz.ntmps27
  go_wp2_with (go_at_call 52; refine (HC.out _ _).mono ?_; rintro e w2 ⟨⟨bo, d, rfl⟩, a2⟩; have A2 := Lib.hid a2; clear a2)
  go_ret
  exact ⟨⟨_, _, rfl⟩, A2.out⟩
set_option maxRecDepth 100000 in
theorem FramesS_none {n : Nat} {w : World} {v : Value} {p : Pg} {res : UInt32} (h : StkO n w v p [] res) (hn : n ≤ w.heap.size) : Calls Tryz.prog 7 #[v] w fun e w' => ∃ k ao d, e = .returned (.func (.func 28) #[] #[.pointer (some ⟨k, 0, none⟩)]) ∧ w'.cell? ⟨k, 0, none⟩ = some (.slice ao 0 d) ∧ Adds w w' := by
  have HI := Lib.hid (inside_any h hn)
  clear h hn
  go_enter Tryz.func7, Tryz.ntmps7
  go_wp2_with (first
    | (go_at_call 24; refine HI.out.mono ?_; rintro e w2 ⟨t, b, rfl, ⟨fv, lv, R, hp, hR⟩, ha⟩; have A2 := Lib.hid ha; rw [List.map_eq_nil_iff] at hR; subst hR; obtain ⟨ao, cp, rfl, _, _⟩ := hp.lo.form; have c4 := hp.bx.cell 4; simp only [List.length_nil] at c4; clear hp ha)
    | (go_at_call 27; refine (copiedF_nil _ _ _).mono ?_; rintro e w3 ⟨⟨bo, d, rfl⟩, a3⟩; have A3 := Lib.hid (Adds.trans A2.out a3); clear a3))
  go_ret
  exact ⟨w3.heap.size, bo, d, rfl, by simp, Adds.trans A3.out (Adds.new _ _)⟩
set_option maxRecDepth 100000 in
theorem down_any (v : Value) (w : World) (ao : Option Addr) (l c : Nat) (hv : v = .slice ao l c) : Calls Tryz.prog 29 #[v] w fun e w' => e = .returned (.func (.func 55) #[] #[.pointer (some ⟨w.heap.size, 0, none⟩)]) ∧ w'.cell? ⟨w.heap.size, 0, none⟩ = some v ∧ Adds w w' := by
  subst hv
  go_enter Tryz.func29, Tryz.ntmps29
  go_wp2
  go_ret
  exact ⟨rfl, by simp, Adds.new _ _⟩
set_option maxRecDepth 100000 in
theorem down1_empty (n : Nat) (l B1 : Nat) (W : World) (ao : Option Addr) (d : Nat) (c1 : W.cell? ⟨B1, 0, none⟩ = some (.slice ao 0 d)) :
    CallsIn Fence.wide n Tryz.prog 55 #[.func (.yield l) #[] #[], .pointer (some ⟨B1, 0, none⟩)] W fun e W' => (∃ v, e = .returned v) ∧ W = W' := by
  refine callsIn_of_wp Tryz.func55 rfl trivial ?_ rfl
  simp only [Tryz.ntmps55, List.size_toArray, List.length_cons, List.length_nil, Nat.reduceAdd, Nat.reduceSub, Array.replicate_succ, Array.replicate_zero, List.push_toArray, List.append_toArray, List.nil_append, List.cons_append]
  gi_wp2
  gi_loopw [6] (fun i wr => i = .int .i64 0 ∧ W = wr) (fun i _ => (intOf i).toNat)
  case atStart => exact ⟨rfl, rfl⟩
  case round =>
    obtain ⟨rfl, rfl⟩ := hrel
    gi_wp2
    go_end0
    exact ⟨⟨_, rfl⟩, rfl⟩
set_option maxRecDepth 100000 in
set_option maxHeartbeats 4000000 in
theorem frames1_empty (n : Nat) (hn : 4 ≤ n) (l Bw : Nat) (W : World) (ao : Option Addr) (d : Nat) (c0 : W.cell? ⟨Bw, 0, none⟩ = some (.slice ao 0 d)) :
    CallsIn Fence.wide n Tryz.prog 28 #[.func (.yield l) #[] #[], .pointer (some ⟨Bw, 0, none⟩)] W fun z W' => (∃ v, z = .returned v) ∧ Adds W W' := by
  refine callsIn_of_wp_marks Tryz.func28 rfl trivial ?_ rfl
  simp only [Tryz.ntmps28, List.size_toArray, List.length_cons, List.length_nil, Nat.reduceAdd, Nat.reduceSub, Array.replicate_succ, Array.replicate_zero, List.push_toArray, List.append_toArray, List.nil_append, List.cons_append]
  gi_wp2
  (try refine wpIn_scope_straight ?_)
  apply wpIn_seq_k; intro K1 hK1
  refine wpIn_label ?_
  refine hK1 _ _ ?_
  clear hK1 K1
  obtain ⟨Wa, hWa⟩ : ∃ Wa, W.alloc (Obj.cells #[Value.func (Fn.yield l) #[] #[]] 81) = Wa := ⟨_, rfl⟩
  have HA := Lib.hid (hWa ▸ (Adds.new W _) : Adds W Wa)
  have ca0 : Wa.cell? ⟨Bw, 0, none⟩ = some (.slice ao 0 d) := HA.out.cellAt c0
  rw [hWa]
  clear hWa
  have h1n : 1 ≤ n := by omega
  gi_wp2_with (first
    | (refine ⟨trivial, ?_⟩; gi_at_call 27; refine (callsIn_wide.2 (copiedF_nil _ _ _)).mono ?_; rintro e w2 ⟨⟨bo, d2, rfl⟩, a2⟩; have A2 := Lib.hid a2; clear a2)
    | (refine ⟨trivial, ?_⟩; gi_at_call 29; refine (callsIn_wide.2 (down_any _ _ _ _ _ rfl)).mono ?_; rintro e w3 ⟨rfl, hc3, a3⟩; have A3 := Lib.hid a3; have C3 := Lib.hid hc3; clear a3 hc3))
  have HAB := Lib.hid (Adds.trans HA.out (Adds.trans A2.out A3.out))
  have hz := HAB.out.size
  refine rangeFunc_0 rfl (by omega) (gf := 55) (lb := #[.pointer (some ⟨w2.heap.size, 0, none⟩)]) rfl trivial (enters_of Tryz.func55 (by kernel_rfl) rfl) ?seq ?done
  case seq =>
    intro l' W2 hb
    refine (down1_empty (n - 1) l' _ W2 _ _ (Adds.cellAt hb C3.out)).mono ?_
    rintro z W' ⟨h1, rfl⟩
    exact ⟨h1, Below.refl _ _⟩
  case done =>
    rintro D W2 hD hb hK
    gi_wp2
    show LeavesInM _ _ _ _ _ _ _ _ _
    refine ⟨by simp, .inl ⟨_, _, rfl, run_takeDeferred hK, ?_⟩⟩
    exact ⟨_, results_none rfl _ _ _, ⟨_, rfl⟩, below_put (Adds.trans HAB.out hb) (by omega) _⟩
end Go.Proofs.YthhegcngkpfcoaaGreat
