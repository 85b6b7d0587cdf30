/- Merged: SI0, SI1, SN4, SN5. -/
import Derived.Test.YtoeoeeomnbggkaaGreatDoorSeqS
import Derived.Sort.LoopGhostIn
import Derived.Test.YtoeoeeomnbggkaaGreatDoorSNM
import Derived.Test.YtoeoeeomnbggkaaGreatDoorLoose
import Derived.Test.YtoeoeeomnbggkaaGreatDoorKeep
import Derived.Test.YtoeoeeomnbggkaaGreatDoorScopeIn
import Derived.Test.YtoeoeeomnbggkaaGreatDoorMarks
import Derived.Test.YtoeoeeomnbggkaaGreatDoorTurn
import Derived.OwnWalkIn
import Derived.Deep.RegionLaw
import Derived.BigQuiet
import Derived.Shelf.SlSortCmp.QuietGrown
namespace Go.Proofs.YtoeoeeomnbggkaaGreatDoor
open Go Go.RowKit
section
variable {F : Fence} {n : Nat} {P : Program}
theorem rangeFunc_0 {g : Operand} {ps : Array Tmp} {assign body : Code} {Q : Exit → Act → World → Prop} {a : Act} {w : World}
    (hro : F.round = none) (h1 : 1 ≤ n) {gf : Nat} {lb : Array Value} (hg : a.eval g = .func (.func gf) #[] lb) (hFg : F.fn gf) (eg : ∀ args w, (callFunc gf args).run P w = .ok (.enter gf args) w)
    (hseq : ∀ l W1, Below w.heap.size w W1 → CallsIn F (n - 1) P gf (#[.func (.yield l) #[] #[]] ++ lb) W1 fun e W' => (∃ v, e = .returned v) ∧ Below W1.heap.size W1 W')
    (hdone : ∀ (D : Nat) (W : World), w.heap.size ≤ D → Below w.heap.size w W → W.heap[D]? = some (.deferred (some [])) → Q .normal { a with defers := { target := .collected D, args := #[] } :: a.defers } W) :
    (Code.rangeFunc g ps assign body).wpIn F n P Q a w := by
  refine wpIn_rangeFunc ?_
  intro fn hfn
  rw [hro]
  obtain ⟨rec, hrec⟩ : ∃ rec : LoopState → Option Code → Loop, rec = fun st pe => { state := st, pending := pe, fn, tmps := a.tmps, params := ps, assign, body, defers := w.heap.size } := ⟨_, rfl⟩
  obtain ⟨W1, hW1⟩ : ∃ W1, (w.alloc (.deferred (some []))).alloc (.loop (rec .ready none)) = W1 := ⟨_, rfl⟩
  have hL1 : W1.heap[w.heap.size + 1]? = some (.loop (rec .ready none)) := by
    rw [← hW1]; have := World.alloc_heap_new (w.alloc (.deferred (some []))) (.loop (rec .ready none)); rwa [World.size_alloc] at this
  have hK1 : W1.heap[w.heap.size]? = some (.deferred (some [])) := by
    rw [← hW1]; exact (Below.heap_alloc _ _ _ (by simp)).trans (World.alloc_heap_new w _)
  have hb1 : Below w.heap.size w W1 := by
    rw [← hW1]; exact ((Below.refl _ w).alloc (Nat.le_refl _) _).alloc (by simp) _
  refine ⟨w.heap.size + 1, [{ target := .collected w.heap.size, args := #[] }], W1, { target := .fn (.func gf) lb, args := #[.func (.yield (w.heap.size + 1)) #[] #[]] }, W1, gf,
    #[.func (.yield (w.heap.size + 1)) #[] #[]] ++ lb, W1, ?_, ?_, ?_, ?_, fun _ => h1, ?_⟩
  · rw [← hW1, hrec]; exact run_enterLoop_outer _ _ _ _ _
  · simp only [resolve, hg]
    simp [go_sem]
  · intro f' hf'; simp [Target.leads] at hf'; subst hf'; exact hFg
  · simp [invoke, go_sem, eg]
  · refine (hseq (w.heap.size + 1) W1 hb1).mono ?_
    rintro e W2 ⟨⟨v, rfl⟩, hb⟩
    have hl : W2.heap[w.heap.size + 1]? = some (.loop (rec .ready none)) := (hb.block _ (Array.getElem?_eq_some_iff.1 hL1).1).trans hL1
    have hk : W2.heap[w.heap.size]? = some (.deferred (some [])) := (hb.block _ (Array.getElem?_eq_some_iff.1 hK1).1).trans hK1
    have hb2 : Below w.heap.size w W2 := hb1.trans (hb.mono hb1.size)
    have he := run_endLoop (P := P) hl (by rw [hrec]; simp)
    rw [hrec] at he
    refine ⟨none, _, he, hdone w.heap.size _ (Nat.le_refl _) (hb2.trans ⟨rfl, rfl, rfl, (grownBy_putObj' _ _ _).size, fun k hk => World.putObj_heap_other (by omega)⟩) ((World.putObj_heap_other (by omega)).trans hk)⟩
end
theorem below_put {n : Nat} {w W : World} (h : Below n w W) {D : Nat} (hD : n ≤ D) (o : Obj) : Below n w (W.putObj D o) := h.trans ⟨rfl, rfl, rfl, (grownBy_putObj' _ _ _).size, fun k hk => World.putObj_heap_other (by omega)⟩
end Go.Proofs.YtoeoeeomnbggkaaGreatDoor
namespace Go.Proofs.YtoeoeeomnbggkaaGreatDoor
open Go Go.RowKit Go.Shelf
attribute [local go_sem] Oper.semAt_some

theorem NoSet.adds {w w' : World} {v : Value} (h : NoSet w v) (ha : Adds w w') : NoSet w' v := by
  rcases h with rfl | ⟨bp, rfl, hc⟩
  · exact .inl rfl
  · exact .inr ⟨bp, rfl, ha.cellAt hc⟩
theorem all_none (v : Value) (w : World) (h : NoSet w v) :
    Calls Tryz.prog 13 #[v] w fun e w' => e = .returned (.func (.func 25) #[] #[.pointer (some ⟨w.heap.size, 0, none⟩)]) ∧ w'.cell? ⟨w.heap.size, 0, none⟩ = some (.slice none 0 0) ∧ Adds w w' := by
  have HN := Lib.hid (fun W (hA : Adds w W) => isNoneS_no v W (h.adds hA))
  clear h
  go_enter Tryz.func13, Tryz.ntmps13
  go_wp2_with (go_at_call 18; refine (HN.out _ (Gr.new w _).adds).mono ?_; rintro e w2 ⟨rfl, rfl⟩)
  go_ret
  exact ⟨rfl, by simp, (Gr.new w _).adds⟩
theorem sall_any (ao : Option Addr) (len cap : Nat) (w : World) : Calls Tryz.prog 26 #[.slice ao len cap] w fun e w' =>
    e = .returned (.func (.func 37) #[] #[.pointer (some ⟨w.heap.size, 0, none⟩)]) ∧ w.alloc (.cells #[.slice ao len cap] 60) = w' := by
  go_enter Tryz.func26, Tryz.ntmps26
  go_wp2
  go_ret
  exact ⟨rfl, rfl⟩

set_option maxRecDepth 100000 in
theorem sall1_empty (n : Nat) (l B1 : Nat) (W : World) (c1 : W.cell? ⟨B1, 0, none⟩ = some (.slice none 0 0)) :
    CallsIn Fence.wide n Tryz.prog 37 #[.func (.yield l) #[] #[], .pointer (some ⟨B1, 0, none⟩)] W fun e W' => (∃ v, e = .returned v) ∧ W = W' := by
  refine callsIn_of_wp Tryz.func37 rfl trivial ?_ rfl
  simp only [Tryz.ntmps37, List.size_toArray, List.length_cons, List.length_nil, Nat.reduceAdd, Nat.reduceSub, Array.replicate_succ, Array.replicate_zero, List.push_toArray, List.append_toArray, List.nil_append, List.cons_append]
  gi_wp2
  gi_loopw [7] (fun i wr => i = .int .i64 0 ∧ W = wr) (fun i _ => (intOf i).toNat)
  case atStart => exact ⟨rfl, rfl⟩
  case round =>
    obtain ⟨rfl, rfl⟩ := hrel
    gi_wp2
    go_end0
    exact ⟨⟨_, rfl⟩, rfl⟩

set_option maxRecDepth 100000 in
set_option maxHeartbeats 4000000 in
theorem pall1_empty (n : Nat) (hn : 4 ≤ n) (l Bw : Nat) (W : World) (c0 : W.cell? ⟨Bw, 0, none⟩ = some (.slice none 0 0)) :
    CallsIn Fence.wide n Tryz.prog 25 #[.func (.yield l) #[] #[], .pointer (some ⟨Bw, 0, none⟩)] W fun z W' => (∃ v, z = .returned v) ∧ Adds W W' := by
  refine callsIn_of_wp_marks Tryz.func25 rfl trivial ?_ rfl
  simp only [Tryz.ntmps25, List.size_toArray, List.length_cons, List.length_nil, Nat.reduceAdd, Nat.reduceSub, Array.replicate_succ, Array.replicate_zero, List.push_toArray, List.append_toArray, List.nil_append, List.cons_append]
  gi_wp2
  refine wpIn_scope_straight ?_
  apply wpIn_seq_k; intro K1 hK1
  refine wpIn_label ?_
  refine hK1 _ _ ?_
  clear hK1 K1
  obtain ⟨Wa, hWa⟩ : ∃ Wa, W.alloc (Obj.cells #[Value.func (Fn.yield l) #[] #[]] 62) = Wa := ⟨_, rfl⟩
  have HA := Lib.hid (hWa ▸ (Gr.new W _).adds : Adds W Wa)
  have ca0 : Wa.cell? ⟨Bw, 0, none⟩ = some (.slice none 0 0) := HA.out.cellAt c0
  rw [hWa]
  clear hWa
  have h1n : 1 ≤ n := by omega
  gi_wp2_with (refine ⟨trivial, ?_⟩; gi_at_call 26; refine (callsIn_wide.2 (sall_any _ _ _ _)).mono ?_; rintro e w' ⟨rfl, rfl⟩)
  obtain ⟨Wb, hWb⟩ : ∃ Wb, World.alloc Wa (.cells #[.slice none 0 0] 60) = Wb := ⟨_, rfl⟩
  have HB := Lib.hid (hWb ▸ (Gr.new Wa _).adds : Adds Wa Wb)
  have cb0 : Wb.cell? ⟨Wa.heap.size, 0, none⟩ = some (.slice none 0 0) := by rw [← hWb]; simp
  have HAB := Lib.hid (Adds.trans HA.out HB.out)
  rw [hWb]
  clear hWb
  have hz := HAB.out.size
  refine rangeFunc_0 rfl (by omega) (gf := 37) (lb := #[.pointer (some ⟨Wa.heap.size, 0, none⟩)]) rfl trivial (enters_of Tryz.func37 (by kernel_rfl) rfl) ?seq ?done
  case seq =>
    intro l' W2 hb
    refine (sall1_empty (n - 1) l' _ W2 (Adds.cellAt hb cb0)).mono ?_
    rintro z W' ⟨h1, rfl⟩
    exact ⟨h1, Below.refl _ _⟩
  case done =>
    rintro D W2 hD hb hK
    gi_wp2
    show LeavesInM _ _ _ _ _ _ _ _ _
    refine ⟨by simp, .inl ⟨_, _, rfl, run_takeDeferred hK, ?_⟩⟩
    exact ⟨_, results_none rfl _ _ _, ⟨_, rfl⟩, below_put (Adds.trans HAB.out hb) (by omega) _⟩
end Go.Proofs.YtoeoeeomnbggkaaGreatDoor
namespace Go.Proofs.YtoeoeeomnbggkaaGreatDoor
open Go Go.RowKit Go.Shelf Go.Sort Go.Maps

set_option maxRecDepth 100000 in
set_option maxHeartbeats 2000000 in
theorem has_none (v : Value) (x : Pr) (w : World) (h : NoSet w v) :
    Calls Tryz.prog 10 #[v, prV x] w fun e w' => e = .returned (.bool false) ∧ Gr w w' := by
  have hmx : Tryz.prog.follows .mixedOrders = true := by kernel_rfl
  obtain ⟨wb, hwb⟩ : ∃ wb, w.alloc (.cells (prC x).toArray 32) = wb := ⟨_, rfl⟩
  have HG := Lib.hid (show Gr w wb by rw [← hwb]; exact Gr.new _ _)
  have hh := fun (n : Nat) (os : Array Obj) => show Calls Tryz.prog 18 #[v] (grow (wb.drewN n) os) (fun e w' => e = .returned (.bool true) ∧ Gr (grow (wb.drewN n) os) w') from (isNoneS_no v _ (h.adds (HG.out.trans (Gr.grown wb n os)).adds)).mono fun _ _ ⟨h1, h2⟩ => ⟨h1, h2 ▸ Gr.refl _⟩
  clear h
  obtain ⟨⟨f, p⟩, ⟨g, q⟩⟩ := x
  go_enter Tryz.func10, Tryz.ntmps10
  go_wp2_with fail
  first | rw [hwb] | skip
  clear hwb
  go_quiet_grown ((go_at_call 18; exact Calls.grown_of (hh _ _)))
  have HW6 := Lib.hid (HG.out.trans (Gr.grown wb nq osq))
  go_simp
  go_wp2_with fail
  go_ret
  exact ⟨rfl, HW6.out⟩
end Go.Proofs.YtoeoeeomnbggkaaGreatDoor
namespace Go.Proofs.YtoeoeeomnbggkaaGreatDoor
open Go Go.RowKit Go.Shelf Go.Sort Go.Maps

set_option maxRecDepth 100000 in
set_option maxHeartbeats 2000000 in
theorem has_some (bp b : Nat) (v : Value) (L : List Pr) (x : Pr) (hx : okPr x) (w : World) (h : SetP w v bp b L) :
    Calls Tryz.prog 10 #[v, prV x] w fun e w' => e = .returned (.bool (decide (x ∈ L))) ∧ Gr w w' := by
  have hmx : Tryz.prog.follows .mixedOrders = true := by kernel_rfl
  obtain rfl := h.ptr
  obtain ⟨wb, hwb⟩ : ∃ wb, w.alloc (.cells (prC x).toArray 32) = wb := ⟨_, rfl⟩
  have HG := Lib.hid (show Gr w wb by rw [← hwb]; exact Gr.new _ _)
  have hs := h.adds HG.out.adds
  have hh := fun (n : Nat) (os : Array Obj) => show Calls Tryz.prog 18 #[.pointer (some ⟨bp, 0, none⟩)] (grow (wb.drewN n) os) (fun e w' => e = .returned (.bool false) ∧ Gr (grow (wb.drewN n) os) w') from (isNoneS_full bp b _ (hs.adds (Gr.grown wb n os).adds).c0).mono fun _ _ ⟨h1, h2⟩ => ⟨h1, h2 ▸ Gr.refl _⟩
  have hl := fun (n : Nat) (os : Array Obj) => setHolds_any b L x hx (grow (wb.drewN n) os) (hs.adds (Gr.grown wb n os).adds).set
  have d0 := grc hs.c0
  have bk : BkS 32 wb w.heap.size (prC x) := by rw [← hwb]; exact BkS.new _ _ _
  have e0 := grc (show wb.cell? ⟨w.heap.size, 0, none⟩ = some (.int .i64 x.1.1) from bk.cell 0)
  have e1 := grc (show wb.cell? ⟨w.heap.size, 1, none⟩ = some (.int .i64 x.1.2) from bk.cell 1)
  have e2 := grc (show wb.cell? ⟨w.heap.size, 2, none⟩ = some (.int .i64 x.2.1) from bk.cell 2)
  have e3 := grc (show wb.cell? ⟨w.heap.size, 3, none⟩ = some (.int .i64 x.2.2) from bk.cell 3)
  obtain ⟨m, hm⟩ : ∃ m, decide (x ∈ L) = m := ⟨_, rfl⟩
  rw [hm] at hl ⊢
  obtain ⟨⟨f, p⟩, ⟨g, q⟩⟩ := x
  clear h hs hx hm bk
  go_enter Tryz.func10, Tryz.ntmps10
  go_wp2_with fail
  first | rw [hwb] | skip
  clear hwb
  go_quiet_grown (first | (go_at_call 18; exact Calls.grown_of (hh _ _)) | (go_at_call 23; exact Calls.grown_of (hl _ _)))
  have HW6 := Lib.hid (HG.out.trans (Gr.grown wb nq osq))
  go_simp
  go_wp2_with fail
  go_ret
  exact ⟨rfl, HW6.out⟩
end Go.Proofs.YtoeoeeomnbggkaaGreatDoor
