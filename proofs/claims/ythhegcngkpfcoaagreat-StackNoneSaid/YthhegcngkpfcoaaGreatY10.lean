/- Merged: IF8, BC. -/
import Derived.Defers
import Derived.Recover
import Derived.Test.YthhegcngkpfcoaaGreatY9
import Derived.RangeFuncNested
import Derived.RangeFuncBound
import Derived.RangeFuncCalls
import Derived.RangeFuncLeaves
import Derived.Shelf.Abstract
import Derived.Shelf.RegionOpen
import Derived.WalkKit
import Derived.OwnWalkIn
import Derived.TacticsInMore
import Derived.LoopNIn
import Derived.LoopIn
import Derived.RangeFuncWrites
import Derived.Test.YthhegcngkpfcoaaGreatY0
import Derived.Scope
import Derived.ControlIn
import Derived.RangeFuncBox
import Derived.Laws.AppendOwn
namespace Go.Proofs.YthhegcngkpfcoaaGreat
open Go Go.RowKit Go.Shelf Go.Lib

set_option maxRecDepth 100000 in
theorem told8 (v : Int) (w : World) : Calls Tryz.prog 108 #[.iface 163 (.int .i64 v)] w fun e w' => e = .returned (.int .i64 v) ∧ w = w' := by
  have ht : ∀ w : World, (Instr.typeAssert (.iface 163 (.int .i64 v)) 20 163 false).run Tryz.prog w = .ok (.int .i64 v) w := fun _ => by kernel_rfl
  go_enter Tryz.func108, Tryz.ntmps108
  go_wp2
  go_ret
  exact ⟨rfl, rfl⟩
theorem iface_some (t : TypeId) (v : Value) (w : World) : (binOp .neq 20 (.iface t v) .nilIface).run Tryz.prog w = .ok (.bool true) w := by kernel_rfl
theorem iface_none (w : World) : (binOp .neq 20 .nilIface .nilIface).run Tryz.prog w = .ok (.bool false) w := by kernel_rfl
set_option maxRecDepth 100000 in
theorem catch_check (b : Nat) (x v : Int) (older : List PanicEntry) (w : World) (hB : BkS 45 w b [.int .i64 x]) :
    CallsD Tryz.prog 107 #[.pointer (some ⟨b, 0, none⟩)] (.panicking ({ v := .iface 163 (.int .i64 v), recovered := false } :: older)) w fun e u' w' =>
      e = .returned (.tuple #[]) ∧ u' = .panicking ({ v := .iface 163 (.int .i64 v), recovered := true } :: older) ∧ w' = w.setCell ⟨b, 0, none⟩ (.int .i64 v) := by
  have c0 : w.cell? ⟨b, 0, none⟩ = some (.int .i64 x) := hB.cell 0
  have f0 := hB.free 0
  have hn := iface_some 163 (.int .i64 v)
  have HT := Lib.hid (told8 v w)
  clear hB
  refine callsD_of_wpS Tryz.func107 rfl fun c₀ cs hu => ?_
  apply wpS_seq
  apply wpS_region
  simp [wpOpsS, go_sem, recoverD, hu, Tryz.ntmps107, Exit.thenS]
  refine wpS_of_wp ?_
  simp only [Array.replicate_succ, Array.replicate_zero, List.push_toArray, List.append_toArray, List.nil_append, List.cons_append, List.setIfInBounds_toArray, List.set_cons_zero, List.set_cons_succ]
  go_wp2_with (go_at_call 108; refine HT.out.mono ?_; rintro e w2 ⟨rfl, rfl⟩)
  simp [bodyPostS, results, Tryz.results107]
set_option maxRecDepth 100000 in
theorem idle_check (p : Value) (w : World) :
    CallsD Tryz.prog 107 #[p] .returning w fun e u' w' => e = .returned (.tuple #[]) ∧ u' = .returning ∧ w' = w := by
  have hn := iface_none
  refine callsD_of_wpS Tryz.func107 rfl fun c₀ cs hu => ?_
  apply wpS_seq
  apply wpS_region
  simp [wpOpsS, go_sem, recoverD, hu, Tryz.ntmps107, Exit.thenS]
  refine wpS_of_wp ?_
  simp only [Array.replicate_succ, Array.replicate_zero, List.push_toArray, List.append_toArray, List.nil_append, List.cons_append, List.setIfInBounds_toArray, List.set_cons_zero, List.set_cons_succ]
  go_wp2_with fail
  cases c₀
  simp_all [bodyPostS, results, Tryz.results107]
/-- The error of an instruction. -/
def errI (x : In) : Int := if mayI x then 0 else 2
set_option maxRecDepth 100000 in
set_option maxHeartbeats 2000000 in
theorem check8 (x : In) (hx : OkIn x) (w : World) : Calls Tryz.prog 98 #[insV x] w fun e w' => e = .returned (.int .i64 (errI x)) ∧ Adds w w' := by
  have hmf : ∀ (fn : Fn) (first cap : Array Value) (w : World), (Instr.makeFunc fn first cap).run Tryz.prog w = .ok (.func fn first cap) w := fun _ _ _ _ => rfl
  obtain ⟨w1, hw1⟩ : ∃ w1, (w.alloc (.cells (insC x).toArray 37)).alloc (.cells #[.int .i64 0] 45) = w1 := ⟨_, rfl⟩
  have HA1 := Lib.hid (show Adds w w1 by rw [← hw1]; exact ((Gr.new _ _).alloc _).adds)
  have HB1 := Lib.hid (show BkS 37 w1 w.heap.size (insC x) by rw [← hw1]; exact (BkS.new _ _ _).adds (Gr.new _ _).adds)
  have HB2 := Lib.hid (show BkS 45 w1 (w.heap.size + 1) [.int .i64 0] by rw [← hw1]; unfold BkS; exact heap_new1 _ _ _)
  have HH := Lib.hid (hold8 x hx w1)
  unfold errI
  obtain ⟨xo, xa, xb, xc, xi⟩ := x
  have i0 : w1.cell? ⟨w.heap.size, 0, none⟩ = some (.int .i64 xo) := HB1.out.cell 0
  have i1 : w1.cell? ⟨w.heap.size, 1, none⟩ = some (.int .i64 xa) := HB1.out.cell 1
  have i2 : w1.cell? ⟨w.heap.size, 2, none⟩ = some (.int .i64 xb) := HB1.out.cell 2
  have i3 : w1.cell? ⟨w.heap.size, 3, none⟩ = some (.int .i64 xc) := HB1.out.cell 3
  have i4 : w1.cell? ⟨w.heap.size, 4, none⟩ = some (.int .u32 xi) := HB1.out.cell 4
  cases hm : mayI (xo, xa, xb, xc, xi)
  · rw [hm] at HH
    have HHc := Lib.hid (show Calls Tryz.prog 109 #[insV (xo, xa, xb, xc, xi)] w1 fun e w' => e = .panicked [{ v := .iface 163 (.int .i64 2), recovered := false }] ∧ Adds w1 w' from HH.out.mono fun e w' h => by simpa [HoldPost] using h)
    clear HH hm
    go_enter_defers Tryz.func98, Tryz.ntmps98
    go_wp2_with (go_at_call 109; refine HHc.out.mono ?_; rintro e w2 ⟨rfl, q⟩; have HA2 := Lib.hid q; clear q)
    have b2 := HB2.out.adds HA2.out
    have d0 : w2.cell? ⟨w.heap.size + 1, 0, none⟩ = some (.int .i64 0) := b2.cell 0
    refine leaves_cons (f := 107) (args := #[.pointer (some ⟨w.heap.size + 1, 0, none⟩)]) (by simp) (by simp [go_sem]) ?_
    refine (catch_check (w.heap.size + 1) 0 2 [] w2 b2).mono ?_
    rintro e u' w'' ⟨rfl, rfl, rfl⟩
    have hA := Adds.set (Adds.trans HA1.out HA2.out) (b := w.heap.size + 1) (by omega) 0 (.int .i64 2)
    simp [Leaves, settle, results, Tryz.results98, go_sem, d0]
    exact hA
  · rw [hm] at HH
    have HHc := Lib.hid (show Calls Tryz.prog 109 #[insV (xo, xa, xb, xc, xi)] w1 fun e w' => e = .returned (.tuple #[]) ∧ Adds w1 w' from HH.out.mono fun e w' h => by simpa [HoldPost] using h)
    clear HH hm
    go_enter_defers Tryz.func98, Tryz.ntmps98
    go_wp2_with (go_at_call 109; refine HHc.out.mono ?_; rintro e w2 ⟨rfl, q⟩; have HA2 := Lib.hid q; have b2 := HB2.out.adds q; have d0 : w2.cell? ⟨w.heap.size + 1, 0, none⟩ = some (.int .i64 0) := b2.cell 0; have f0 := b2.free 0; clear q b2)
    refine leaves_cons (f := 107) (args := #[.pointer (some ⟨w.heap.size + 1, 0, none⟩)]) (by simp) (by simp [go_sem]) ?_
    refine (idle_check _ _).mono ?_
    rintro e u' w'' ⟨rfl, rfl, rfl⟩
    have hA := Adds.set (Adds.trans HA1.out HA2.out) (b := w.heap.size + 1) (by omega) 0 (.int .i64 0)
    simp [Leaves, settle, results, Tryz.results98, go_sem, d0]
    exact hA
end Go.Proofs.YthhegcngkpfcoaaGreat
namespace Go.Proofs.YthhegcngkpfcoaaGreat
open Go Go.RowKit Go.Shelf

/-- Whatever cells do not lie in the blocks M lie as they lay. -/
def KeepC (M : Nat → Prop) (W W' : World) : Prop := ∀ k c e f, ¬ M k → W.heap[k]? = some (.cells c e f) → W'.heap[k]? = some (.cells c e f)
theorem KeepC.refl (M : Nat → Prop) (W : World) : KeepC M W W := fun _ _ _ _ _ h => h
theorem KeepC.trans {M : Nat → Prop} {A B C : World} (h : KeepC M A B) (k : KeepC M B C) : KeepC M A C := fun i c e f hi hc => k i c e f hi (h i c e f hi hc)
theorem KeepC.cell {M : Nat → Prop} {W W' : World} (h : KeepC M W W') {b o : Nat} (hb : ¬ M b) {v : Value} (hc : W.cell? ⟨b, o, none⟩ = some v) : W'.cell? ⟨b, o, none⟩ = some v := by
  unfold World.cell? at hc ⊢
  cases ho : W.heap[b]? with
  | none => simp [ho] at hc
  | some x =>
    cases x with
    | cells c e f => rw [h b c e f hb ho]; rw [ho] at hc; exact hc
    | _ => simp [ho] at hc
theorem KeepC.of_below {M : Nat → Prop} {W W' : World} (h : Adds W W') : KeepC M W W' := fun k c e f _ hk => by
  rw [h.block k (Array.getElem?_eq_some_iff.1 hk).1]; exact hk
theorem KeepC.put {M : Nat → Prop} (W : World) (l : Nat) (o o' : Obj) (h : W.heap[l]? = some o) (hc : o.isCells = false) : KeepC M W (W.putObj l o') := fun k c e f _ hk => by
  have hne : some k ≠ some l := fun e' => by
    cases e'
    rw [h] at hk
    cases hk
    simp [Obj.isCells] at hc
  exact ((grownBy_putObj' W l o').block k (Array.getElem?_eq_some_iff.1 hk).1 hne).trans hk
theorem Adds.new (w : World) (o : Obj) : Adds w (w.alloc o) := (Below.refl _ _).alloc (Nat.le_refl _) _
theorem Adds.cellAt {w w' : World} (h : Adds w w') {b o : Nat} {v : Value} (hc : w.cell? ⟨b, o, none⟩ = some v) : w'.cell? ⟨b, o, none⟩ = some v :=
  (KeepC.of_below (M := fun _ => False) h).cell id hc
theorem KeepC.own (M : Nat → Prop) (B : Nat) (W : World) {β : Type} : OwnFrom B (fun (_ : β) W' => KeepC M W W') := fun _ A C row h hg hr k c e f hk hc => by
  have h1 := h k c e f hk hc
  have hne : some k ≠ row := fun e' => by
    obtain ⟨_, o, ho, hoc⟩ := hr k e'.symm
    rw [h1] at ho
    cases ho
    simp [Obj.isCells] at hoc
  exact (hg.block k (Array.getElem?_eq_some_iff.1 h1).1 hne).trans h1
end Go.Proofs.YthhegcngkpfcoaaGreat
namespace Go.Proofs.YthhegcngkpfcoaaGreat
open Go

section
variable {F : Fence} {n : Nat} {P : Program} {b : Frame} {a : Act} {k : List Item} {cs : List Frame} {w : World} {Q : Exit → Act → World → Prop}

theorem stepR_scope {c : Code} : step P (lone (b.atR a (.code (.scope c) :: k)) cs w) = .next (lone (b.atR a (.code c :: .inScope c :: k)) cs w) :=
  step_lone_go (by simp [stepG, stepG.exec, Frame.atR])
theorem stepR_inScope {c : Code} : step P (lone (b.atR a (.inScope c :: k)) cs w) = .next (lone (b.atR a k) cs w) :=
  step_lone_go (by simp [stepG, stepG.exec, Frame.atR])

theorem wpIn_scope_straight {c : Code} (h : c.wpIn F n P (Exit.noGoto Q) a w) : (Code.scope c).wpIn F n P Q a w := by
  intro b k cs hro hb hr
  have h0 : (lone (b.atR a (.code (.scope c) :: k)) cs w).fenced P F := fenced_calm hb hr rfl
  obtain ⟨e, a₁, w₁, hq, harr⟩ := h b (.inScope c :: k) cs hro hb hr
  cases e with
  | normal => exact ⟨.normal, a₁, w₁, hq, .head h0 stepR_scope (StepsIn.trans harr (.one (fenced_calm hb hr rfl) stepR_inScope))⟩
  | exit id =>
    have hx : exitTo id (.inScope c :: k) = exitTo id k := by simp [exitTo]
    exact ⟨.exit id, a₁, w₁, hq, fun k' hk => .head h0 stepR_scope (harr.1 k' (by rw [hx]; exact hk)),
      fun hr' hk => let ⟨k₁, h1, h2⟩ := harr.2 hr' (by rw [hx]; exact hk); ⟨k₁, h1, .head h0 stepR_scope h2⟩⟩
  | goto l => exact hq.elim
  | ret => exact ⟨_, a₁, w₁, hq, .of_steps (.one h0 stepR_scope) harr⟩
  | panic ch => exact ⟨_, a₁, w₁, hq, .of_steps (.one h0 stepR_scope) harr⟩
  | outgrown => exact ⟨_, a₁, w₁, hq, .of_steps (.one h0 stepR_scope) harr⟩
end
end Go.Proofs.YthhegcngkpfcoaaGreat
namespace Go.Proofs.YthhegcngkpfcoaaGreat
open Go Go.RowKit

section
variable {F : Fence} {n : Nat} {P : Program}

end
end Go.Proofs.YthhegcngkpfcoaaGreat
namespace Go.Proofs.YthhegcngkpfcoaaGreat
open Go Go.RowKit

/-- What speaks of blocks below B alone. -/
def Stable {β : Type} (B : Nat) (I : β → World → Prop) : Prop := ∀ s W W', I s W → Below B W W' → I s W'
theorem Stable.putObj {β : Type} {B : Nat} {I : β → World → Prop} (h : Stable B I) {s : β} {W : World} {l : Nat} {o : Obj} (o' : Obj) (hs : I s W) (hB : B ≤ l) (_hl : W.heap[l]? = some o) (_ho : o.isCells = false) : I s (W.putObj l o') :=
  h s W _ hs ⟨rfl, rfl, rfl, (grownBy_putObj' W l o').size, fun k hk => World.putObj_heap_other (by omega)⟩
theorem Stable.alloc {β : Type} {B : Nat} {I : β → World → Prop} (h : Stable B I) {s : β} {W : World} (hB : B ≤ W.heap.size) (o : Obj) (hs : I s W) : I s (W.alloc o) := h s W _ hs ((Below.refl _ _).alloc hB _)
theorem Stable.own {β : Type} {B : Nat} {I : β → World → Prop} (h : Stable B I) : OwnFrom B (fun s W => I s W ∧ B ≤ W.heap.size) := fun s W W' row hs hg hr =>
  ⟨h s W W' hs.1 ⟨hg.os, hg.tape, hg.output, hg.size, fun k hk => hg.block k (Nat.lt_of_lt_of_le hk hs.2) (fun e => by have := (hr k e.symm).1; omega)⟩, Nat.le_trans hs.2 hg.size⟩
def SeqS {α : Type} (F : Fence) (n : Nat) (P : Program) (g : Nat) (lb : Array Value) (encs : α → Array Value) (Kp : World → World → Prop) (S Sp : List α → Prop) (G : List α → α → Prop) (w : World) : Prop :=
  ∀ (l : Nat) (J Jx : List α → World → Prop) (W : World), Below w.heap.size w W → Stable W.heap.size J → Stable W.heap.size Jx →
    (∀ pre x W1, J pre W1 → G pre x → YieldAt F (n - 1) P l (encs x) W1 fun e W' =>
      (e = .returned (.bool true) ∧ J (pre ++ [x]) W' ∧ Kp W1 W' ∧ KeepsFrom W.heap.size W1 W') ∨ (e = .returned (.bool false) ∧ Jx (pre ++ [x]) W' ∧ KeepsFrom W.heap.size W1 W')) →
    J [] W →
    CallsIn F n P g (#[.func (.yield l) #[] #[]] ++ lb) W fun e W' => (∃ v, e = .returned v) ∧ ((∃ xs, S xs ∧ J xs W') ∨ (∃ pre, Sp pre ∧ Jx pre W'))

section
variable {F : Fence} {n : Nat} {P : Program}

end
end Go.Proofs.YthhegcngkpfcoaaGreat
namespace Go.Proofs.YthhegcngkpfcoaaGreat
open Go Go.RowKit

theorem results_box {P : Program} {fn : Func} {p : Tmp} {ty : TypeId} (h : fn.results = #[.cell p ty]) (hb : P.underlying ty = some .bool) (tmps : Array Value) (w : World) (a : Addr) (v : Value)
    (hp : tmps.getD p undef = .pointer (some a)) (hc : w.cell? a = some v) : (results fn tmps).run P w = .ok v w := by
  have hp' : tmps[p]?.getD undef = .pointer (some a) := by simpa using hp
  simp [results, h, hp', asAddr, loadVar, isAgg, run_underlying hb, hc]
/-- The three boxes that a law lays first. -/
structure Boxes3 (w w0 : World) (tv tm tr : TypeId) (v m r : Value) : Prop where
  v : Boxed w0 w.heap.size tv v
  m : Boxed w0 (w.heap.size + 1) tm m
  r : Boxed w0 (w.heap.size + 1 + 1) tr r
theorem Boxes3.new (w : World) (tv tm tr : TypeId) (v m r : Value) : Boxes3 w (((w.alloc (.cells #[v] tv)).alloc (.cells #[m] tm)).alloc (.cells #[r] tr)) tv tm tr v m r := by
  refine ⟨((Boxed.new w tv v).alloc _).alloc _, ?_, ?_⟩
  · have := (Boxed.new (w.alloc (.cells #[v] tv)) tm m).alloc (.cells #[r] tr)
    rwa [World.size_alloc] at this
  · have := Boxed.new ((w.alloc (.cells #[v] tv)).alloc (.cells #[m] tm)) tr r
    rwa [World.size_alloc, World.size_alloc] at this

/-- The marks of ranges that are over: each one's block, laid from B on and below C; no two alike. -/
def Marks (B C : Nat) (W : World) : List Deferred → Prop
  | [] => True
  | d :: ds => (∃ D, d.target = .collected D ∧ B ≤ D ∧ D < C ∧ W.heap[D]? = some (.deferred (some [])) ∧ Marks B D W ds)
theorem Marks.below {B : Nat} : ∀ {ds : List Deferred} {C n : Nat} {W W' : World}, Marks B C W ds → Below n W W' → C ≤ n → Marks B C W' ds
  | [], _, _, _, _, _, _, _ => trivial
  | _ :: _, _, _, _, _, ⟨D, h1, h2, h3, h4, h5⟩, hb, hc => ⟨D, h1, h2, h3, (hb.block D (by omega)).trans h4, h5.below hb (by omega)⟩
theorem Marks.up {B C C' : Nat} {W : World} {ds : List Deferred} (h : Marks B C W ds) (hc : C ≤ C') : Marks B C' W ds := by
  cases ds with
  | nil => trivial
  | cons d ds =>
    obtain ⟨D, h1, h2, h3, h4⟩ := h
    exact ⟨D, h1, h2, by omega, h4⟩
theorem marks_leave {F : Fence} {n : Nat} {P : Program} {fn : Func} {tmps : Array Value} {R : Ending → World → Prop} {B : Nat} : ∀ (ds : List Deferred) (C : Nat) (W : World), Marks B C W ds →
    (∀ W', Below B W W' → ∃ v, (results fn tmps).run P W' = .ok v W' ∧ R (.returned v) W') → LeavesInM F n P fn tmps R ds .returning W
  | [], _, W, _, h => by
    obtain ⟨v, h1, h2⟩ := h W (Below.refl _ _)
    exact ⟨v, h1, h2⟩
  | d :: ds, C, W, ⟨D, h1, h2, h3, h4, h5⟩, h => by
    have hb : Below D W (W.putObj D (.deferred none)) := ⟨rfl, rfl, rfl, (grownBy_putObj' W D _).size, fun k hk => World.putObj_heap_other (by omega)⟩
    refine ⟨by simp, .inl ⟨D, _, h1, run_takeDeferred h4, marks_leave ds D _ (h5.below hb (Nat.le_refl _)) fun W' hW' => h W' ((hb.mono h2).trans hW')⟩⟩
end Go.Proofs.YthhegcngkpfcoaaGreat
namespace Go.Proofs.YthhegcngkpfcoaaGreat
open Go Go.RowKit Go.Shelf

end Go.Proofs.YthhegcngkpfcoaaGreat
