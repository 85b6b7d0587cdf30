/- Merged: BC, GMem, GRow2, ZRow, APlain. -/
import Derived.RangeFuncNested
import Derived.RangeFuncBound
import Derived.RangeFuncCalls
import Derived.RangeFuncLeaves
import Derived.Shelf.Abstract
import Derived.Shelf.RegionOpen
import Derived.WalkKit
import Derived.OwnWalkIn
import Derived.TacticsInMore
import Derived.LoopNIn
import Derived.LoopIn
import Derived.RangeFuncWrites
import Derived.Test.YtdkgehhlikaocaaGreatY0
import Derived.Scope
import Derived.ControlIn
import Derived.RangeFuncBox
import Derived.Laws.AppendOwn
import Derived.Test.YtdkgehhlikaocaaGreatY5
import Derived.Test.YtdkgehhlikaocaaGreatRows
import Derived.ProofKit
import Derived.OpenShut
import Derived.Deep.DeepHandedRow
import Derived.Deep.Slices
import Derived.Lib.LaidTab
import Derived.SizedLaws
namespace Go.Proofs.YtdkgehhlikaocaaGreat
open Go Go.RowKit Go.Shelf

/-- Whatever cells do not lie in the blocks M lie as they lay. -/
def KeepC (M : Nat → Prop) (W W' : World) : Prop := ∀ k c e f, ¬ M k → W.heap[k]? = some (.cells c e f) → W'.heap[k]? = some (.cells c e f)
theorem KeepC.refl (M : Nat → Prop) (W : World) : KeepC M W W := fun _ _ _ _ _ h => h
theorem KeepC.trans {M : Nat → Prop} {A B C : World} (h : KeepC M A B) (k : KeepC M B C) : KeepC M A C := fun i c e f hi hc => k i c e f hi (h i c e f hi hc)
theorem KeepC.cell {M : Nat → Prop} {W W' : World} (h : KeepC M W W') {b o : Nat} (hb : ¬ M b) {v : Value} (hc : W.cell? ⟨b, o, none⟩ = some v) : W'.cell? ⟨b, o, none⟩ = some v := by
  unfold World.cell? at hc ⊢
  cases ho : W.heap[b]? with
  | none => simp [ho] at hc
  | some x =>
    cases x with
    | cells c e f => rw [h b c e f hb ho]; rw [ho] at hc; exact hc
    | _ => simp [ho] at hc
theorem KeepC.of_below {M : Nat → Prop} {W W' : World} (h : Adds W W') : KeepC M W W' := fun k c e f _ hk => by
  rw [h.block k (Array.getElem?_eq_some_iff.1 hk).1]; exact hk
theorem KeepC.put {M : Nat → Prop} (W : World) (l : Nat) (o o' : Obj) (h : W.heap[l]? = some o) (hc : o.isCells = false) : KeepC M W (W.putObj l o') := fun k c e f _ hk => by
  have hne : some k ≠ some l := fun e' => by
    cases e'
    rw [h] at hk
    cases hk
    simp [Obj.isCells] at hc
  exact ((grownBy_putObj' W l o').block k (Array.getElem?_eq_some_iff.1 hk).1 hne).trans hk
theorem Adds.new (w : World) (o : Obj) : Adds w (w.alloc o) := (Below.refl _ _).alloc (Nat.le_refl _) _
theorem Adds.cellAt {w w' : World} (h : Adds w w') {b o : Nat} {v : Value} (hc : w.cell? ⟨b, o, none⟩ = some v) : w'.cell? ⟨b, o, none⟩ = some v :=
  (KeepC.of_below (M := fun _ => False) h).cell id hc
theorem KeepC.own (M : Nat → Prop) (B : Nat) (W : World) {β : Type} : OwnFrom B (fun (_ : β) W' => KeepC M W W') := fun _ A C row h hg hr k c e f hk hc => by
  have h1 := h k c e f hk hc
  have hne : some k ≠ row := fun e' => by
    obtain ⟨_, o, ho, hoc⟩ := hr k e'.symm
    rw [h1] at ho
    cases ho
    simp [Obj.isCells] at hoc
  exact (hg.block k (Array.getElem?_eq_some_iff.1 h1).1 hne).trans h1
end Go.Proofs.YtdkgehhlikaocaaGreat
namespace Go.Proofs.YtdkgehhlikaocaaGreat
open Go

section
variable {F : Fence} {n : Nat} {P : Program} {b : Frame} {a : Act} {k : List Item} {cs : List Frame} {w : World} {Q : Exit → Act → World → Prop}

end
end Go.Proofs.YtdkgehhlikaocaaGreat
namespace Go.Proofs.YtdkgehhlikaocaaGreat
open Go Go.RowKit

section
variable {F : Fence} {n : Nat} {P : Program}

end
end Go.Proofs.YtdkgehhlikaocaaGreat
namespace Go.Proofs.YtdkgehhlikaocaaGreat
open Go Go.RowKit

/-- What speaks of blocks below B alone. -/
def Stable {β : Type} (B : Nat) (I : β → World → Prop) : Prop := ∀ s W W', I s W → Below B W W' → I s W'
theorem Stable.putObj {β : Type} {B : Nat} {I : β → World → Prop} (h : Stable B I) {s : β} {W : World} {l : Nat} {o : Obj} (o' : Obj) (hs : I s W) (hB : B ≤ l) (_hl : W.heap[l]? = some o) (_ho : o.isCells = false) : I s (W.putObj l o') :=
  h s W _ hs ⟨rfl, rfl, rfl, (grownBy_putObj' W l o').size, fun k hk => World.putObj_heap_other (by omega)⟩
theorem Stable.alloc {β : Type} {B : Nat} {I : β → World → Prop} (h : Stable B I) {s : β} {W : World} (hB : B ≤ W.heap.size) (o : Obj) (hs : I s W) : I s (W.alloc o) := h s W _ hs ((Below.refl _ _).alloc hB _)
theorem Stable.own {β : Type} {B : Nat} {I : β → World → Prop} (h : Stable B I) : OwnFrom B (fun s W => I s W ∧ B ≤ W.heap.size) := fun s W W' row hs hg hr =>
  ⟨h s W W' hs.1 ⟨hg.os, hg.tape, hg.output, hg.size, fun k hk => hg.block k (Nat.lt_of_lt_of_le hk hs.2) (fun e => by have := (hr k e.symm).1; omega)⟩, Nat.le_trans hs.2 hg.size⟩
def SeqS {α : Type} (F : Fence) (n : Nat) (P : Program) (g : Nat) (lb : Array Value) (encs : α → Array Value) (Kp : World → World → Prop) (S Sp : List α → Prop) (G : List α → α → Prop) (w : World) : Prop :=
  ∀ (l : Nat) (J Jx : List α → World → Prop) (W : World), Below w.heap.size w W → Stable W.heap.size J → Stable W.heap.size Jx →
    (∀ pre x W1, J pre W1 → G pre x → YieldAt F (n - 1) P l (encs x) W1 fun e W' =>
      (e = .returned (.bool true) ∧ J (pre ++ [x]) W' ∧ Kp W1 W' ∧ KeepsFrom W.heap.size W1 W') ∨ (e = .returned (.bool false) ∧ Jx (pre ++ [x]) W' ∧ KeepsFrom W.heap.size W1 W')) →
    J [] W →
    CallsIn F n P g (#[.func (.yield l) #[] #[]] ++ lb) W fun e W' => (∃ v, e = .returned v) ∧ ((∃ xs, S xs ∧ J xs W') ∨ (∃ pre, Sp pre ∧ Jx pre W'))

section
variable {F : Fence} {n : Nat} {P : Program}

end
end Go.Proofs.YtdkgehhlikaocaaGreat
namespace Go.Proofs.YtdkgehhlikaocaaGreat
open Go Go.RowKit

/-- The three boxes that a law lays first. -/
structure Boxes3 (w w0 : World) (tv tm tr : TypeId) (v m r : Value) : Prop where
  v : Boxed w0 w.heap.size tv v
  m : Boxed w0 (w.heap.size + 1) tm m
  r : Boxed w0 (w.heap.size + 1 + 1) tr r
theorem Boxes3.new (w : World) (tv tm tr : TypeId) (v m r : Value) : Boxes3 w (((w.alloc (.cells #[v] tv)).alloc (.cells #[m] tm)).alloc (.cells #[r] tr)) tv tm tr v m r := by
  refine ⟨((Boxed.new w tv v).alloc _).alloc _, ?_, ?_⟩
  · have := (Boxed.new (w.alloc (.cells #[v] tv)) tm m).alloc (.cells #[r] tr)
    rwa [World.size_alloc] at this
  · have := Boxed.new ((w.alloc (.cells #[v] tv)).alloc (.cells #[m] tm)) tr r
    rwa [World.size_alloc, World.size_alloc] at this

/-- The marks of ranges that are over: each one's block, laid from B on and below C; no two alike. -/
def Marks (B C : Nat) (W : World) : List Deferred → Prop
  | [] => True
  | d :: ds => (∃ D, d.target = .collected D ∧ B ≤ D ∧ D < C ∧ W.heap[D]? = some (.deferred (some [])) ∧ Marks B D W ds)
theorem Marks.below {B : Nat} : ∀ {ds : List Deferred} {C n : Nat} {W W' : World}, Marks B C W ds → Below n W W' → C ≤ n → Marks B C W' ds
  | [], _, _, _, _, _, _, _ => trivial
  | _ :: _, _, _, _, _, ⟨D, h1, h2, h3, h4, h5⟩, hb, hc => ⟨D, h1, h2, h3, (hb.block D (by omega)).trans h4, h5.below hb (by omega)⟩
theorem Marks.up {B C C' : Nat} {W : World} {ds : List Deferred} (h : Marks B C W ds) (hc : C ≤ C') : Marks B C' W ds := by
  cases ds with
  | nil => trivial
  | cons d ds =>
    obtain ⟨D, h1, h2, h3, h4⟩ := h
    exact ⟨D, h1, h2, by omega, h4⟩
theorem marks_leave {F : Fence} {n : Nat} {P : Program} {fn : Func} {tmps : Array Value} {R : Ending → World → Prop} {B : Nat} : ∀ (ds : List Deferred) (C : Nat) (W : World), Marks B C W ds →
    (∀ W', Below B W W' → ∃ v, (results fn tmps).run P W' = .ok v W' ∧ R (.returned v) W') → LeavesInM F n P fn tmps R ds .returning W
  | [], _, W, _, h => by
    obtain ⟨v, h1, h2⟩ := h W (Below.refl _ _)
    exact ⟨v, h1, h2⟩
  | d :: ds, C, W, ⟨D, h1, h2, h3, h4, h5⟩, h => by
    have hb : Below D W (W.putObj D (.deferred none)) := ⟨rfl, rfl, rfl, (grownBy_putObj' W D _).size, fun k hk => World.putObj_heap_other (by omega)⟩
    refine ⟨by simp, .inl ⟨D, _, h1, run_takeDeferred h4, marks_leave ds D _ (h5.below hb (Nat.le_refl _)) fun W' hW' => h W' ((hb.mono h2).trans hW')⟩⟩
end Go.Proofs.YtdkgehhlikaocaaGreat
namespace Go.Proofs.YtdkgehhlikaocaaGreat
open Go Go.RowKit Go.Shelf

end Go.Proofs.YtdkgehhlikaocaaGreat
namespace Go.Proofs.YtdkgehhlikaocaaGreat
open Go Go.RowKit Go.Shelf

/-- A function: its registers and its code. A program: functions, mutexes, locks, groups. -/
abbrev Fu := Int × List In
abbrev Pg := List Fu × Int × Int × Int
abbrev zI : In := (0, 0, 0, 0, 0)
abbrev zF : Fu := (0, [])
def At5 (w : World) (g o : Nat) (x : In) : Prop :=
  w.cell? ⟨g, o, none⟩ = some (.int .i64 x.1) ∧ w.cell? ⟨g, o + 1, none⟩ = some (.int .i64 x.2.1) ∧ w.cell? ⟨g, o + 2, none⟩ = some (.int .i64 x.2.2.1) ∧ w.cell? ⟨g, o + 3, none⟩ = some (.int .i64 x.2.2.2.1) ∧ w.cell? ⟨g, o + 4, none⟩ = some (.int .u32 x.2.2.2.2)
def CodeW (n : Nat) (w : World) (v : Value) (c : List In) : Prop :=
  ∃ ao cap, v = .slice ao c.length cap ∧ c.length ≤ cap ∧ cap ≤ maxLen ∧ (c ≠ [] → ∃ g off, ao = some ⟨g, off, none⟩ ∧ g < n ∧ ∀ i, i < c.length → At5 w g (off + i * 5) (c.getD i zI))
def FuncAt (n : Nat) (w : World) (g o : Nat) (f : Fu) : Prop :=
  w.cell? ⟨g, o, none⟩ = some (.int .i64 f.1) ∧ ∃ u, w.cell? ⟨g, o + 1, none⟩ = some u ∧ CodeW n w u f.2 ∧ (∀ x ∈ f.2, OkIn x)
def FuncsW (n : Nat) (w : World) (v : Value) (fs : List Fu) : Prop :=
  ∃ ao cap, v = .slice ao fs.length cap ∧ fs.length ≤ cap ∧ cap ≤ maxLen ∧ (fs ≠ [] → ∃ g off, ao = some ⟨g, off, none⟩ ∧ g < n ∧ ∀ i, i < fs.length → FuncAt n w g (off + i * 2) (fs.getD i zF))
abbrev pgV (v : Value) (p : Pg) : Value := .agg #[v, .int .i64 p.2.1, .int .i64 p.2.2.1, .int .i64 p.2.2.2]
theorem At5.below {n g o : Nat} {w w' : World} {x : In} (h : At5 w g o x) (hb : Below n w w') (hg : g < n) : At5 w' g o x := by
  obtain ⟨h0, h1, h2, h3, h4⟩ := h
  exact ⟨(hb.cell (p := ⟨g, o, none⟩) hg).trans h0, (hb.cell (p := ⟨g, o + 1, none⟩) hg).trans h1, (hb.cell (p := ⟨g, o + 2, none⟩) hg).trans h2, (hb.cell (p := ⟨g, o + 3, none⟩) hg).trans h3, (hb.cell (p := ⟨g, o + 4, none⟩) hg).trans h4⟩
theorem CodeW.below {n : Nat} {w w' : World} {v : Value} {c : List In} (h : CodeW n w v c) (hb : Below n w w') : CodeW n w' v c := by
  obtain ⟨ao, cap, rfl, h1, h2, h3⟩ := h
  exact ⟨ao, cap, rfl, h1, h2, fun hl => by obtain ⟨g, off, e, hg, hc⟩ := h3 hl; exact ⟨g, off, e, hg, fun i hi => (hc i hi).below hb hg⟩⟩
theorem FuncAt.below {n g o : Nat} {w w' : World} {f : Fu} (h : FuncAt n w g o f) (hb : Below n w w') (hg : g < n) : FuncAt n w' g o f := by
  obtain ⟨h0, u, h1, h2, h3⟩ := h
  exact ⟨(hb.cell (p := ⟨g, o, none⟩) hg).trans h0, u, (hb.cell (p := ⟨g, o + 1, none⟩) hg).trans h1, h2.below hb, h3⟩
theorem FuncsW.below {n : Nat} {w w' : World} {v : Value} {fs : List Fu} (h : FuncsW n w v fs) (hb : Below n w w') : FuncsW n w' v fs := by
  obtain ⟨ao, cap, rfl, h1, h2, h3⟩ := h
  exact ⟨ao, cap, rfl, h1, h2, fun hl => by obtain ⟨g, off, e, hg, hc⟩ := h3 hl; exact ⟨g, off, e, hg, fun i hi => (hc i hi).below hb hg⟩⟩
theorem CodeW.up {n m : Nat} {w : World} {v : Value} {c : List In} (h : CodeW n w v c) (hm : n ≤ m) : CodeW m w v c := by
  obtain ⟨ao, cap, rfl, h1, h2, h3⟩ := h
  exact ⟨ao, cap, rfl, h1, h2, fun hl => by obtain ⟨g, off, e, hg, hc⟩ := h3 hl; exact ⟨g, off, e, Nat.lt_of_lt_of_le hg hm, hc⟩⟩
theorem FuncsW.up {n m : Nat} {w : World} {v : Value} {fs : List Fu} (h : FuncsW n w v fs) (hm : n ≤ m) : FuncsW m w v fs := by
  obtain ⟨ao, cap, rfl, h1, h2, h3⟩ := h
  exact ⟨ao, cap, rfl, h1, h2, fun hl => by obtain ⟨g, off, e, hg, hc⟩ := h3 hl; exact ⟨g, off, e, Nat.lt_of_lt_of_le hg hm, fun i hi => by obtain ⟨k0, u, k1, k2, k3⟩ := hc i hi; exact ⟨k0, u, k1, k2.up hm, k3⟩⟩⟩
/-- What lies in a world lies below its size. -/
theorem CodeW.here {n : Nat} {w : World} {v : Value} {c : List In} (h : CodeW n w v c) : CodeW w.heap.size w v c := by
  obtain ⟨ao, cap, rfl, h1, h2, h3⟩ := h
  refine ⟨ao, cap, rfl, h1, h2, fun hl => ?_⟩
  obtain ⟨g, off, e, hg, hc⟩ := h3 hl
  exact ⟨g, off, e, World.block_lt_of_cell? w _ (hc 0 (List.length_pos_iff.2 hl)).1, hc⟩
theorem FuncsW.here {n : Nat} {w : World} {v : Value} {fs : List Fu} (h : FuncsW n w v fs) : FuncsW w.heap.size w v fs := by
  obtain ⟨ao, cap, rfl, h1, h2, h3⟩ := h
  refine ⟨ao, cap, rfl, h1, h2, fun hl => ?_⟩
  obtain ⟨g, off, e, hg, hc⟩ := h3 hl
  exact ⟨g, off, e, World.block_lt_of_cell? w _ (hc 0 (List.length_pos_iff.2 hl)).1, fun i hi => by obtain ⟨k0, u, k1, k2, k3⟩ := hc i hi; exact ⟨k0, u, k1, k2.here, k3⟩⟩
theorem CodeW.adds {n : Nat} {w w' : World} {v : Value} {c : List In} (h : CodeW n w v c) (ha : Adds w w') : CodeW w.heap.size w' v c := h.here.below ha
theorem FuncsW.adds {n : Nat} {w w' : World} {v : Value} {fs : List Fu} (h : FuncsW n w v fs) (ha : Adds w w') : FuncsW w.heap.size w' v fs := h.here.below ha
/-- A function of a program's, where there is one. -/
theorem FuncsW.at {n : Nat} {w : World} {ao : Option Addr} {cap : Nat} {fs : List Fu} (h : FuncsW n w (.slice ao fs.length cap) fs) {i : Nat} (hi : i < fs.length) : ∃ g off, ao = some ⟨g, off, none⟩ ∧ g < n ∧ FuncAt n w g (off + i * 2) (fs.getD i zF) := by
  obtain ⟨ao', cap', e, _, _, h3⟩ := h
  simp only [Value.slice.injEq, true_and] at e
  obtain ⟨rfl, rfl⟩ := e
  obtain ⟨g, off, e, hg, hc⟩ := h3 (by rintro rfl; simp at hi)
  exact ⟨g, off, e, hg, hc i hi⟩
theorem CodeW.at {n : Nat} {w : World} {ao : Option Addr} {cap : Nat} {c : List In} (h : CodeW n w (.slice ao c.length cap) c) {i : Nat} (hi : i < c.length) : ∃ g off, ao = some ⟨g, off, none⟩ ∧ g < n ∧ At5 w g (off + i * 5) (c.getD i zI) := by
  obtain ⟨ao', cap', e, _, _, h3⟩ := h
  simp only [Value.slice.injEq, true_and] at e
  obtain ⟨rfl, rfl⟩ := e
  obtain ⟨g, off, e, hg, hc⟩ := h3 (by rintro rfl; simp at hi)
  exact ⟨g, off, e, hg, hc i hi⟩
theorem CodeW.form {n : Nat} {w : World} {v : Value} {c : List In} (h : CodeW n w v c) : ∃ ao cap, v = .slice ao c.length cap ∧ c.length ≤ cap ∧ cap ≤ maxLen := by
  obtain ⟨ao, cap, e, h1, h2, _⟩ := h
  exact ⟨ao, cap, e, h1, h2⟩
end Go.Proofs.YtdkgehhlikaocaaGreat
namespace Go.Proofs.YtdkgehhlikaocaaGreat
open Go Go.ChangeShapes Go.WideShapes Go.ChangeAt Go.RowKit

/-- What was read is of a size that a machine bears. -/
def Wok {H : Type} (t : TypeId) (d : DataW H) : Prop := ∀ n ∈ d.weights Tryz.prog t, n ≤ reachBytes
theorem bI40 : Tryz.prog.bytesOf 56 = 40 := by kernel_rfl
theorem weights_all {H : Type} {P : Program} {e : TypeId} {d : DataW H} {l : List (DataW H)} (h : d ∈ l) {n : Nat} (hn : n ∈ d.weights P e) : n ∈ DataW.weightsAll P e l := by
  induction l with
  | nil => cases h
  | cons x r ih =>
    rw [DataW.weightsAll]
    rcases List.mem_cons.1 h with rfl | h
    · exact List.mem_append_left _ hn
    · exact List.mem_append_right _ (ih h)
theorem Wok.code {H : Type} {len : Nat} {D : Nat → DataW H} {sp : List (DataW H)} (h : Wok 44 (.slice ((List.range len).map D) sp)) : len ≤ 4398046511104 := by
  have h1 := h ((((List.range len).map D).length + sp.length) * Tryz.prog.bytesOf 56) (by rw [DataW.weights, Tryz.underlying44]; exact List.mem_cons_self ..)
  rw [bI40, List.length_map, List.length_range] at h1
  unfold reachBytes at h1
  omega
theorem Wok.func {H : Type} {len : Nat} {D : Nat → DataW H} {sp : List (DataW H)} (h : Wok 22 (.slice ((List.range len).map D) sp)) {k : Nat} (hk : k < len) : Wok 46 (D k) := fun n hn => h n (by
  rw [DataW.weights, Tryz.underlying22]
  exact List.mem_cons_of_mem _ (List.mem_append_left _ (weights_all (List.mem_map_of_mem (f := D) (List.mem_range.2 hk)) hn)))
theorem Wok.part {H : Type} {d0 d1 : DataW H} (h : Wok 46 (.agg [d0, d1])) : Wok 44 d1 := fun n hn => h n (by
  rw [DataW.weights, Tryz.underlying46]
  simp only [List.map_cons, List.map_nil, DataW.weightsEach]
  simp [hn])
theorem Wok.funcs {H : Type} {d0 d1 d2 d3 : DataW H} (h : Wok 24 (.agg [d0, d1, d2, d3])) : Wok 22 d0 := fun n hn => h n (by
  rw [DataW.weights, Tryz.underlying24]
  simp only [List.map_cons, List.map_nil, DataW.weightsEach]
  simp [hn])
theorem laidOutP9 : laidOutB Tryz.prog = true := by kernel_rfl
theorem pick_list {α : Type} (z : α) (n : Nat) (P : Nat → α → Prop) (h : ∀ i, i < n → ∃ e, P i e) : ∃ l : List α, l.length = n ∧ ∀ i, i < n → P i (l.getD i z) := by
  classical
  let F : Nat → α := fun i => if h' : i < n then (h i h').choose else z
  refine ⟨(List.range n).map F, by simp, fun i hi => ?_⟩
  have e : ((List.range n).map F).getD i z = (h i hi).choose := by simp [List.getD_eq_getElem?_getD, hi, F]
  rw [e]
  exact (h i hi).choose_spec

section
variable {H : Type} {enc : TypeId × Value → H}
theorem cI5 : Tryz.prog.cellsOf 56 = 5 := by kernel_rfl
theorem cF2 : Tryz.prog.cellsOf 46 = 2 := by kernel_rfl
theorem cP4 : Tryz.prog.cellsOf 24 = 4 := by kernel_rfl
theorem cN1 : Tryz.prog.cellsOf 3 = 1 := by kernel_rfl
theorem cO1 : Tryz.prog.cellsOf 54 = 1 := by kernel_rfl
theorem cW1 : Tryz.prog.cellsOf 30 = 1 := by kernel_rfl
theorem cLI1 : Tryz.prog.cellsOf 44 = 1 := by kernel_rfl
theorem cLF1 : Tryz.prog.cellsOf 22 = 1 := by kernel_rfl
theorem wf_u32p {n : Int} (h : (Lit.int .u32 n).wf = true) : 0 ≤ n ∧ n < 4294967296 := by
  have h1 : IntKind.u32.min = 0 := by decide
  have h2 : IntKind.u32.max = 4294967295 := by decide
  simp [Lit.wf, h1, h2] at h
  omega
set_option maxRecDepth 100000 in
/-- A code that comes in. -/
theorem code_in {fuel : Nat} {W : World} {v : Value} {x : DataW H × List MemPlace} (hf : DataW.trod enc Tryz.prog W 0 (fun _ => true) true fuel 44 [v] = some x) : ∃ c, CodeW W.heap.size W v c ∧ (∀ x ∈ c, OkIn x) ∧ (Wok 44 x.1 → c.length ≤ 4398046511104) := by
  rcases Deep.open_slice Tryz.underlying44 hf with ⟨hcs, _⟩ | ⟨a, len, cap, m, n, D, Pl, hcs, _, hl, hm, hmm, rfl, hel⟩
  · simp only [List.cons.injEq, and_true] at hcs
    subst hcs
    exact ⟨[], ⟨none, 0, rfl, by simp, by simp, fun h => absurd rfl h⟩, fun x hx => by simp at hx, fun _ => Nat.zero_le _⟩
  · simp only [List.cons.injEq, and_true] at hcs
    subst hcs
    simp only [if_true] at hmm
    subst hmm
    have hsp : 0 < len → a.spot = none := by
      intro h0
      obtain ⟨cs, hcs, _⟩ := hel 0 (by omega)
      rw [cI5] at hcs
      obtain ⟨_, hlen, hcell⟩ := World.cells?_some hcs
      have k0 := hcell 0 (by decide)
      rw [List.getElem?_eq_getElem (by omega)] at k0
      simpa [Addr.add] using World.cell?_spot k0
    have key : ∀ i, i < len → ∃ g off, a = ⟨g, off, none⟩ ∧ g < W.heap.size ∧ ∃ e, At5 W g (off + i * 5) e ∧ OkIn e := by
      intro i hi
      obtain ⟨cs, hcs, hx⟩ := hel i (by omega)
      rw [cI5] at hcs
      obtain ⟨_, hlen, hcell⟩ := World.cells?_some hcs
      obtain ⟨xs, n', rfl, _, _, hxl, hfld⟩ := DataW.trod_struct Tryz.underlying56 hx
      have f0 := hfld 0 _ rfl
      have f1 := hfld 1 _ rfl
      have f2 := hfld 2 _ rfl
      have f3 := hfld 3 _ rfl
      have f4 := hfld 4 _ rfl
      obtain ⟨z0, z1, z2, z3, z4, rfl⟩ : ∃ z0 z1 z2 z3 z4, cs = [z0, z1, z2, z3, z4] := by
        match cs, hlen with
        | [z0, z1, z2, z3, z4], _ => exact ⟨z0, z1, z2, z3, z4, rfl⟩
      obtain ⟨x0, x1, x2, x3, x4, rfl⟩ : ∃ x0 x1 x2 x3 x4, xs = [x0, x1, x2, x3, x4] := by
        match xs, hxl with
        | [x0, x1, x2, x3, x4], _ => exact ⟨x0, x1, x2, x3, x4, rfl⟩
      simp [cN1, cO1, cW1] at f0 f1 f2 f3 f4
      obtain ⟨v0, e0, _, w0⟩ := DataW.trod_int Tryz.underlying54 f0
      obtain ⟨v1, e1, _, _⟩ := DataW.trod_int Tryz.underlying3 f1
      obtain ⟨v2, e2, _, _⟩ := DataW.trod_int Tryz.underlying3 f2
      obtain ⟨v3, e3, _, _⟩ := DataW.trod_int Tryz.underlying3 f3
      obtain ⟨v4, e4, _, w4⟩ := DataW.trod_int Tryz.underlying30 f4
      simp only [List.cons.injEq, and_true] at e0 e1 e2 e3 e4
      subst e0 e1 e2 e3 e4
      have k0 := hcell 0 (by decide)
      have k1 := hcell 1 (by decide)
      have k2 := hcell 2 (by decide)
      have k3 := hcell 3 (by decide)
      have k4 := hcell 4 (by decide)
      simp only [List.getElem?_cons_zero, List.getElem?_cons_succ] at k0 k1 k2 k3 k4
      obtain ⟨g, off, spot⟩ := a
      have hspot : spot = none := hsp (by omega)
      subst hspot
      have hp : ∀ q, (⟨g, off, none⟩ : Addr).add q = ⟨g, off + q, none⟩ := fun q => by unfold Addr.add; split <;> simp_all
      have hp2 : ∀ q r, (⟨g, off + q, none⟩ : Addr).add r = ⟨g, off + q + r, none⟩ := fun q r => by unfold Addr.add; split <;> simp_all
      rw [hp, hp2] at k0 k1 k2 k3 k4
      exact ⟨g, off, rfl, World.block_lt_of_cell? W _ k0, (v0, v1, v2, v3, v4), ⟨k0, k1, k2, k3, k4⟩, w0, wf_u32p w4⟩
    by_cases h0 : len = 0
    · subst h0
      exact ⟨[], ⟨some a, m, rfl, by simp, hm, fun h => absurd rfl h⟩, fun x hx => by simp at hx, fun _ => Nat.zero_le _⟩
    · obtain ⟨g, off, rfl, hg, _⟩ := key 0 (by omega)
      obtain ⟨l, hll, hlk⟩ := pick_list zI len (fun i e => At5 W g (off + i * 5) e ∧ OkIn e) (by
        intro i hi
        obtain ⟨g', off', e, _, h⟩ := key i hi
        simp only [Addr.mk.injEq, and_true] at e
        obtain ⟨rfl, rfl⟩ := e
        exact h)
      subst hll
      refine ⟨l, ⟨some ⟨g, off, none⟩, m, rfl, hl, hm, fun _ => ⟨g, off, rfl, hg, fun i hi => (hlk i hi).1⟩⟩, fun x hx => ?_, fun h => h.code⟩
      obtain ⟨i, hi, rfl⟩ := List.mem_iff_getElem.1 hx
      have h := (hlk i hi).2
      rwa [List.getD_eq_getElem?_getD, List.getElem?_eq_getElem hi] at h
set_option maxRecDepth 100000 in
/-- Functions that come in. -/
theorem funcs_in {fuel : Nat} {W : World} {v : Value} {x : DataW H × List MemPlace} (hf : DataW.trod enc Tryz.prog W 0 (fun _ => true) true fuel 22 [v] = some x) : ∃ fs, FuncsW W.heap.size W v fs ∧ (Wok 22 x.1 → ∀ f ∈ fs, f.2.length ≤ 4398046511104) := by
  rcases Deep.open_slice Tryz.underlying22 hf with ⟨hcs, _⟩ | ⟨a, len, cap, m, n, D, Pl, hcs, _, hl, hm, hmm, rfl, hel⟩
  · simp only [List.cons.injEq, and_true] at hcs
    subst hcs
    exact ⟨[], ⟨none, 0, rfl, by simp, by simp, fun h => absurd rfl h⟩, fun _ f hf => by simp at hf⟩
  · simp only [List.cons.injEq, and_true] at hcs
    subst hcs
    simp only [if_true] at hmm
    subst hmm
    have hsp : 0 < len → a.spot = none := by
      intro h0
      obtain ⟨cs, hcs, _⟩ := hel 0 (by omega)
      rw [cF2] at hcs
      obtain ⟨_, hlen, hcell⟩ := World.cells?_some hcs
      have k0 := hcell 0 (by decide)
      rw [List.getElem?_eq_getElem (by omega)] at k0
      simpa [Addr.add] using World.cell?_spot k0
    have key : ∀ i, i < len → ∃ g off, a = ⟨g, off, none⟩ ∧ g < W.heap.size ∧ ∃ e, FuncAt W.heap.size W g (off + i * 2) e ∧ (Wok 46 (D i) → e.2.length ≤ 4398046511104) := by
      intro i hi
      obtain ⟨cs, hcs, hx⟩ := hel i (by omega)
      rw [cF2] at hcs
      obtain ⟨_, hlen, hcell⟩ := World.cells?_some hcs
      obtain ⟨xs, n', rfl, hDi, _, hxl, hfld⟩ := DataW.trod_struct Tryz.underlying46 hx
      have f0 := hfld 0 _ rfl
      have f1 := hfld 1 _ rfl
      obtain ⟨z0, z1, rfl⟩ : ∃ z0 z1, cs = [z0, z1] := by
        match cs, hlen with
        | [z0, z1], _ => exact ⟨z0, z1, rfl⟩
      obtain ⟨x0, x1, rfl⟩ : ∃ x0 x1, xs = [x0, x1] := by
        match xs, hxl with
        | [x0, x1], _ => exact ⟨x0, x1, rfl⟩
      simp [cN1, cLI1] at f0 f1
      obtain ⟨v0, e0, _, _⟩ := DataW.trod_int Tryz.underlying3 f0
      obtain ⟨c, hc, hok, hcl⟩ := code_in f1
      simp only [List.cons.injEq, and_true] at e0
      subst e0
      have k0 := hcell 0 (by decide)
      have k1 := hcell 1 (by decide)
      simp only [List.getElem?_cons_zero, List.getElem?_cons_succ] at k0 k1
      obtain ⟨g, off, spot⟩ := a
      have hspot : spot = none := hsp (by omega)
      subst hspot
      have hp : ∀ q, (⟨g, off, none⟩ : Addr).add q = ⟨g, off + q, none⟩ := fun q => by unfold Addr.add; split <;> simp_all
      have hp2 : ∀ q r, (⟨g, off + q, none⟩ : Addr).add r = ⟨g, off + q + r, none⟩ := fun q r => by unfold Addr.add; split <;> simp_all
      rw [hp, hp2] at k0 k1
      refine ⟨g, off, rfl, World.block_lt_of_cell? W _ k0, (v0, c), ⟨k0, z1, k1, hc, hok⟩, ?_⟩
      have hD : D i = .agg [x0.1, x1.1] := by simpa using (Prod.mk.inj hDi).1
      rw [hD]
      exact fun h => hcl h.part
    by_cases h0 : len = 0
    · subst h0
      exact ⟨[], ⟨some a, m, rfl, by simp, hm, fun h => absurd rfl h⟩, fun _ f hf => by simp at hf⟩
    · obtain ⟨g, off, rfl, hg, _⟩ := key 0 (by omega)
      obtain ⟨l, hll, hlk⟩ := pick_list zF len (fun i e => FuncAt W.heap.size W g (off + i * 2) e ∧ (Wok 46 (D i) → e.2.length ≤ 4398046511104)) (by
        intro i hi
        obtain ⟨g', off', e, _, h⟩ := key i hi
        simp only [Addr.mk.injEq, and_true] at e
        obtain ⟨rfl, rfl⟩ := e
        exact h)
      subst hll
      refine ⟨l, ⟨some ⟨g, off, none⟩, m, rfl, hl, hm, fun _ => ⟨g, off, rfl, hg, fun i hi => (hlk i hi).1⟩⟩, fun hw f hf => ?_⟩
      obtain ⟨i, hi, rfl⟩ := List.mem_iff_getElem.1 hf
      have h := (hlk i hi).2
      rw [List.getD_eq_getElem?_getD, List.getElem?_eq_getElem hi] at h
      exact h (hw.func hi)
/-- Arguments of types that read as data read as they did, where only memory was made. -/
theorem args_adds9 {P : Program} (hl : laidOutB P = true) : ∀ (ts : List TypeId) (vs : List Value) (ds : List (DataW H)) (ps : List MemPlace) {W W' : World}, (∀ t ∈ ts, P.readableRec t = true ∧ t < P.types.size) →
    DataW.TrodAll enc P W 0 (fun _ => true) true ts vs ds ps → Below W.heap.size W W' → (∀ x ∈ ps, x.block < W.heap.size) → ∀ sp : Nat → Bool, (∀ x ∈ ps, sp x.block = true) → DataW.TrodAll enc P W' 0 sp true ts vs ds ps
  | [], [], [], _, _, _, _, h, _, _, _, _ => h
  | t :: ts, v :: vs, d :: ds, ps, W, W', hr, h, hb, hlt, sp, hsp => by
    obtain ⟨p, q, h1, h2, rfl⟩ := h
    have hrt := hr t (by simp)
    refine ⟨p, q, ?_, args_adds9 hl ts vs ds q (fun t ht => hr t (by simp [ht])) h2 hb (fun x hx => hlt x (by simp [hx])) sp (fun x hx => hsp x (by simp [hx])), rfl⟩
    exact WideElems.Trod_stays hl hrt.1 hrt.2 h1 (fun x hx => hb.same (hlt x (by simp [hx]))) (fun x hx => hsp x (by simp [hx]))
  | [], _ :: _, _, _, _, _, _, h, _, _, _, _ => h.elim
  | [], [], _ :: _, _, _, _, _, h, _, _, _, _ => h.elim
  | _ :: _, [], _, _, _, _, _, h, _, _, _, _ => h.elim
  | _ :: _, _ :: _, [], _, _, _, _, h, _, _, _, _ => h.elim
set_option maxRecDepth 100000 in
/-- A law's end: true, and only memory was made: what the row asks. -/
theorem law_post9 {f : Func} {s : ChangeSpec} {W W' : World} {args : Array Value} {v : Value} {ds gs : List (DataW H)} {before : List MemPlace}
    (hW : DataW.Whole enc Tryz.prog f.params.toList s.vars false W args.toList ds gs before) (hv : v = .bool true) (hb : Adds W W')
    (hs : s.vars = []) (hsp : s.fn H (ds ++ gs) = { results := [.lit (.bool true)], args := ds }) (hres : f.resultTypes = #[4])
    (hr : ∀ t ∈ f.params.toList, Tryz.prog.readableRec t = true ∧ t < Tryz.prog.types.size) :
    s.post enc Tryz.prog f false true false false W args v W' := by
  subst hv
  have hlt : ∀ p ∈ before, p.block < W.heap.size := fun p hp => hW.lt p hp
  have hW0 := hW
  obtain ⟨p, q, hA, hV, hpq, hz, hn⟩ := hW
  rw [hs] at hV
  obtain ⟨rfl, rfl⟩ := trodVars_none hV
  simp only [List.append_nil] at hpq
  subst hpq
  refine ⟨ds, [], before, [], before, [], hW0, ?_, ?_, ?_, World.keptBut_mono (fun p hp => ⟨hp, ?_⟩) (Below.frame hb (· ∈ before)), fun h => by cases h⟩
  · rw [hsp, hres]
    exact trodAll_mk1 (shut_bool Tryz.underlying4 _)
  · rw [hsp]
    exact args_adds9 laidOutP9 _ _ _ _ hr hA hb hlt _ (fun x hx => by simpa using hlt x hx)
  · rw [hsp, hs]; rfl
  · simpa using hp
end
end Go.Proofs.YtdkgehhlikaocaaGreat
namespace Go.Proofs.YtdkgehhlikaocaaGreat
open Go Go.ChangeShapes Go.WideShapes Go.ChangeAt Go.RowKit
section
variable {H : Type} {enc : TypeId × Value → H}
theorem cA4 : Tryz.prog.cellsOf 50 = 4 := by kernel_rfl
end
end Go.Proofs.YtdkgehhlikaocaaGreat
namespace Go.Proofs.YtdkgehhlikaocaaGreat

/-- What a kind makes of two words. -/
def doN : Nat → Nat → Nat → Nat
  | 1, a, b => (a + b) % 4294967296
  | 2, a, b => (a + (4294967296 - b)) % 4294967296
  | 3, a, b => a * b % 4294967296
  | 4, a, b => a / b
  | 5, a, b => a % b
  | 6, a, b => a &&& b
  | 7, a, b => a ||| b
  | 8, a, b => a ^^^ b
  | 9, a, b => a * 2 ^ (b % 32) % 4294967296
  | 10, a, b => a / 2 ^ (b % 32)
  | 11, a, b => if a < b then 1 else 0
  | 12, a, b => if a = b then 1 else 0
  | _, _, _ => 0
/-- A kind that divides, by nothing. -/
def byNone (k b : Nat) : Bool := b == 0 && (k == 4 || k == 5)
theorem doN_lt {k a b : Nat} (ha : a < 4294967296) (hb : b < 4294967296) (hz : byNone k b = false) : doN k a b < 4294967296 := by
  unfold doN
  split
  · omega
  · omega
  · omega
  · exact Nat.lt_of_le_of_lt (Nat.div_le_self _ _) ha
  · exact Nat.lt_of_le_of_lt (Nat.mod_le _ _) ha
  · exact Nat.lt_of_le_of_lt Nat.and_le_left ha
  · exact Nat.or_lt_two_pow (n := 32) ha hb
  · exact Nat.xor_lt_two_pow (n := 32) ha hb
  · omega
  · exact Nat.lt_of_le_of_lt (Nat.div_le_self _ _) ha
  · split <;> omega
  · split <;> omega
  · omega
end Go.Proofs.YtdkgehhlikaocaaGreat
