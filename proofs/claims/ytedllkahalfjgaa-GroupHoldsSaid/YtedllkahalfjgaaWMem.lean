/- What only makes memory; blocks of a known row of cells; what turns one block alone. -/
import Derived.WalkKit
import Derived.Laws.Rows
import Derived.Laws.EntriesVeiled
import Derived.Shelf.SlSortCmp.QuietGrown
import Derived.Test.YtedllkahalfjgaaRows
import Derived.Test.YtedllkahalfjgaaBA
namespace Go.Proofs.Ytedllkahalfjgaa
open Go Go.RowKit Go.Shelf Go.Sort

/-- Only memory was made, and draws were taken. -/
def Gr (w w' : World) : Prop := ∃ n os, w' = grow (w.drewN n) os
theorem Gr.refl (w : World) : Gr w w := ⟨0, #[], by rw [grow_empty]; rfl⟩
theorem Gr.trans {a b c : World} (h : Gr a b) (k : Gr b c) : Gr a c := by
  obtain ⟨n, os, rfl⟩ := h
  obtain ⟨m, os', rfl⟩ := k
  exact ⟨n + m, os ++ os', by show grow (grow ((a.drewN n).drewN m) os) os' = _; rw [grow_grow, World.drewN_drewN]⟩
theorem Gr.new (w : World) (o : Obj) : Gr w (w.alloc o) := ⟨0, #[o], alloc_eq_grow w o⟩
theorem Gr.alloc {a b : World} (h : Gr a b) (o : Obj) : Gr a (b.alloc o) := h.trans (Gr.new b o)
theorem Gr.drewn (w : World) (n : Nat) : Gr w (w.drewN n) := ⟨n, #[], by rw [grow_empty]⟩
theorem Gr.drew {a b : World} (h : Gr a b) : Gr a b.drew := h.trans (Gr.drewn b 1)
theorem Gr.adds {w w' : World} (h : Gr w w') : Adds w w' := by
  obtain ⟨n, os, rfl⟩ := h
  exact ⟨rfl, rfl, rfl, by show w.heap.size ≤ (w.heap ++ os).size; simp, fun k hk => heap_grow_old _ _ (by simpa using hk)⟩
theorem Gr.grown (w : World) (n : Nat) (os : Array Obj) : Gr w (grow (w.drewN n) os) := ⟨n, os, rfl⟩
theorem Calls.gr {f : FuncId} {args : Array Value} {w : World} {n : Nat} {os : Array Obj} {v : Value}
    (h : ∀ W, Calls Try.prog f args W fun e w' => e = .returned v ∧ Gr W w') : Calls Try.prog f args (grow (w.drewN n) os) fun e w'' => e = .returned v ∧ ∃ p : GrownBy, w'' = grow (w.drewN p.n) p.os :=
  Calls.grown_of (h _)

/-- A result that lies in a box, alone or ahead of another one. -/
theorem res_box {P : Program} {fn : Func} {p : Tmp} {ty : TypeId} (h : fn.results = #[.cell p ty]) (tmps : Array Value) (w : World) (g : Nat) (cs : Array Value) (t : TypeId) (fr : Nat × Nat) (d : TypeDesc) (hp : tmps.getD p undef = .pointer (some ⟨g, 0, none⟩))
    (hg : w.heap[g]? = some (.cells cs t fr)) (hu : P.underlying ty = some d) (hd : (match d with | .struct _ | .array _ _ => true | _ => false) = true) (hi : (P.info? ty).map (·.size) = some cs.size) : (results fn tmps).run P w = .ok (.agg cs) w := by
  have hp' : tmps[p]?.getD undef = .pointer (some ⟨g, 0, none⟩) := by simpa using hp
  simp [results, h, hp', asAddr, run_loadVar_row (P := P) w g t ty cs fr d hg hu hd hi]
theorem res_box2 {P : Program} {fn : Func} {p q : Tmp} {ty : TypeId} (h : fn.results = #[.cell p ty, .tmp q]) (tmps : Array Value) (w : World) (g : Nat) (cs : Array Value) (t : TypeId) (fr : Nat × Nat) (d : TypeDesc) (hp : tmps.getD p undef = .pointer (some ⟨g, 0, none⟩))
    (hg : w.heap[g]? = some (.cells cs t fr)) (hu : P.underlying ty = some d) (hd : (match d with | .struct _ | .array _ _ => true | _ => false) = true) (hi : (P.info? ty).map (·.size) = some cs.size) : (results fn tmps).run P w = .ok (.tuple #[.agg cs, tmps.getD q undef]) w := by
  have hp' : tmps[p]?.getD undef = .pointer (some ⟨g, 0, none⟩) := by simpa using hp
  simp [results, h, hp', asAddr, run_loadVar_row (P := P) w g t ty cs fr d hg hu hd hi]
theorem heap_new (w : World) (o : Obj) : (w.alloc o).heap[w.heap.size]? = some o := by unfold World.alloc; simp

/-- A block whose cells hold l. -/
def BkS (t : TypeId) (w : World) (b : Nat) (l : List Value) : Prop := w.heap[b]? = some (.cells l.toArray t (0, 0))
section
variable {t : TypeId} {w w' : World} {b : Nat} {l : List Value}
theorem BkS.lt (h : BkS t w b l) : b < w.heap.size := (Array.getElem?_eq_some_iff.1 h).1
theorem BkS.cell (h : BkS t w b l) (i : Nat) : w.cell? ⟨b, i, none⟩ = l[i]? := by
  rw [cell_of_row w b i _ _ _ h]; simp
theorem BkS.free (h : BkS t w b l) (i : Nat) : w.frozen? ⟨b, i, none⟩ = false := by
  unfold BkS at h
  simp [World.frozen?, h]
theorem BkS.set (h : BkS t w b l) (i : Nat) (u : Value) : BkS t (w.setCell ⟨b, i, none⟩ u) b (l.set i u) := by
  unfold BkS at *
  simp only [World.setCell, Array.getElem?_modify, h]
  simp
theorem BkS.new (t : TypeId) (w : World) (l : List Value) : BkS t (w.alloc (.cells l.toArray t)) w.heap.size l := heap_new w _
theorem BkS.adds (h : BkS t w b l) (ha : Adds w w') : BkS t w' b l := (ha.block b h.lt).trans h
theorem BkS.other (h : BkS t w b l) {c i : Nat} (hc : c ≠ b) (u : Value) : BkS t (w.setCell ⟨c, i, none⟩ u) b l := (Below.heap_setCell w _ _ _ (fun e => hc e.symm)).trans h
end
/-- What turns one block alone, and makes memory. -/
def TnS (b : Nat) (w w' : World) : Prop := w.grownBy w' (some b)
theorem TnS.refl (b : Nat) (w : World) : TnS b w w := ⟨rfl, rfl, rfl, Nat.le_refl _, fun _ _ _ => rfl⟩
theorem TnS.of_adds (b : Nat) {w w' : World} (h : Adds w w') : TnS b w w' := ⟨h.os, h.tape, h.output, h.size, fun k hk _ => h.block k hk⟩
theorem TnS.trans {b : Nat} {u v w : World} (h : TnS b u v) (k : TnS b v w) : TnS b u w :=
  ⟨k.os.trans h.os, k.tape.trans h.tape, k.output.trans h.output, Nat.le_trans h.size k.size, fun i hi hb => (k.block i (Nat.lt_of_lt_of_le hi h.size) hb).trans (h.block i hi hb)⟩
theorem TnS.setCell (b i : Nat) (w : World) (u : Value) : TnS b w (w.setCell ⟨b, i, none⟩ u) :=
  ⟨rfl, rfl, rfl, by simp [World.setCell], fun k _ hb => Below.heap_setCell w _ _ _ (fun e => hb (by rw [e]))⟩
/-- A block that the call itself made: nothing that was there has turned. -/
theorem TnS.own {b : Nat} {u v w : World} (h : Adds u v) (hb : u.heap.size ≤ b) (k : TnS b v w) : Adds u w :=
  ⟨k.os.trans h.os, k.tape.trans h.tape, k.output.trans h.output, Nat.le_trans h.size k.size, fun i hi => (k.block i (Nat.lt_of_lt_of_le hi h.size) (fun e => by cases e; omega)).trans (h.block i hi)⟩
theorem Adds.set {u v : World} {b : Nat} (h : Adds u v) (hb : u.heap.size ≤ b) (i : Nat) (x : Value) : Adds u (v.setCell ⟨b, i, none⟩ x) := TnS.own h hb (TnS.setCell b i v x)
end Go.Proofs.Ytedllkahalfjgaa
