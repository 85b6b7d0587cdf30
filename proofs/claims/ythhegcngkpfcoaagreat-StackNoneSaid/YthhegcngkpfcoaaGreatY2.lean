/- Merged: BE, IF1. -/
import Derived.Lib.AtoiAllCases
import Derived.Lib.ItoaNum
import Derived.Lib.Strings
import Derived.Lib.SlTrimSet
import Derived.Test.YthhegcngkpfcoaaGreatY0
import Derived.WalkKit
import Derived.BigCall
import Derived.BigGuard
import Derived.Laws.EntriesVeiled
import Derived.Shelf.SlSortCmp.QuietGrown
import Derived.Test.YthhegcngkpfcoaaGreatRows
import Derived.Laws.Rows
import Derived.Test.YthhegcngkpfcoaaGreatY1
namespace Go.Proofs.YthhegcngkpfcoaaGreat
open Go.Lib

end Go.Proofs.YthhegcngkpfcoaaGreat
namespace Go.Proofs.YthhegcngkpfcoaaGreat
open Go Go.RowKit Go.Shelf Go.Sort

/-- Only memory was made, and draws were taken. -/
def Gr (w w' : World) : Prop := ∃ n os, w' = grow (w.drewN n) os
theorem Gr.refl (w : World) : Gr w w := ⟨0, #[], by rw [grow_empty]; rfl⟩
theorem Gr.trans {a b c : World} (h : Gr a b) (k : Gr b c) : Gr a c := by
  obtain ⟨n, os, rfl⟩ := h
  obtain ⟨m, os', rfl⟩ := k
  exact ⟨n + m, os ++ os', by show grow (grow ((a.drewN n).drewN m) os) os' = _; rw [grow_grow, World.drewN_drewN]⟩
theorem Gr.new (w : World) (o : Obj) : Gr w (w.alloc o) := ⟨0, #[o], alloc_eq_grow w o⟩
theorem Gr.alloc {a b : World} (h : Gr a b) (o : Obj) : Gr a (b.alloc o) := h.trans (Gr.new b o)
theorem Gr.drewn (w : World) (n : Nat) : Gr w (w.drewN n) := ⟨n, #[], by rw [grow_empty]⟩
theorem Gr.drew {a b : World} (h : Gr a b) : Gr a b.drew := h.trans (Gr.drewn b 1)
theorem Gr.adds {w w' : World} (h : Gr w w') : Adds w w' := by
  obtain ⟨n, os, rfl⟩ := h
  exact ⟨rfl, rfl, rfl, by show w.heap.size ≤ (w.heap ++ os).size; simp, fun k hk => heap_grow_old _ _ (by simpa using hk)⟩
theorem Gr.grown (w : World) (n : Nat) (os : Array Obj) : Gr w (grow (w.drewN n) os) := ⟨n, os, rfl⟩
/-- A result that lies in a box, alone or ahead of another one. -/
theorem res_box {P : Program} {fn : Func} {p : Tmp} {ty : TypeId} (h : fn.results = #[.cell p ty]) (tmps : Array Value) (w : World) (g : Nat) (cs : Array Value) (t : TypeId) (fr : Nat × Nat) (d : TypeDesc) (hp : tmps.getD p undef = .pointer (some ⟨g, 0, none⟩))
    (hg : w.heap[g]? = some (.cells cs t fr)) (hu : P.underlying ty = some d) (hd : (match d with | .struct _ | .array _ _ => true | _ => false) = true) (hi : (P.info? ty).map (·.size) = some cs.size) : (results fn tmps).run P w = .ok (.agg cs) w := by
  have hp' : tmps[p]?.getD undef = .pointer (some ⟨g, 0, none⟩) := by simpa using hp
  simp [results, h, hp', asAddr, run_loadVar_row (P := P) w g t ty cs fr d hg hu hd hi]
theorem heap_new (w : World) (o : Obj) : (w.alloc o).heap[w.heap.size]? = some o := by unfold World.alloc; simp

end Go.Proofs.YthhegcngkpfcoaaGreat
namespace Go.Proofs.YthhegcngkpfcoaaGreat
open Go Go.RowKit

/-- A block whose cells hold l. -/
def BkS (t : TypeId) (w : World) (b : Nat) (l : List Value) : Prop := w.heap[b]? = some (.cells l.toArray t (0, 0))
section
variable {t : TypeId} {w w' : World} {b : Nat} {l : List Value}
theorem BkS.lt (h : BkS t w b l) : b < w.heap.size := (Array.getElem?_eq_some_iff.1 h).1
theorem BkS.cell (h : BkS t w b l) (i : Nat) : w.cell? ⟨b, i, none⟩ = l[i]? := by
  rw [cell_of_row w b i _ _ _ h]; simp
theorem BkS.free (h : BkS t w b l) (i : Nat) : w.frozen? ⟨b, i, none⟩ = false := by
  unfold BkS at h
  simp [World.frozen?, h]
theorem BkS.set (h : BkS t w b l) (i : Nat) (u : Value) : BkS t (w.setCell ⟨b, i, none⟩ u) b (l.set i u) := by
  unfold BkS at *
  simp only [World.setCell, Array.getElem?_modify, h]
  simp
theorem BkS.new (t : TypeId) (w : World) (l : List Value) : BkS t (w.alloc (.cells l.toArray t)) w.heap.size l := heap_new w _
theorem BkS.adds (h : BkS t w b l) (ha : Adds w w') : BkS t w' b l := (ha.block b h.lt).trans h
theorem BkS.other (h : BkS t w b l) {c i : Nat} (hc : c ≠ b) (u : Value) : BkS t (w.setCell ⟨c, i, none⟩ u) b l := (Below.heap_setCell w _ _ _ (fun e => hc e.symm)).trans h
end
/-- What turns one block alone, and makes memory. -/
def TnS (b : Nat) (w w' : World) : Prop := w.grownBy w' (some b)
theorem TnS.refl (b : Nat) (w : World) : TnS b w w := ⟨rfl, rfl, rfl, Nat.le_refl _, fun _ _ _ => rfl⟩
theorem TnS.of_adds (b : Nat) {w w' : World} (h : Adds w w') : TnS b w w' := ⟨h.os, h.tape, h.output, h.size, fun k hk _ => h.block k hk⟩
theorem TnS.trans {b : Nat} {u v w : World} (h : TnS b u v) (k : TnS b v w) : TnS b u w :=
  ⟨k.os.trans h.os, k.tape.trans h.tape, k.output.trans h.output, Nat.le_trans h.size k.size, fun i hi hb => (k.block i (Nat.lt_of_lt_of_le hi h.size) hb).trans (h.block i hi hb)⟩
theorem TnS.setCell (b i : Nat) (w : World) (u : Value) : TnS b w (w.setCell ⟨b, i, none⟩ u) :=
  ⟨rfl, rfl, rfl, by simp [World.setCell], fun k _ hb => Below.heap_setCell w _ _ _ (fun e => hb (by rw [e]))⟩
/-- A block that the call itself made: nothing that was there has turned. -/
theorem TnS.own {b : Nat} {u v w : World} (h : Adds u v) (hb : u.heap.size ≤ b) (k : TnS b v w) : Adds u w :=
  ⟨k.os.trans h.os, k.tape.trans h.tape, k.output.trans h.output, Nat.le_trans h.size k.size, fun i hi => (k.block i (Nat.lt_of_lt_of_le hi h.size) (fun e => by cases e; omega)).trans (h.block i hi)⟩
theorem Adds.set {u v : World} {b : Nat} (h : Adds u v) (hb : u.heap.size ≤ b) (i : Nat) (x : Value) : Adds u (v.setCell ⟨b, i, none⟩ x) := TnS.own h hb (TnS.setCell b i v x)
end Go.Proofs.YthhegcngkpfcoaaGreat
namespace Go.Proofs.YthhegcngkpfcoaaGreat
open Go Go.RowKit Go.Shelf

abbrev insC (x : In) : List Value := [.int .i64 x.1, .int .i64 x.2.1, .int .i64 x.2.2.1, .int .i64 x.2.2.2.1, .int .u32 x.2.2.2.2]
abbrev insV (x : In) : Value := .agg (insC x).toArray
/-- What may be: the least, the most, the mark of a text, whether the text leaves it out. -/
abbrev numV8 (lo hi : Int) (m : List UInt8) (u : Bool) : Value := .agg #[.int .i64 lo, .int .i64 hi, .string ⟨m.toArray⟩, .bool u]
def markN : Nat → List UInt8 | 0 => [114] | 5 => [102] | _ => []
theorem heap_new1 (w : World) (o o' : Obj) : ((w.alloc o).alloc o').heap[w.heap.size + 1]? = some o' := by have := heap_new (w.alloc o) o'; simpa using this
/-- The kinds of numbers. -/
theorem register_any (x : In) (w : World) : Calls Tryz.prog 136 #[insV x] w fun e w' => e = .returned (numV8 0 15 [114] false) ∧ Gr w w' := by
  obtain ⟨o, a, b, c, i⟩ := x
  go_enter Tryz.func136, Tryz.ntmps136
  go_wp2
  refine bodyPost_ret (res_box rfl _ _ _ _ _ _ _ rfl (heap_new1 _ _ _) Tryz.underlying177 rfl (by kernel_rfl)) rfl ?_
  exact ⟨rfl, (Gr.new _ _).alloc _⟩
theorem word_any (x : In) (w : World) : Calls Tryz.prog 137 #[insV x] w fun e w' => e = .returned (numV8 0 4294967295 [] false) ∧ Gr w w' := by
  obtain ⟨o, a, b, c, i⟩ := x
  go_enter Tryz.func137, Tryz.ntmps137
  go_wp2
  refine bodyPost_ret (res_box rfl _ _ _ _ _ _ _ rfl (heap_new1 _ _ _) Tryz.underlying177 rfl (by kernel_rfl)) rfl ?_
  exact ⟨rfl, (Gr.new _ _).alloc _⟩
theorem kind_any (x : In) (w : World) : Calls Tryz.prog 138 #[insV x] w fun e w' => e = .returned (numV8 1 12 [] true) ∧ Gr w w' := by
  obtain ⟨o, a, b, c, i⟩ := x
  go_enter Tryz.func138, Tryz.ntmps138
  go_wp2
  refine bodyPost_ret (res_box rfl _ _ _ _ _ _ _ rfl (heap_new1 _ _ _) Tryz.underlying177 rfl (by kernel_rfl)) rfl ?_
  exact ⟨rfl, (Gr.new _ _).alloc _⟩
theorem place_any (x : In) (w : World) : Calls Tryz.prog 139 #[insV x] w fun e w' => e = .returned (numV8 0 511 [] false) ∧ Gr w w' := by
  obtain ⟨o, a, b, c, i⟩ := x
  go_enter Tryz.func139, Tryz.ntmps139
  go_wp2
  refine bodyPost_ret (res_box rfl _ _ _ _ _ _ _ rfl (heap_new1 _ _ _) Tryz.underlying177 rfl (by kernel_rfl)) rfl ?_
  exact ⟨rfl, (Gr.new _ _).alloc _⟩
theorem function_any (x : In) (w : World) : Calls Tryz.prog 141 #[insV x] w fun e w' => e = .returned (numV8 0 31 [102] false) ∧ Gr w w' := by
  obtain ⟨o, a, b, c, i⟩ := x
  go_enter Tryz.func141, Tryz.ntmps141
  go_wp2
  refine bodyPost_ret (res_box rfl _ _ _ _ _ _ _ rfl (heap_new1 _ _ _) Tryz.underlying177 rfl (by kernel_rfl)) rfl ?_
  exact ⟨rfl, (Gr.new _ _).alloc _⟩
theorem handed_any (x : In) (h0 : -1000000000000 ≤ getP 1 x) (h1 : getP 1 x ≤ 1000000000000) (w : World) : Calls Tryz.prog 140 #[insV x] w fun e w' => e = .returned (numV8 0 (16 - getP 1 x) [] false) ∧ Gr w w' := by
  obtain ⟨o, a, b, c, i⟩ := x
  simp only [getP] at h0 h1 ⊢
  go_enter Tryz.func140, Tryz.ntmps140
  go_wp2
  refine bodyPost_ret (res_box rfl _ _ _ _ _ _ _ rfl (heap_new1 _ _ _) Tryz.underlying177 rfl (by kernel_rfl)) rfl ?_
  exact ⟨by simp, (Gr.new _ _).alloc _⟩
theorem is_any (n : Nat) (hn : n < 6) (x : In) (h0 : n = 1 → -1000000000000 ≤ getP 1 x ∧ getP 1 x ≤ 1000000000000) (w : World) :
    Calls Tryz.prog (isF n) #[insV x] w fun e w' => e = .returned (numV8 (loN n) (hiN n x) (markN n) (n == 3)) ∧ Gr w w' := by
  match n, hn with
  | 0, _ => exact register_any x w
  | 1, _ => exact handed_any x (h0 rfl).1 (h0 rfl).2 w
  | 2, _ => exact word_any x w
  | 3, _ => exact kind_any x w
  | 4, _ => exact place_any x w
  | 5, _ => exact function_any x w

def getF : Nat → FuncId | 0 => 144 | 1 => 146 | 2 => 148 | _ => 150
def putF : Nat → FuncId | 0 => 145 | 1 => 147 | 2 => 149 | _ => 151
theorem get_any (k : Nat) (hk : k < 4) (x : In) (hi : 0 ≤ x.2.2.2.2) (hj : x.2.2.2.2 < 4294967296) (w : World) :
    Calls Tryz.prog (getF k) #[insV x] w fun e w' => e = .returned (.int .i64 (getP k x)) ∧ Gr w w' := by
  obtain ⟨o, a, b, c, i⟩ := x
  match k, hk with
  | 0, _ => go_enter Tryz.func144, Tryz.ntmps144; go_wp2; go_ret; exact ⟨rfl, Gr.new _ _⟩
  | 1, _ => go_enter Tryz.func146, Tryz.ntmps146; go_wp2; go_ret; exact ⟨rfl, Gr.new _ _⟩
  | 2, _ => go_enter Tryz.func148, Tryz.ntmps148; go_wp2; go_ret; exact ⟨rfl, Gr.new _ _⟩
  | 3, _ => go_enter Tryz.func150, Tryz.ntmps150; go_wp2; go_ret; exact ⟨by simp [getP]; unfold wrap64; omega, Gr.new _ _⟩
theorem put_any (k : Nat) (hk : k < 4) (b : Nat) (x : In) (n : Int) (w : World) (h : BkS 37 w b (insC x)) :
    Calls Tryz.prog (putF k) #[.pointer (some ⟨b, 0, none⟩), .int .i64 n] w fun e w' => e = .returned (.tuple #[]) ∧ BkS 37 w' b (insC (putP k x (if k = 3 then n % 4294967296 else n))) ∧ TnS b w w' := by
  obtain ⟨o, a, b', c, i⟩ := x
  have d0 := h.cell 0; have d1 := h.cell 1; have d2 := h.cell 2; have d3 := h.cell 3; have d4 := h.cell 4
  have f0 := h.free 0; have f1 := h.free 1; have f2 := h.free 2; have f3 := h.free 3; have f4 := h.free 4
  simp only [List.getElem?_cons_zero, List.getElem?_cons_succ] at d0 d1 d2 d3 d4
  have HS := Lib.hid (fun i u => h.set i u)
  clear h
  match k, hk with
  | 0, _ => go_enter Tryz.func145, Tryz.ntmps145; go_wp2; go_end0; exact ⟨rfl, HS.out 1 _, TnS.setCell _ _ _ _⟩
  | 1, _ => go_enter Tryz.func147, Tryz.ntmps147; go_wp2; go_end0; exact ⟨rfl, HS.out 2 _, TnS.setCell _ _ _ _⟩
  | 2, _ => go_enter Tryz.func149, Tryz.ntmps149; go_wp2; go_end0; exact ⟨rfl, HS.out 3 _, TnS.setCell _ _ _ _⟩
  | 3, _ => go_enter Tryz.func151, Tryz.ntmps151; go_wp2; go_end0; exact ⟨rfl, HS.out 4 _, TnS.setCell _ _ _ _⟩
end Go.Proofs.YthhegcngkpfcoaaGreat
