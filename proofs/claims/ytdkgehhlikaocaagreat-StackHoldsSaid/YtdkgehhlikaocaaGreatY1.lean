/- Merged: BE, IF1, IF2, IF3. -/
import Derived.Lib.AtoiAllCases
import Derived.Lib.ItoaNum
import Derived.Lib.Strings
import Derived.Lib.SlTrimSet
import Derived.Test.YtdkgehhlikaocaaGreatY0
import Derived.WalkKit
import Derived.BigCall
import Derived.BigGuard
import Derived.Laws.EntriesVeiled
import Derived.Shelf.SlSortCmp.QuietGrown
import Derived.Test.YtdkgehhlikaocaaGreatRows
import Derived.Laws.Rows
import Derived.Lib.SlKept
import Derived.Lib.SliceRun
namespace Go.Proofs.YtdkgehhlikaocaaGreat
open Go.Lib

end Go.Proofs.YtdkgehhlikaocaaGreat
namespace Go.Proofs.YtdkgehhlikaocaaGreat
open Go Go.RowKit Go.Shelf Go.Sort

/-- Only memory was made, and draws were taken. -/
def Gr (w w' : World) : Prop := ∃ n os, w' = grow (w.drewN n) os
theorem Gr.refl (w : World) : Gr w w := ⟨0, #[], by rw [grow_empty]; rfl⟩
theorem Gr.trans {a b c : World} (h : Gr a b) (k : Gr b c) : Gr a c := by
  obtain ⟨n, os, rfl⟩ := h
  obtain ⟨m, os', rfl⟩ := k
  exact ⟨n + m, os ++ os', by show grow (grow ((a.drewN n).drewN m) os) os' = _; rw [grow_grow, World.drewN_drewN]⟩
theorem Gr.new (w : World) (o : Obj) : Gr w (w.alloc o) := ⟨0, #[o], alloc_eq_grow w o⟩
theorem Gr.alloc {a b : World} (h : Gr a b) (o : Obj) : Gr a (b.alloc o) := h.trans (Gr.new b o)
theorem Gr.drewn (w : World) (n : Nat) : Gr w (w.drewN n) := ⟨n, #[], by rw [grow_empty]⟩
theorem Gr.drew {a b : World} (h : Gr a b) : Gr a b.drew := h.trans (Gr.drewn b 1)
theorem Gr.adds {w w' : World} (h : Gr w w') : Adds w w' := by
  obtain ⟨n, os, rfl⟩ := h
  exact ⟨rfl, rfl, rfl, by show w.heap.size ≤ (w.heap ++ os).size; simp, fun k hk => heap_grow_old _ _ (by simpa using hk)⟩
theorem Gr.grown (w : World) (n : Nat) (os : Array Obj) : Gr w (grow (w.drewN n) os) := ⟨n, os, rfl⟩
/-- A result that lies in a box, alone or ahead of another one. -/
theorem res_box {P : Program} {fn : Func} {p : Tmp} {ty : TypeId} (h : fn.results = #[.cell p ty]) (tmps : Array Value) (w : World) (g : Nat) (cs : Array Value) (t : TypeId) (fr : Nat × Nat) (d : TypeDesc) (hp : tmps.getD p undef = .pointer (some ⟨g, 0, none⟩))
    (hg : w.heap[g]? = some (.cells cs t fr)) (hu : P.underlying ty = some d) (hd : (match d with | .struct _ | .array _ _ => true | _ => false) = true) (hi : (P.info? ty).map (·.size) = some cs.size) : (results fn tmps).run P w = .ok (.agg cs) w := by
  have hp' : tmps[p]?.getD undef = .pointer (some ⟨g, 0, none⟩) := by simpa using hp
  simp [results, h, hp', asAddr, run_loadVar_row (P := P) w g t ty cs fr d hg hu hd hi]
theorem res_box2 {P : Program} {fn : Func} {p q : Tmp} {ty : TypeId} (h : fn.results = #[.cell p ty, .tmp q]) (tmps : Array Value) (w : World) (g : Nat) (cs : Array Value) (t : TypeId) (fr : Nat × Nat) (d : TypeDesc) (hp : tmps.getD p undef = .pointer (some ⟨g, 0, none⟩))
    (hg : w.heap[g]? = some (.cells cs t fr)) (hu : P.underlying ty = some d) (hd : (match d with | .struct _ | .array _ _ => true | _ => false) = true) (hi : (P.info? ty).map (·.size) = some cs.size) : (results fn tmps).run P w = .ok (.tuple #[.agg cs, tmps.getD q undef]) w := by
  have hp' : tmps[p]?.getD undef = .pointer (some ⟨g, 0, none⟩) := by simpa using hp
  simp [results, h, hp', asAddr, run_loadVar_row (P := P) w g t ty cs fr d hg hu hd hi]
theorem heap_new (w : World) (o : Obj) : (w.alloc o).heap[w.heap.size]? = some o := by unfold World.alloc; simp

end Go.Proofs.YtdkgehhlikaocaaGreat
namespace Go.Proofs.YtdkgehhlikaocaaGreat
open Go Go.RowKit

/-- A block whose cells hold l. -/
def BkS (t : TypeId) (w : World) (b : Nat) (l : List Value) : Prop := w.heap[b]? = some (.cells l.toArray t (0, 0))
section
variable {t : TypeId} {w w' : World} {b : Nat} {l : List Value}
theorem BkS.lt (h : BkS t w b l) : b < w.heap.size := (Array.getElem?_eq_some_iff.1 h).1
theorem BkS.cell (h : BkS t w b l) (i : Nat) : w.cell? ⟨b, i, none⟩ = l[i]? := by
  rw [cell_of_row w b i _ _ _ h]; simp
theorem BkS.free (h : BkS t w b l) (i : Nat) : w.frozen? ⟨b, i, none⟩ = false := by
  unfold BkS at h
  simp [World.frozen?, h]
theorem BkS.set (h : BkS t w b l) (i : Nat) (u : Value) : BkS t (w.setCell ⟨b, i, none⟩ u) b (l.set i u) := by
  unfold BkS at *
  simp only [World.setCell, Array.getElem?_modify, h]
  simp
theorem BkS.new (t : TypeId) (w : World) (l : List Value) : BkS t (w.alloc (.cells l.toArray t)) w.heap.size l := heap_new w _
theorem BkS.adds (h : BkS t w b l) (ha : Adds w w') : BkS t w' b l := (ha.block b h.lt).trans h
theorem BkS.other (h : BkS t w b l) {c i : Nat} (hc : c ≠ b) (u : Value) : BkS t (w.setCell ⟨c, i, none⟩ u) b l := (Below.heap_setCell w _ _ _ (fun e => hc e.symm)).trans h
end
/-- What turns one block alone, and makes memory. -/
def TnS (b : Nat) (w w' : World) : Prop := w.grownBy w' (some b)
theorem TnS.refl (b : Nat) (w : World) : TnS b w w := ⟨rfl, rfl, rfl, Nat.le_refl _, fun _ _ _ => rfl⟩
theorem TnS.of_adds (b : Nat) {w w' : World} (h : Adds w w') : TnS b w w' := ⟨h.os, h.tape, h.output, h.size, fun k hk _ => h.block k hk⟩
theorem TnS.trans {b : Nat} {u v w : World} (h : TnS b u v) (k : TnS b v w) : TnS b u w :=
  ⟨k.os.trans h.os, k.tape.trans h.tape, k.output.trans h.output, Nat.le_trans h.size k.size, fun i hi hb => (k.block i (Nat.lt_of_lt_of_le hi h.size) hb).trans (h.block i hi hb)⟩
theorem TnS.setCell (b i : Nat) (w : World) (u : Value) : TnS b w (w.setCell ⟨b, i, none⟩ u) :=
  ⟨rfl, rfl, rfl, by simp [World.setCell], fun k _ hb => Below.heap_setCell w _ _ _ (fun e => hb (by rw [e]))⟩
/-- A block that the call itself made: nothing that was there has turned. -/
theorem TnS.own {b : Nat} {u v w : World} (h : Adds u v) (hb : u.heap.size ≤ b) (k : TnS b v w) : Adds u w :=
  ⟨k.os.trans h.os, k.tape.trans h.tape, k.output.trans h.output, Nat.le_trans h.size k.size, fun i hi => (k.block i (Nat.lt_of_lt_of_le hi h.size) (fun e => by cases e; omega)).trans (h.block i hi)⟩
theorem Adds.set {u v : World} {b : Nat} (h : Adds u v) (hb : u.heap.size ≤ b) (i : Nat) (x : Value) : Adds u (v.setCell ⟨b, i, none⟩ x) := TnS.own h hb (TnS.setCell b i v x)
end Go.Proofs.YtdkgehhlikaocaaGreat
namespace Go.Proofs.YtdkgehhlikaocaaGreat
open Go Go.RowKit Go.Shelf

abbrev insC (x : In) : List Value := [.int .i64 x.1, .int .i64 x.2.1, .int .i64 x.2.2.1, .int .i64 x.2.2.2.1, .int .u32 x.2.2.2.2]
abbrev insV (x : In) : Value := .agg (insC x).toArray
/-- What may be: the least, the most, the mark of a text, whether the text leaves it out. -/
abbrev numV8 (lo hi : Int) (m : List UInt8) (u : Bool) : Value := .agg #[.int .i64 lo, .int .i64 hi, .string ⟨m.toArray⟩, .bool u]
def markN : Nat → List UInt8 | 0 => [114] | 5 => [102] | _ => []
theorem heap_new1 (w : World) (o o' : Obj) : ((w.alloc o).alloc o').heap[w.heap.size + 1]? = some o' := by have := heap_new (w.alloc o) o'; simpa using this
/-- The kinds of numbers. -/
theorem register_any (x : In) (w : World) : Calls Tryz.prog 135 #[insV x] w fun e w' => e = .returned (numV8 0 15 [114] false) ∧ Gr w w' := by
  obtain ⟨o, a, b, c, i⟩ := x
  go_enter Tryz.func135, Tryz.ntmps135
  go_wp2
  refine bodyPost_ret (res_box rfl _ _ _ _ _ _ _ rfl (heap_new1 _ _ _) Tryz.underlying176 rfl (by kernel_rfl)) rfl ?_
  exact ⟨rfl, (Gr.new _ _).alloc _⟩
theorem word_any (x : In) (w : World) : Calls Tryz.prog 136 #[insV x] w fun e w' => e = .returned (numV8 0 4294967295 [] false) ∧ Gr w w' := by
  obtain ⟨o, a, b, c, i⟩ := x
  go_enter Tryz.func136, Tryz.ntmps136
  go_wp2
  refine bodyPost_ret (res_box rfl _ _ _ _ _ _ _ rfl (heap_new1 _ _ _) Tryz.underlying176 rfl (by kernel_rfl)) rfl ?_
  exact ⟨rfl, (Gr.new _ _).alloc _⟩
theorem kind_any (x : In) (w : World) : Calls Tryz.prog 137 #[insV x] w fun e w' => e = .returned (numV8 1 12 [] true) ∧ Gr w w' := by
  obtain ⟨o, a, b, c, i⟩ := x
  go_enter Tryz.func137, Tryz.ntmps137
  go_wp2
  refine bodyPost_ret (res_box rfl _ _ _ _ _ _ _ rfl (heap_new1 _ _ _) Tryz.underlying176 rfl (by kernel_rfl)) rfl ?_
  exact ⟨rfl, (Gr.new _ _).alloc _⟩
theorem place_any (x : In) (w : World) : Calls Tryz.prog 138 #[insV x] w fun e w' => e = .returned (numV8 0 511 [] false) ∧ Gr w w' := by
  obtain ⟨o, a, b, c, i⟩ := x
  go_enter Tryz.func138, Tryz.ntmps138
  go_wp2
  refine bodyPost_ret (res_box rfl _ _ _ _ _ _ _ rfl (heap_new1 _ _ _) Tryz.underlying176 rfl (by kernel_rfl)) rfl ?_
  exact ⟨rfl, (Gr.new _ _).alloc _⟩
theorem function_any (x : In) (w : World) : Calls Tryz.prog 140 #[insV x] w fun e w' => e = .returned (numV8 0 31 [102] false) ∧ Gr w w' := by
  obtain ⟨o, a, b, c, i⟩ := x
  go_enter Tryz.func140, Tryz.ntmps140
  go_wp2
  refine bodyPost_ret (res_box rfl _ _ _ _ _ _ _ rfl (heap_new1 _ _ _) Tryz.underlying176 rfl (by kernel_rfl)) rfl ?_
  exact ⟨rfl, (Gr.new _ _).alloc _⟩
theorem handed_any (x : In) (h0 : -1000000000000 ≤ getP 1 x) (h1 : getP 1 x ≤ 1000000000000) (w : World) : Calls Tryz.prog 139 #[insV x] w fun e w' => e = .returned (numV8 0 (16 - getP 1 x) [] false) ∧ Gr w w' := by
  obtain ⟨o, a, b, c, i⟩ := x
  simp only [getP] at h0 h1 ⊢
  go_enter Tryz.func139, Tryz.ntmps139
  go_wp2
  refine bodyPost_ret (res_box rfl _ _ _ _ _ _ _ rfl (heap_new1 _ _ _) Tryz.underlying176 rfl (by kernel_rfl)) rfl ?_
  exact ⟨by simp, (Gr.new _ _).alloc _⟩
theorem is_any (n : Nat) (hn : n < 6) (x : In) (h0 : n = 1 → -1000000000000 ≤ getP 1 x ∧ getP 1 x ≤ 1000000000000) (w : World) :
    Calls Tryz.prog (isF n) #[insV x] w fun e w' => e = .returned (numV8 (loN n) (hiN n x) (markN n) (n == 3)) ∧ Gr w w' := by
  match n, hn with
  | 0, _ => exact register_any x w
  | 1, _ => exact handed_any x (h0 rfl).1 (h0 rfl).2 w
  | 2, _ => exact word_any x w
  | 3, _ => exact kind_any x w
  | 4, _ => exact place_any x w
  | 5, _ => exact function_any x w

def getF : Nat → FuncId | 0 => 143 | 1 => 145 | 2 => 147 | _ => 149
def putF : Nat → FuncId | 0 => 144 | 1 => 146 | 2 => 148 | _ => 150
theorem get_any (k : Nat) (hk : k < 4) (x : In) (hi : 0 ≤ x.2.2.2.2) (hj : x.2.2.2.2 < 4294967296) (w : World) :
    Calls Tryz.prog (getF k) #[insV x] w fun e w' => e = .returned (.int .i64 (getP k x)) ∧ Gr w w' := by
  obtain ⟨o, a, b, c, i⟩ := x
  match k, hk with
  | 0, _ => go_enter Tryz.func143, Tryz.ntmps143; go_wp2; go_ret; exact ⟨rfl, Gr.new _ _⟩
  | 1, _ => go_enter Tryz.func145, Tryz.ntmps145; go_wp2; go_ret; exact ⟨rfl, Gr.new _ _⟩
  | 2, _ => go_enter Tryz.func147, Tryz.ntmps147; go_wp2; go_ret; exact ⟨rfl, Gr.new _ _⟩
  | 3, _ => go_enter Tryz.func149, Tryz.ntmps149; go_wp2; go_ret; exact ⟨by simp [getP]; unfold wrap64; omega, Gr.new _ _⟩
theorem put_any (k : Nat) (hk : k < 4) (b : Nat) (x : In) (n : Int) (w : World) (h : BkS 56 w b (insC x)) :
    Calls Tryz.prog (putF k) #[.pointer (some ⟨b, 0, none⟩), .int .i64 n] w fun e w' => e = .returned (.tuple #[]) ∧ BkS 56 w' b (insC (putP k x (if k = 3 then n % 4294967296 else n))) ∧ TnS b w w' := by
  obtain ⟨o, a, b', c, i⟩ := x
  have d0 := h.cell 0; have d1 := h.cell 1; have d2 := h.cell 2; have d3 := h.cell 3; have d4 := h.cell 4
  have f0 := h.free 0; have f1 := h.free 1; have f2 := h.free 2; have f3 := h.free 3; have f4 := h.free 4
  simp only [List.getElem?_cons_zero, List.getElem?_cons_succ] at d0 d1 d2 d3 d4
  have HS := Lib.hid (fun i u => h.set i u)
  clear h
  match k, hk with
  | 0, _ => go_enter Tryz.func144, Tryz.ntmps144; go_wp2; go_end0; exact ⟨rfl, HS.out 1 _, TnS.setCell _ _ _ _⟩
  | 1, _ => go_enter Tryz.func146, Tryz.ntmps146; go_wp2; go_end0; exact ⟨rfl, HS.out 2 _, TnS.setCell _ _ _ _⟩
  | 2, _ => go_enter Tryz.func148, Tryz.ntmps148; go_wp2; go_end0; exact ⟨rfl, HS.out 3 _, TnS.setCell _ _ _ _⟩
  | 3, _ => go_enter Tryz.func150, Tryz.ntmps150; go_wp2; go_end0; exact ⟨rfl, HS.out 4 _, TnS.setCell _ _ _ _⟩
end Go.Proofs.YtdkgehhlikaocaaGreat
namespace Go.Proofs.YtdkgehhlikaocaaGreat
open Go Go.RowKit Go.Shelf Go.Lib

def widN : Nat → Int | 3 => 4 | _ => 1
/-- A part: what it may be (0: none), which it is. -/
abbrev Pt := Nat × Nat
def ptC (p : Pt) : List Value := [slotV p.1, .int .i64 (widN p.2), fnV (getF p.2), fnV (putF p.2)]
def flatI (l : List Pt) : List Value := l.flatMap ptC
theorem flatI_get : ∀ (l : List Pt) (i q : Nat), q < 4 → i < l.length → (flatI l)[i * 4 + q]? = (ptC (l.getD i (0, 0)))[q]?
  | [], _, _, _, h => by simp at h
  | x :: t, 0, q, hq, _ => by
    show (ptC x ++ flatI t)[0 * 4 + q]? = _
    rw [List.getElem?_append_left (by simp [ptC]; omega)]
    simp
  | x :: t, i + 1, q, hq, h => by
    show (ptC x ++ flatI t)[(i + 1) * 4 + q]? = _
    rw [List.getElem?_append_right (by simp [ptC]; omega), show (i + 1) * 4 + q - (ptC x).length = i * 4 + q by simp [ptC]; omega, flatI_get t i q hq (by simpa using h)]
    simp
def setP (l : List Value) (o : Nat) (a b c d : Value) : List Value := (((l.set o a).set (o + 1) b).set (o + 2) c).set (o + 3) d
theorem setP_left (x l : List Value) (o : Nat) (a b c d : Value) (h : x.length ≤ o) : setP (x ++ l) o a b c d = x ++ setP l (o - x.length) a b c d := by
  unfold setP
  rw [List.set_append_right _ _ h, List.set_append_right _ _ (by omega), List.set_append_right _ _ (by omega), List.set_append_right _ _ (by omega), show o + 1 - x.length = o - x.length + 1 by omega, show o + 2 - x.length = o - x.length + 2 by omega, show o + 3 - x.length = o - x.length + 3 by omega]
theorem flatI_set (p : Pt) : ∀ (l : List Pt) (i : Nat), i < l.length → setP (flatI l) (i * 4) (slotV p.1) (.int .i64 (widN p.2)) (fnV (getF p.2)) (fnV (putF p.2)) = flatI (l.set i p)
  | [], _, h => by simp at h
  | x :: t, 0, _ => rfl
  | x :: t, i + 1, h => by
    show setP (ptC x ++ flatI t) ((i + 1) * 4) _ _ _ _ = ptC x ++ flatI (t.set i p)
    rw [setP_left _ _ _ _ _ _ _ (by simp [ptC]; omega), show (i + 1) * 4 - (ptC x).length = i * 4 by simp [ptC]; omega, flatI_set p t i (by simpa using h)]
theorem BkS.setP {t : TypeId} {w : World} {b : Nat} {l : List Value} (h : BkS t w b l) (o : Nat) (x y z u : Value) : BkS t ((((w.setCell ⟨b, o, none⟩ x).setCell ⟨b, o + 1, none⟩ y).setCell ⟨b, o + 2, none⟩ z).setCell ⟨b, o + 3, none⟩ u) b (setP l o x y z u) :=
  (((h.set o x).set (o + 1) y).set (o + 2) z).set (o + 3) u

theorem fn_nil (f : FuncId) (w : World) : (binOp .eql 163 (fnV f) .nilFunc).run Tryz.prog w = .ok (.bool false) w := by kernel_rfl
theorem nil_nil (w : World) : (binOp .eql 163 .nilFunc .nilFunc).run Tryz.prog w = .ok (.bool true) w := by kernel_rfl
theorem isNil_any (p : Pt) (w : World) : Calls Tryz.prog 152 #[.agg (ptC p).toArray] w fun e w' => e = .returned (.bool (p.1 == 0)) ∧ Gr w w' := by
  obtain ⟨s, k⟩ := p
  have h1 := nil_nil
  cases s with
  | zero =>
    simp only [ptC, slotV]
    change Calls _ _ _ _ fun e w' => e = .returned (.bool true) ∧ Gr w w'
    generalize fnV (getF k) = u
    generalize fnV (putF k) = v
    go_enter Tryz.func152, Tryz.ntmps152
    go_wp2
    go_ret
    exact ⟨rfl, Gr.new _ _⟩
  | succ n =>
    simp only [ptC, slotV]
    have h2 := fn_nil (isF n)
    generalize fnV (getF k) = u
    generalize fnV (putF k) = v
    unfold fnV at h2 ⊢
    generalize isF n = f at h2 ⊢
    go_enter Tryz.func152, Tryz.ntmps152
    go_wp2
    go_ret
    exact ⟨by simp, Gr.new _ _⟩

def all4 (s : Sh) : List Pt := [(s.1, 0), (s.2.1, 1), (s.2.2.1, 2), (s.2.2.2, 3)]
def atI (s : Sh) (i : Nat) : Pt := (all4 s).getD i (0, 0)
def firstNil (s : Sh) : Int := if s.1 = 0 then 0 else if s.2.1 = 0 then 1 else if s.2.2.1 = 0 then 2 else if s.2.2.2 = 0 then 3 else -1
theorem firstNil_at {s : Sh} {k : Nat} (hk : k < 4) (h0 : ∀ j, j < k → (atI s j).1 ≠ 0) (h : (atI s k).1 = 0) : firstNil s = k := by
  have e0 : (atI s 0).1 = s.1 := rfl
  have e1 : (atI s 1).1 = s.2.1 := rfl
  have e2 : (atI s 2).1 = s.2.2.1 := rfl
  have e3 : (atI s 3).1 = s.2.2.2 := rfl
  match k, hk with
  | 0, _ => rw [e0] at h; simp [firstNil, h]
  | 1, _ => have a0 := h0 0 (by omega); rw [e0] at a0; rw [e1] at h; simp [firstNil, h, a0]
  | 2, _ => have a0 := h0 0 (by omega); have a1 := h0 1 (by omega); rw [e0] at a0; rw [e1] at a1; rw [e2] at h; simp [firstNil, h, a0, a1]
  | 3, _ => have a0 := h0 0 (by omega); have a1 := h0 1 (by omega); have a2 := h0 2 (by omega); rw [e0] at a0; rw [e1] at a1; rw [e2] at a2; rw [e3] at h; simp [firstNil, h, a0, a1, a2]
theorem firstNil_none {s : Sh} (h0 : ∀ j, j < 4 → (atI s j).1 ≠ 0) : firstNil s = -1 := by
  have a0 : s.1 ≠ 0 := h0 0 (by omega)
  have a1 : s.2.1 ≠ 0 := h0 1 (by omega)
  have a2 : s.2.2.1 ≠ 0 := h0 2 (by omega)
  have a3 : s.2.2.2 ≠ 0 := h0 3 (by omega)
  simp [firstNil, a0, a1, a2, a3]
set_option maxRecDepth 100000 in
theorem indexF_any (s : Sh) (g : Nat) (w : World) (h : BkS 174 w g (flatI (all4 s))) :
    Calls Tryz.prog 153 #[.slice (some ⟨g, 0, none⟩) 4 4, .func (.func 152) #[] #[]] w fun e w' => e = .returned (.int .i64 (firstNil s)) ∧ Gr w w' := by
  have HB := Lib.hid h
  clear h
  go_enter Tryz.func153, Tryz.ntmps153
  go_wp2_with fail
  go_loopw [8] (fun i wr => ∃ k : Nat, i = .int .i64 k ∧ k ≤ 4 ∧ Gr w wr ∧ ∀ j, j < k → (atI s j).1 ≠ 0) (fun i _ => 5 - (intOf i).toNat)
  case atStart => exact ⟨0, rfl, by omega, Gr.refl _, fun j h => by omega⟩
  case round =>
    obtain ⟨k, rfl, hk, hg, hno⟩ := hrel
    have HG := Lib.hid hg; have HNo := Lib.hid hno
    clear hg hno
    have hkI : (k : Int) ≤ 4 := by omega
    by_cases hlt : k < 4
    · have hltI : (k : Int) < 4 := by omega
      have b2 := HB.out.adds HG.out.adds
      have c : ∀ q, q < 4 → wr.cell? ⟨g, k * 4 + q, none⟩ = (ptC (atI s k))[q]? := fun q hq => (b2.cell _).trans (flatI_get _ k q hq (by simpa [all4] using hlt))
      have c0 := c 0 (by omega); have c1 := c 1 (by omega); have c2 := c 2 (by omega); have c3 := c 3 (by omega)
      have HN := Lib.hid (isNil_any (atI s k) wr)
      simp only [ptC, List.getElem?_cons_zero, List.getElem?_cons_succ, Nat.add_zero] at c0 c1 c2 c3 HN
      have HLt := Lib.hid hlt; have HK := Lib.hid hk
      clear c b2 hlt hk
      obtain ⟨x0, hx0⟩ : ∃ x, slotV (atI s k).1 = x := ⟨_, rfl⟩
      obtain ⟨x1, hx1⟩ : ∃ x, widN (atI s k).2 = x := ⟨_, rfl⟩
      obtain ⟨x2, hx2⟩ : ∃ x, fnV (getF (atI s k).2) = x := ⟨_, rfl⟩
      obtain ⟨x3, hx3⟩ : ∃ x, fnV (putF (atI s k).2) = x := ⟨_, rfl⟩
      rw [hx0, hx1, hx2, hx3] at HN
      rw [hx0] at c0; rw [hx1] at c1; rw [hx2] at c2; rw [hx3] at c3
      clear hx0 hx1 hx2 hx3
      cases hz : ((atI s k).1 == 0)
      · rw [hz] at HN
        have HZ := Lib.hid hz
        clear hz
        go_wp2_with (go_at_call 152; refine HN.out.mono ?_; rintro e w2 ⟨rfl, q⟩; have HG2 := Lib.hid (HG.out.trans q); clear q)
        go_roundw
        case rel => exact ⟨k + 1, rfl, HLt.out, HG2.out, fun j hj => by
          by_cases e : j = k
          · subst e; have := HZ.out; simpa using this
          · exact HNo.out j (by omega)⟩
        case measure => simp [intOf]; have := HLt.out; omega
      · rw [hz] at HN
        have HZ := Lib.hid hz
        clear hz
        go_wp2_with (go_at_call 152; refine HN.out.mono ?_; rintro e w2 ⟨rfl, q⟩; have HG2 := Lib.hid (HG.out.trans q); clear q)
        go_ret
        exact ⟨by rw [firstNil_at HLt.out HNo.out (by have := HZ.out; simpa using this)]; rfl, HG2.out⟩
    · obtain rfl : k = 4 := by omega
      go_wp2_with fail
      go_ret
      exact ⟨by rw [firstNil_none HNo.out]; rfl, HG.out⟩
end Go.Proofs.YtdkgehhlikaocaaGreat
namespace Go.Proofs.YtdkgehhlikaocaaGreat
open Go Go.RowKit Go.Shelf Go.Lib

def zerosP (n : Nat) : List Value := (Builtin.zeroCells (Value.agg #[.nilFunc, .int .i64 0, .nilFunc, .nilFunc]).cells n).toList
theorem zerosP_length (n : Nat) : (zerosP n).length = n * 4 := by simp [zerosP, Builtin.zeroCells, Value.cells]
theorem zerosP_one (n : Nat) : ∀ v ∈ zerosP n, v.oneCell' = true := by
  intro v hv
  simp only [zerosP, Builtin.zeroCells, Value.cells, Array.toList_map, Array.toList_range, List.mem_map] at hv
  obtain ⟨i, _, rfl⟩ := hv
  have h : i % 4 < 4 := Nat.mod_lt _ (by omega)
  show (#[Value.nilFunc, .int .i64 0, .nilFunc, .nilFunc][i % 4]!).oneCell' = true
  match i % 4, h with
  | 0, _ => rfl
  | 1, _ => rfl
  | 2, _ => rfl
  | 3, _ => rfl
theorem clear_parts (w : World) (ty : TypeId) (b o n c : Nat) (hn : 0 < n) (hc : ∀ j, j < n * 4 → (w.cell? ⟨b, o + j, none⟩).isSome = true) (hf : ∀ j, j < n * 4 → w.frozen? ⟨b, o + j, none⟩ = false) :
    (Builtin.clear_ #[169] ty #[.slice (some ⟨b, o, none⟩) n c]).run Tryz.prog w = .ok (.tuple #[]) (w.setCells b o (zerosP n)) := by
  have hst := run_storeCells_cells (P := Tryz.prog) b o (zerosP n) 0 w (by simpa [zerosP_length] using hc) (by simpa [zerosP_length] using hf) (zerosP_one n)
  simp only [Nat.add_zero] at hst
  obtain ⟨m, rfl⟩ : ∃ m, n = m + 1 := ⟨n - 1, by omega⟩
  unfold zerosP at hst ⊢
  simp [Builtin.clear_, run_underlying Tryz.underlying169, hst]
theorem BkS.cells {t : TypeId} {b : Nat} : ∀ (zs : List Value) (o : Nat) (w : World) (l : List Value), BkS t w b l → ∃ l', BkS t (w.setCells b o zs) b l' ∧ (∀ i, i < o → l'[i]? = l[i]?) ∧ TnS b w (w.setCells b o zs)
  | [], o, w, l, h => ⟨l, h, fun _ _ => rfl, TnS.refl _ _⟩
  | z :: zs, o, w, l, h => by
    obtain ⟨l', h1, h2, h3⟩ := BkS.cells zs (o + 1) (w.setCell ⟨b, o, none⟩ z) (l.set o z) (h.set o z)
    refine ⟨l', h1, fun i hi => ?_, TnS.trans (TnS.setCell _ _ _ _) h3⟩
    rw [h2 i (by omega), List.getElem?_set_ne (by omega)]

def partsOf (s : Sh) : List Pt := (all4 s).filter fun p => !(p.1 == 0)
/-- A row of parts, from a block's beginning on. -/
def RowP (w : World) (g : Nat) (ps : List Pt) : Prop := ∀ i, i < ps.length → ∀ q, q < 4 → w.cell? ⟨g, i * 4 + q, none⟩ = (ptC (ps.getD i (0, 0)))[q]?
def dI (s : Sh) : Array Pt := (all4 s).toArray
def kpI (s : Sh) (j : Nat) : Bool := !((dI s)[j]!.1 == 0)
theorem kept_parts (s : Sh) : keptUpTo (kpI s) (dI s) 4 = partsOf s := by
  have := keptUpTo_filter (fun p : Pt => !(p.1 == 0)) (dI s)
  exact this
theorem dI_at (s : Sh) (j : Nat) (hj : j < 4) : (dI s)[j]! = atI s j := by
  match j, hj with
  | 0, _ => rfl
  | 1, _ => rfl
  | 2, _ => rfl
  | 3, _ => rfl
theorem slice_lo (g : Nat) : (∀ w : World, (Instr.slice 169 (.slice (some ⟨g, 0, none⟩) 4 4) (some (.int .i64 0)) none none).run Tryz.prog w = .ok (.slice (some ⟨g, 0, none⟩) 4 4) w) ∧
    (∀ w : World, (Instr.slice 169 (.slice (some ⟨g, 0, none⟩) 4 4) (some (.int .i64 1)) none none).run Tryz.prog w = .ok (.slice (some ⟨g, 4, none⟩) 3 3) w) ∧
    (∀ w : World, (Instr.slice 169 (.slice (some ⟨g, 0, none⟩) 4 4) (some (.int .i64 2)) none none).run Tryz.prog w = .ok (.slice (some ⟨g, 8, none⟩) 2 2) w) ∧
    (∀ w : World, (Instr.slice 169 (.slice (some ⟨g, 0, none⟩) 4 4) (some (.int .i64 3)) none none).run Tryz.prog w = .ok (.slice (some ⟨g, 12, none⟩) 1 1) w) := by
  refine ⟨fun _ => ?_, fun _ => ?_, fun _ => ?_, fun _ => ?_⟩ <;> kernel_rfl
theorem adds_cell8 {w w' : World} (h : Adds w w') {b o : Nat} {v : Value} (hc : w.cell? ⟨b, o, none⟩ = some v) : w'.cell? ⟨b, o, none⟩ = some v :=
  (h.cell (p := ⟨b, o, none⟩) (World.block_lt_of_cell? w _ hc)).trans hc
theorem slot_one (n : Nat) : (slotV n).oneCell' = true := by cases n <;> rfl
theorem firstNil_cases (s : Sh) : (∃ k, k < 4 ∧ firstNil s = (k : Nat) ∧ (atI s k).1 = 0 ∧ ∀ j, j < k → (atI s j).1 ≠ 0) ∨ (firstNil s = -1 ∧ ∀ j, j < 4 → (atI s j).1 ≠ 0) := by
  by_cases h0 : (atI s 0).1 = 0
  · exact .inl ⟨0, by omega, firstNil_at (by omega) (fun j hj => by omega) h0, h0, fun j hj => by omega⟩
  by_cases h1 : (atI s 1).1 = 0
  · have a : ∀ j, j < 1 → (atI s j).1 ≠ 0 := fun j hj => by
      match j, hj with
      | 0, _ => exact h0
    exact .inl ⟨1, by omega, firstNil_at (by omega) a h1, h1, a⟩
  by_cases h2 : (atI s 2).1 = 0
  · have a : ∀ j, j < 2 → (atI s j).1 ≠ 0 := fun j hj => by
      match j, hj with
      | 0, _ => exact h0
      | 1, _ => exact h1
    exact .inl ⟨2, by omega, firstNil_at (by omega) a h2, h2, a⟩
  by_cases h3 : (atI s 3).1 = 0
  · have a : ∀ j, j < 3 → (atI s j).1 ≠ 0 := fun j hj => by
      match j, hj with
      | 0, _ => exact h0
      | 1, _ => exact h1
      | 2, _ => exact h2
    exact .inl ⟨3, by omega, firstNil_at (by omega) a h3, h3, a⟩
  have a : ∀ j, j < 4 → (atI s j).1 ≠ 0 := fun j hj => by
    match j, hj with
    | 0, _ => exact h0
    | 1, _ => exact h1
    | 2, _ => exact h2
    | 3, _ => exact h3
  exact .inr ⟨firstNil_none a, a⟩
theorem kpI_at (s : Sh) (j : Nat) (hj : j < 4) : kpI s j = !((atI s j).1 == 0) := by unfold kpI; rw [dI_at s j hj]
theorem parts_all {s : Sh} (h : ∀ j, j < 4 → (atI s j).1 ≠ 0) : partsOf s = all4 s := by
  have h0 : s.1 ≠ 0 := h 0 (by omega)
  have h1 : s.2.1 ≠ 0 := h 1 (by omega)
  have h2 : s.2.2.1 ≠ 0 := h 2 (by omega)
  have h3 : s.2.2.2 ≠ 0 := h 3 (by omega)
  simp [partsOf, all4, h0, h1, h2, h3]
theorem flat_toList (dk : Array Pt) (j q : Nat) (hj : j < dk.size) (hq : q < 4) : (flatI dk.toList)[j * 4 + q]? = (ptC dk[j]!)[q]? := by
  rw [flatI_get dk.toList j q hq (by simpa using hj)]
  congr 2
  simp [List.getD_eq_getElem?_getD, hj]
set_option maxRecDepth 100000 in
set_option maxHeartbeats 2000000 in
theorem deleteF_any (s : Sh) (g : Nat) (w : World) (h : BkS 174 w g (flatI (all4 s))) :
    Calls Tryz.prog 151 #[.slice (some ⟨g, 0, none⟩) 4 4, .func (.func 152) #[] #[]] w fun e w' => e = .returned (.slice (some ⟨g, 0, none⟩) (partsOf s).length 4) ∧ RowP w' g (partsOf s) ∧ TnS g w w' := by
  have HIx := Lib.hid (indexF_any s g w h)
  have HB := Lib.hid h
  clear h
  rcases firstNil_cases s with ⟨k0, hk0, e0, hz0, hn0⟩ | ⟨e0, hn0⟩
  · rw [e0] at HIx
    have hkI : (k0 : Int) < 4 := by omega
    have hkJ : (0 : Int) ≤ (k0 : Int) := by omega
    have hkm : ((k0 : Int) == -1) = false := beq_eq_false_iff_ne.2 (by omega)
    have HK0 := Lib.hid (And.intro hk0 (And.intro hz0 hn0))
    have HP := Lib.hid (kept_parts s)
    clear hk0 hz0 hn0 e0
    go_enter Tryz.func151, Tryz.ntmps151
    go_wp2_with (go_at_call 153; refine HIx.out.mono ?_; rintro e w2 ⟨rfl, q⟩; have HG := Lib.hid q; clear q)
    go_loopw [5, 6] (fun s5 s6 wr => ∃ (i j : Nat) (dk : Array Pt), s5 = .int .i64 i ∧ s6 = .int .i64 j ∧ j ≤ 4 ∧ Hid (BkS 174 wr g (flatI dk.toList)) ∧ Hid (KeptInv (kpI s) (dI s) j i dk) ∧ Hid (TnS g w wr)) (fun _ s6 _ => 5 - (intOf s6).toNat)
    case atStart => exact ⟨k0, k0 + 1, dI s, rfl, by go_num, by have := HK0.out.1; omega, Lib.hid (HB.out.adds HG.out.adds), Lib.hid (KeptInv.start (fun j hj => by rw [kpI_at s j (by have := HK0.out.1; omega)]; simpa using HK0.out.2.2 j hj) (by rw [kpI_at s k0 HK0.out.1]; simpa using HK0.out.2.1)), Lib.hid (TnS.of_adds g HG.out.adds)⟩
    case round =>
      obtain ⟨i, j, dk, rfl, rfl, hj, HBk, HKp, HT⟩ := hrel
      have hij := HKp.out.lt
      have hjI : (j : Int) ≤ 4 := by omega
      have hiI : (i : Int) < (j : Int) := by omega
      have HDs := Lib.hid (show dk.size = 4 from HKp.out.size)
      by_cases hlt : j < 4
      · have hltI : (j : Int) < 4 := by omega
        have c : ∀ q, q < 4 → wr.cell? ⟨g, j * 4 + q, none⟩ = (ptC (atI s j))[q]? := fun q hq => by
          rw [HBk.out.cell, flat_toList dk j q (by rw [HDs.out]; exact hlt) hq, HKp.out.high j (Nat.le_of_lt hij), dI_at s j hlt]
        have d : ∀ q, q < 4 → wr.cell? ⟨g, i * 4 + q, none⟩ = (ptC dk[i]!)[q]? := fun q hq => by
          rw [HBk.out.cell, flat_toList dk i q (by rw [HDs.out]; omega) hq]
        have c0 := c 0 (by omega); have c1 := c 1 (by omega); have c2 := c 2 (by omega); have c3 := c 3 (by omega)
        have d0 := d 0 (by omega); have d1 := d 1 (by omega); have d2 := d 2 (by omega); have d3 := d 3 (by omega)
        have f : ∀ q, wr.frozen? ⟨g, q, none⟩ = false := fun q => HBk.out.free q
        have HN := Lib.hid (fun W => isNil_any (atI s j) W)
        have HKj := Lib.hid (kpI_at s j hlt)
        have HSt := Lib.hid (show setP (flatI dk.toList) (i * 4) (slotV (atI s j).1) (.int .i64 (widN (atI s j).2)) (fnV (getF (atI s j).2)) (fnV (putF (atI s j).2)) = flatI (dk.setIfInBounds i (dI s)[j]!).toList by
          rw [dI_at s j hlt, flatI_set (atI s j) dk.toList i (by rw [Array.length_toList, HDs.out]; omega), Array.toList_setIfInBounds])
        simp only [ptC, List.getElem?_cons_zero, List.getElem?_cons_succ, Nat.add_zero] at c0 c1 c2 c3 d0 d1 d2 d3 HN
        have HLt := Lib.hid hlt; have HIJ := Lib.hid hij
        clear c d hlt hij hj
        obtain ⟨x0, hx0⟩ : ∃ x, slotV (atI s j).1 = x := ⟨_, rfl⟩
        obtain ⟨x1, hx1⟩ : ∃ x, widN (atI s j).2 = x := ⟨_, rfl⟩
        obtain ⟨x2, hx2⟩ : ∃ x, fnV (getF (atI s j).2) = x := ⟨_, rfl⟩
        obtain ⟨x3, hx3⟩ : ∃ x, fnV (putF (atI s j).2) = x := ⟨_, rfl⟩
        rw [hx0, hx1, hx2, hx3] at HSt
        rw [hx0] at c0; rw [hx1] at c1; rw [hx2] at c2; rw [hx3] at c3
        simp only [hx0, hx1, hx2, hx3] at HN
        have hs0 : ∀ (a : Addr) (m : Mode) (w : World), (store a x0 m).run Tryz.prog w = stored Tryz.prog w a x0 m := fun a m w => run_store _ w a x0 m (hx0 ▸ slot_one _)
        have hs2 : ∀ (a : Addr) (m : Mode) (w : World), (store a x2 m).run Tryz.prog w = stored Tryz.prog w a x2 m := fun a m w => run_store _ w a x2 m (hx2 ▸ rfl)
        have hs3 : ∀ (a : Addr) (m : Mode) (w : World), (store a x3 m).run Tryz.prog w = stored Tryz.prog w a x3 m := fun a m w => run_store _ w a x3 m (hx3 ▸ rfl)
        clear hx0 hx1 hx2 hx3
        obtain ⟨y0, hy0⟩ : ∃ x, slotV dk[i]!.1 = x := ⟨_, rfl⟩
        obtain ⟨y1, hy1⟩ : ∃ x, Value.int .i64 (widN dk[i]!.2) = x := ⟨_, rfl⟩
        obtain ⟨y2, hy2⟩ : ∃ x, fnV (getF dk[i]!.2) = x := ⟨_, rfl⟩
        obtain ⟨y3, hy3⟩ : ∃ x, fnV (putF dk[i]!.2) = x := ⟨_, rfl⟩
        rw [hy0] at d0; rw [hy1] at d1; rw [hy2] at d2; rw [hy3] at d3
        clear hy0 hy1 hy2 hy3
        cases hz : ((atI s j).1 == 0)
        · rw [hz] at HKj
          simp only [hz] at HN
          clear hz
          go_wp2_with (go_at_call 152; refine (HN.out _).mono ?_; rintro e w3 ⟨rfl, q⟩; have q2 := (Gr.new wr _).trans q; have b0 := adds_cell8 q2.adds d0; have b1 := adds_cell8 q2.adds d1; have b2 := adds_cell8 q2.adds d2; have b3 := adds_cell8 q2.adds d3; have bn := (BkS.new 174 wr [x0, .int .i64 x1, x2, x3]).adds q.adds; have e0 : w3.cell? ⟨wr.heap.size, 0, none⟩ = some x0 := bn.cell 0; have e1 : w3.cell? ⟨wr.heap.size, 1, none⟩ = some (.int .i64 x1) := bn.cell 1; have e2 : w3.cell? ⟨wr.heap.size, 2, none⟩ = some x2 := bn.cell 2; have e3 : w3.cell? ⟨wr.heap.size, 3, none⟩ = some x3 := bn.cell 3; have HB3 := Lib.hid (HBk.out.adds q2.adds); have f3 := fun x => HB3.out.free x; have HT3 := Lib.hid (HT.out.trans (TnS.of_adds g q2.adds)); clear q q2 bn)
          go_roundw
          case rel => exact ⟨i + 1, j + 1, dk.setIfInBounds i (dI s)[j]!, by go_num, by go_num, by have := HLt.out; omega, Lib.hid (by rw [← HSt.out]; exact HB3.out.setP _ _ _ _ _), Lib.hid (HKp.out.keep (by have := HLt.out; exact this) HKj.out), Lib.hid (HT3.out.trans ((((TnS.setCell _ _ _ _).trans (TnS.setCell _ _ _ _)).trans (TnS.setCell _ _ _ _)).trans (TnS.setCell _ _ _ _)))⟩
          case measure => simp [intOf]; have := HLt.out; omega
        · rw [hz] at HKj
          simp only [hz] at HN
          clear hz
          go_wp2_with (go_at_call 152; refine (HN.out _).mono ?_; rintro e w3 ⟨rfl, q⟩; have q2 := (Gr.new wr _).trans q; have HB3 := Lib.hid (HBk.out.adds q2.adds); have HT3 := Lib.hid (HT.out.trans (TnS.of_adds g q2.adds)); clear q q2)
          go_roundw
          case rel => exact ⟨i, j + 1, dk, rfl, by go_num, by have := HLt.out; omega, HB3, Lib.hid (HKp.out.skip HKj.out), HT3⟩
          case measure => simp [intOf]; have := HLt.out; omega
      · obtain rfl : j = 4 := by omega
        have HLen := Lib.hid (show (partsOf s).length = i by rw [← HP.out]; exact HKp.out.len)
        have HRow := Lib.hid (show ∀ W l', BkS 174 W g l' → (∀ x, x < i * 4 → l'[x]? = (flatI dk.toList)[x]?) → RowP W g (partsOf s) from fun W l' h1 h2 a ha q hq => by
          rw [HLen.out] at ha
          rw [h1.cell, h2 _ (by omega), flat_toList dk a q (by rw [HDs.out]; omega) hq]
          have := HKp.out.low a ha
          rw [HP.out] at this
          simp [List.getD_eq_getElem?_getD, this])
        obtain ⟨s0, s1, s2, s3⟩ := slice_lo g
        have f : ∀ q, wr.frozen? ⟨g, q, none⟩ = false := fun q => HBk.out.free q
        have cs : ∀ q, q < 16 → (wr.cell? ⟨g, q, none⟩).isSome = true := fun q hq => by
          have h1 := HBk.out.cell q
          rw [h1]
          have h2 : (flatI dk.toList).length = 16 := by
            have : ∀ l : List Pt, (flatI l).length = l.length * 4 := fun l => by
              induction l with
              | nil => rfl
              | cons x t ih => show (ptC x ++ flatI t).length = _; rw [List.length_append, ih]; simp [ptC]; omega
            rw [this, Array.length_toList, HDs.out]
          simp [h2, hq]
        have hcl : ∀ (ty : TypeId) (o n c : Nat), 0 < n → o + n * 4 ≤ 16 → (Builtin.clear_ #[169] ty #[.slice (some ⟨g, o, none⟩) n c]).run Tryz.prog wr = .ok (.tuple #[]) (wr.setCells g o (zerosP n)) := fun ty o n c hn ho => clear_parts wr ty g o n c hn (fun j hj => cs _ (by omega)) (fun j _ => f _)
        have k0 := fun ty => hcl ty 0 4 4 (by omega) (by omega)
        have k1 := fun ty => hcl ty 4 3 3 (by omega) (by omega)
        have k2 := fun ty => hcl ty 8 2 2 (by omega) (by omega)
        have k3 := fun ty => hcl ty 12 1 1 (by omega) (by omega)
        clear hcl cs f hlt
        have hi4 : i < 4 := hij
        clear hij
        match i, hi4 with
        | 0, _ =>
          obtain ⟨l', h1, h2, h3⟩ := BkS.cells (zerosP 4) 0 wr _ HBk.out
          have HF := Lib.hid (And.intro (HRow.out _ l' h1 (fun x hx => h2 x (by omega))) (HT.out.trans h3))
          clear h1 h2 h3
          go_wp2_with fail
          go_ret
          exact ⟨by rw [HLen.out]; rfl, HF.out.1, HF.out.2⟩
        | 1, _ =>
          obtain ⟨l', h1, h2, h3⟩ := BkS.cells (zerosP 3) 4 wr _ HBk.out
          have HF := Lib.hid (And.intro (HRow.out _ l' h1 (fun x hx => h2 x (by omega))) (HT.out.trans h3))
          clear h1 h2 h3
          go_wp2_with fail
          go_ret
          exact ⟨by rw [HLen.out]; rfl, HF.out.1, HF.out.2⟩
        | 2, _ =>
          obtain ⟨l', h1, h2, h3⟩ := BkS.cells (zerosP 2) 8 wr _ HBk.out
          have HF := Lib.hid (And.intro (HRow.out _ l' h1 (fun x hx => h2 x (by omega))) (HT.out.trans h3))
          clear h1 h2 h3
          go_wp2_with fail
          go_ret
          exact ⟨by rw [HLen.out]; rfl, HF.out.1, HF.out.2⟩
        | 3, _ =>
          obtain ⟨l', h1, h2, h3⟩ := BkS.cells (zerosP 1) 12 wr _ HBk.out
          have HF := Lib.hid (And.intro (HRow.out _ l' h1 (fun x hx => h2 x (by omega))) (HT.out.trans h3))
          clear h1 h2 h3
          go_wp2_with fail
          go_ret
          exact ⟨by rw [HLen.out]; rfl, HF.out.1, HF.out.2⟩
  · rw [e0] at HIx
    go_enter Tryz.func151, Tryz.ntmps151
    go_wp2_with (go_at_call 153; refine HIx.out.mono ?_; rintro e w2 ⟨rfl, q⟩; have HG := Lib.hid q; clear q)
    go_ret
    rw [parts_all hn0]
    exact ⟨rfl, fun i hi q hq => (HB.out.adds HG.out.adds).cell _ |>.trans (flatI_get _ i q hq hi), TnS.of_adds g HG.out.adds⟩
end Go.Proofs.YtdkgehhlikaocaaGreat
