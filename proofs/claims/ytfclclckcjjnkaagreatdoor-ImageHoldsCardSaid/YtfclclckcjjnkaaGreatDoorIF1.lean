/- What a number of an instruction may be; how one is got and put: contracts. -/
import Derived.Test.YtfclclckcjjnkaaGreatDoorIMap
import Derived.Test.YtfclclckcjjnkaaGreatDoorBE
namespace Go.Proofs.YtfclclckcjjnkaaGreatDoor
open Go Go.RowKit Go.Shelf

abbrev insC (x : In) : List Value := [.int .i64 x.1, .int .i64 x.2.1, .int .i64 x.2.2.1, .int .i64 x.2.2.2.1, .int .u32 x.2.2.2.2]
abbrev insV (x : In) : Value := .agg (insC x).toArray
/-- What may be: the least, the most, the mark of a text, whether the text leaves it out. -/
abbrev numV8 (lo hi : Int) (m : List UInt8) (u : Bool) : Value := .agg #[.int .i64 lo, .int .i64 hi, .string ⟨m.toArray⟩, .bool u]
def markN : Nat → List UInt8 | 0 => [114] | 5 => [102] | _ => []
theorem heap_new1 (w : World) (o o' : Obj) : ((w.alloc o).alloc o').heap[w.heap.size + 1]? = some o' := by have := heap_new (w.alloc o) o'; simpa using this
/-- The kinds of numbers. -/
theorem register_any (x : In) (w : World) : Calls Tryz.prog 188 #[insV x] w fun e w' => e = .returned (numV8 0 15 [114] false) ∧ Gr w w' := by
  obtain ⟨o, a, b, c, i⟩ := x
  go_enter Tryz.func188, Tryz.ntmps188
  go_wp2
  refine bodyPost_ret (res_box rfl _ _ _ _ _ _ _ rfl (heap_new1 _ _ _) Tryz.underlying273 rfl (by kernel_rfl)) rfl ?_
  exact ⟨rfl, (Gr.new _ _).alloc _⟩
theorem word_any (x : In) (w : World) : Calls Tryz.prog 189 #[insV x] w fun e w' => e = .returned (numV8 0 4294967295 [] false) ∧ Gr w w' := by
  obtain ⟨o, a, b, c, i⟩ := x
  go_enter Tryz.func189, Tryz.ntmps189
  go_wp2
  refine bodyPost_ret (res_box rfl _ _ _ _ _ _ _ rfl (heap_new1 _ _ _) Tryz.underlying273 rfl (by kernel_rfl)) rfl ?_
  exact ⟨rfl, (Gr.new _ _).alloc _⟩
theorem kind_any (x : In) (w : World) : Calls Tryz.prog 190 #[insV x] w fun e w' => e = .returned (numV8 1 12 [] true) ∧ Gr w w' := by
  obtain ⟨o, a, b, c, i⟩ := x
  go_enter Tryz.func190, Tryz.ntmps190
  go_wp2
  refine bodyPost_ret (res_box rfl _ _ _ _ _ _ _ rfl (heap_new1 _ _ _) Tryz.underlying273 rfl (by kernel_rfl)) rfl ?_
  exact ⟨rfl, (Gr.new _ _).alloc _⟩
theorem place_any (x : In) (w : World) : Calls Tryz.prog 191 #[insV x] w fun e w' => e = .returned (numV8 0 511 [] false) ∧ Gr w w' := by
  obtain ⟨o, a, b, c, i⟩ := x
  go_enter Tryz.func191, Tryz.ntmps191
  go_wp2
  refine bodyPost_ret (res_box rfl _ _ _ _ _ _ _ rfl (heap_new1 _ _ _) Tryz.underlying273 rfl (by kernel_rfl)) rfl ?_
  exact ⟨rfl, (Gr.new _ _).alloc _⟩
theorem function_any (x : In) (w : World) : Calls Tryz.prog 193 #[insV x] w fun e w' => e = .returned (numV8 0 31 [102] false) ∧ Gr w w' := by
  obtain ⟨o, a, b, c, i⟩ := x
  go_enter Tryz.func193, Tryz.ntmps193
  go_wp2
  refine bodyPost_ret (res_box rfl _ _ _ _ _ _ _ rfl (heap_new1 _ _ _) Tryz.underlying273 rfl (by kernel_rfl)) rfl ?_
  exact ⟨rfl, (Gr.new _ _).alloc _⟩
theorem handed_any (x : In) (h0 : -1000000000000 ≤ getP 1 x) (h1 : getP 1 x ≤ 1000000000000) (w : World) : Calls Tryz.prog 192 #[insV x] w fun e w' => e = .returned (numV8 0 (16 - getP 1 x) [] false) ∧ Gr w w' := by
  obtain ⟨o, a, b, c, i⟩ := x
  simp only [getP] at h0 h1 ⊢
  go_enter Tryz.func192, Tryz.ntmps192
  go_wp2
  refine bodyPost_ret (res_box rfl _ _ _ _ _ _ _ rfl (heap_new1 _ _ _) Tryz.underlying273 rfl (by kernel_rfl)) rfl ?_
  exact ⟨by simp, (Gr.new _ _).alloc _⟩
theorem is_any (n : Nat) (hn : n < 6) (x : In) (h0 : n = 1 → -1000000000000 ≤ getP 1 x ∧ getP 1 x ≤ 1000000000000) (w : World) :
    Calls Tryz.prog (isF n) #[insV x] w fun e w' => e = .returned (numV8 (loN n) (hiN n x) (markN n) (n == 3)) ∧ Gr w w' := by
  match n, hn with
  | 0, _ => exact register_any x w
  | 1, _ => exact handed_any x (h0 rfl).1 (h0 rfl).2 w
  | 2, _ => exact word_any x w
  | 3, _ => exact kind_any x w
  | 4, _ => exact place_any x w
  | 5, _ => exact function_any x w

def getF : Nat → FuncId | 0 => 195 | 1 => 197 | 2 => 199 | _ => 201
def putF : Nat → FuncId | 0 => 196 | 1 => 198 | 2 => 200 | _ => 202
theorem get_any (k : Nat) (hk : k < 4) (x : In) (hi : 0 ≤ x.2.2.2.2) (hj : x.2.2.2.2 < 4294967296) (w : World) :
    Calls Tryz.prog (getF k) #[insV x] w fun e w' => e = .returned (.int .i64 (getP k x)) ∧ Gr w w' := by
  obtain ⟨o, a, b, c, i⟩ := x
  match k, hk with
  | 0, _ => go_enter Tryz.func195, Tryz.ntmps195; go_wp2; go_ret; exact ⟨rfl, Gr.new _ _⟩
  | 1, _ => go_enter Tryz.func197, Tryz.ntmps197; go_wp2; go_ret; exact ⟨rfl, Gr.new _ _⟩
  | 2, _ => go_enter Tryz.func199, Tryz.ntmps199; go_wp2; go_ret; exact ⟨rfl, Gr.new _ _⟩
  | 3, _ => go_enter Tryz.func201, Tryz.ntmps201; go_wp2; go_ret; exact ⟨by simp [getP]; unfold wrap64; omega, Gr.new _ _⟩
/-- What is put: a number of 64 bits, or 32. -/
def putV (k : Nat) (n : Int) : Value := if k = 3 then .int .u32 (n % 4294967296) else .int .i64 n
theorem put_any (k : Nat) (hk : k < 4) (b : Nat) (x : In) (n : Int) (w : World) (h : BkS 82 w b (insC x)) :
    Calls Tryz.prog (putF k) #[.pointer (some ⟨b, 0, none⟩), .int .i64 n] w fun e w' => e = .returned (.tuple #[]) ∧ BkS 82 w' b (insC (putP k x (if k = 3 then n % 4294967296 else n))) ∧ TnS b w w' := by
  obtain ⟨o, a, b', c, i⟩ := x
  have d0 := h.cell 0; have d1 := h.cell 1; have d2 := h.cell 2; have d3 := h.cell 3; have d4 := h.cell 4
  have f0 := h.free 0; have f1 := h.free 1; have f2 := h.free 2; have f3 := h.free 3; have f4 := h.free 4
  simp only [List.getElem?_cons_zero, List.getElem?_cons_succ] at d0 d1 d2 d3 d4
  have HS := Lib.hid (fun i u => h.set i u)
  clear h
  match k, hk with
  | 0, _ => go_enter Tryz.func196, Tryz.ntmps196; go_wp2; go_end0; exact ⟨rfl, HS.out 1 _, TnS.setCell _ _ _ _⟩
  | 1, _ => go_enter Tryz.func198, Tryz.ntmps198; go_wp2; go_end0; exact ⟨rfl, HS.out 2 _, TnS.setCell _ _ _ _⟩
  | 2, _ => go_enter Tryz.func200, Tryz.ntmps200; go_wp2; go_end0; exact ⟨rfl, HS.out 3 _, TnS.setCell _ _ _ _⟩
  | 3, _ => go_enter Tryz.func202, Tryz.ntmps202; go_wp2; go_end0; exact ⟨rfl, HS.out 4 _, TnS.setCell _ _ _ _⟩
end Go.Proofs.YtfclclckcjjnkaaGreatDoor
