/- The parts of events: how one is made, got, put, asked for, told: contracts. -/
import Derived.Lib.SlKept
import Derived.Test.YtbinmgpfkjmijaaGreatDoorEvPl
import Derived.Test.YtbinmgpfkjmijaaGreatDoorSMem
import Derived.Test.YtbinmgpfkjmijaaGreatDoorSLib
namespace Go.Proofs.YtbinmgpfkjmijaaGreatDoor
open Go Go.RowKit Go.Shelf

abbrev evC (x : Ev) : List Value := [.int .i64 x.g, .int .i64 x.k, .int .i64 x.f, .int .i64 x.p, .int .u32 x.a, .int .i64 x.c, .int .i64 x.o, .int .i64 x.n, .int .i64 x.t]
abbrev evV (x : Ev) : Value := .agg (evC x).toArray
/-- An event's numbers, as its type has them. -/
structure OkE (x : Ev) : Prop where
  kin : (Lit.int .i64 x.k).wf = true
  adr : 0 ≤ x.a ∧ x.a < 4294967296
theorem heap_new1 (w : World) (o o' : Obj) : ((w.alloc o).alloc o').heap[w.heap.size + 1]? = some o' := by have := heap_new (w.alloc o) o'; simpa using this
def fnE (f : FuncId) : Value := .func (.func f) #[] #[]
def partF : Nat → FuncId
  | 0 => 35
  | 1 => 87
  | 2 => 89
  | 3 => 88
  | 4 => 90
  | _ => 91
def getF : Nat → FuncId
  | 0 => 66
  | 1 => 109
  | 2 => 115
  | 3 => 112
  | 4 => 118
  | _ => 121
def putF : Nat → FuncId
  | 0 => 67
  | 1 => 110
  | 2 => 116
  | 3 => 113
  | 4 => 119
  | _ => 122
def mayF : Nat → FuncId
  | 0 => 68
  | 1 => 111
  | 2 => 117
  | 3 => 114
  | 4 => 120
  | _ => 123
def wordF : Nat → FuncId
  | 5 => 124
  | _ => 69
/-- The values of a part. -/
def ptE (p : Nat) : List Value := [.int .i64 (widE p), fnE (getF p), fnE (putF p), fnE (mayF p), fnE (wordF p)]
def ptV (p : Nat) : Value := .agg (ptE p).toArray
theorem mk_goroutine (w : World) : Calls Tryz.prog 35 #[] w fun e w' => e = .returned (ptV 0) ∧ Gr w w' := by
  go_enter Tryz.func35, Tryz.ntmps35
  go_wp2
  refine bodyPost_ret (res_box rfl _ _ _ _ _ _ _ rfl (heap_new _ _) Tryz.underlying70 rfl (by kernel_rfl)) rfl ?_
  exact ⟨rfl, Gr.new _ _⟩
theorem mk_address (w : World) : Calls Tryz.prog 87 #[] w fun e w' => e = .returned (ptV 1) ∧ Gr w w' := by
  go_enter Tryz.func87, Tryz.ntmps87
  go_wp2
  refine bodyPost_ret (res_box rfl _ _ _ _ _ _ _ rfl (heap_new _ _) Tryz.underlying70 rfl (by kernel_rfl)) rfl ?_
  exact ⟨rfl, Gr.new _ _⟩
theorem mk_child (w : World) : Calls Tryz.prog 89 #[] w fun e w' => e = .returned (ptV 2) ∧ Gr w w' := by
  go_enter Tryz.func89, Tryz.ntmps89
  go_wp2
  refine bodyPost_ret (res_box rfl _ _ _ _ _ _ _ rfl (heap_new _ _) Tryz.underlying70 rfl (by kernel_rfl)) rfl ?_
  exact ⟨rfl, Gr.new _ _⟩
theorem mk_object (w : World) : Calls Tryz.prog 88 #[] w fun e w' => e = .returned (ptV 3) ∧ Gr w w' := by
  go_enter Tryz.func88, Tryz.ntmps88
  go_wp2
  refine bodyPost_ret (res_box rfl _ _ _ _ _ _ _ rfl (heap_new _ _) Tryz.underlying70 rfl (by kernel_rfl)) rfl ?_
  exact ⟨rfl, Gr.new _ _⟩
theorem mk_counted (w : World) : Calls Tryz.prog 90 #[] w fun e w' => e = .returned (ptV 4) ∧ Gr w w' := by
  go_enter Tryz.func90, Tryz.ntmps90
  go_wp2
  refine bodyPost_ret (res_box rfl _ _ _ _ _ _ _ rfl (heap_new _ _) Tryz.underlying70 rfl (by kernel_rfl)) rfl ?_
  exact ⟨rfl, Gr.new _ _⟩
theorem mk_trap (w : World) : Calls Tryz.prog 91 #[] w fun e w' => e = .returned (ptV 5) ∧ Gr w w' := by
  go_enter Tryz.func91, Tryz.ntmps91
  go_wp2
  refine bodyPost_ret (res_box rfl _ _ _ _ _ _ _ rfl (heap_new _ _) Tryz.underlying70 rfl (by kernel_rfl)) rfl ?_
  exact ⟨rfl, Gr.new _ _⟩
theorem mkPart_any (p : Nat) (hp : p < 6) (w : World) : Calls Tryz.prog (partF p) #[] w fun e w' => e = .returned (ptV p) ∧ Gr w w' := by
  match p, hp with
  | 0, _ => exact mk_goroutine w
  | 1, _ => exact mk_address w
  | 2, _ => exact mk_child w
  | 3, _ => exact mk_object w
  | 4, _ => exact mk_counted w
  | 5, _ => exact mk_trap w
theorem getQ_any (p : Nat) (hp : p < 6) (x : Ev) (hx : OkE x) (w : World) : Calls Tryz.prog (getF p) #[evV x] w fun e w' => e = .returned (.int .i64 (getE p x)) ∧ Gr w w' := by
  have h0 := hx.adr.1
  have h1 := hx.adr.2
  clear hx
  obtain ⟨g, k, f, pc, a, c, o, n, t⟩ := x
  simp only at h0 h1
  match p, hp with
  | 0, _ => go_enter Tryz.func66, Tryz.ntmps66; go_wp2; go_ret; exact ⟨rfl, Gr.new _ _⟩
  | 1, _ => go_enter Tryz.func109, Tryz.ntmps109; go_wp2; go_ret; exact ⟨rfl, Gr.new _ _⟩
  | 2, _ => go_enter Tryz.func115, Tryz.ntmps115; go_wp2; go_ret; exact ⟨rfl, Gr.new _ _⟩
  | 3, _ => go_enter Tryz.func112, Tryz.ntmps112; go_wp2; go_ret; exact ⟨rfl, Gr.new _ _⟩
  | 4, _ => go_enter Tryz.func118, Tryz.ntmps118; go_wp2; go_ret; exact ⟨rfl, Gr.new _ _⟩
  | 5, _ => go_enter Tryz.func121, Tryz.ntmps121; go_wp2; go_ret; exact ⟨rfl, Gr.new _ _⟩
theorem wrap_32 (v : Int) : wrap64 (wrap32 v) = sgn32 v := by unfold wrap64 wrap32 sgn32; omega
theorem putQ_any (p : Nat) (hp : p < 6) (b : Nat) (x : Ev) (v : Int) (w : World) (h : BkS 28 w b (evC x)) :
    Calls Tryz.prog (putF p) #[.pointer (some ⟨b, 0, none⟩), .int .i64 v] w fun e w' => e = .returned (.tuple #[]) ∧ BkS 28 w' b (evC (putE p x v)) ∧ TnS b w w' := by
  obtain ⟨g, k, f, pc, a, c, o, n, t⟩ := x
  have d0 := h.cell 0
  have d1 := h.cell 1
  have d2 := h.cell 2
  have d3 := h.cell 3
  have d4 := h.cell 4
  have d5 := h.cell 5
  have d6 := h.cell 6
  have d7 := h.cell 7
  have d8 := h.cell 8
  have f0 := h.free 0
  have f1 := h.free 1
  have f2 := h.free 2
  have f3 := h.free 3
  have f4 := h.free 4
  have f5 := h.free 5
  have f6 := h.free 6
  have f7 := h.free 7
  have f8 := h.free 8
  simp only [List.getElem?_cons_zero, List.getElem?_cons_succ] at d0 d1 d2 d3 d4 d5 d6 d7 d8
  have HS := Lib.hid (fun i u => h.set i u)
  clear h
  match p, hp with
  | 0, _ =>
    go_enter Tryz.func67, Tryz.ntmps67
    go_wp2
    go_end0
    exact ⟨rfl, HS.out 0 _, TnS.setCell _ _ _ _⟩
  | 1, _ =>
    go_enter Tryz.func110, Tryz.ntmps110
    go_wp2
    go_end0
    exact ⟨rfl, HS.out 4 _, TnS.setCell _ _ _ _⟩
  | 2, _ =>
    go_enter Tryz.func116, Tryz.ntmps116
    go_wp2
    go_end0
    exact ⟨rfl, HS.out 5 _, TnS.setCell _ _ _ _⟩
  | 3, _ =>
    go_enter Tryz.func113, Tryz.ntmps113
    go_wp2
    go_end0
    exact ⟨rfl, HS.out 6 _, TnS.setCell _ _ _ _⟩
  | 4, _ =>
    go_enter Tryz.func119, Tryz.ntmps119
    go_wp2
    go_end0
    exact ⟨rfl, by have q := HS.out 7 (.int .i64 (wrap64 (wrap32 v))); rw [wrap_32 v] at q ⊢; exact q, TnS.setCell _ _ _ _⟩
  | 5, _ =>
    go_enter Tryz.func122, Tryz.ntmps122
    go_wp2
    go_end0
    exact ⟨rfl, HS.out 8 _, TnS.setCell _ _ _ _⟩
theorem may_goroutine (x : Ev) (w : World) : Calls Tryz.prog 68 #[evV x] w fun e w' => e = .returned (.bool (mayQ 0 x)) ∧ Gr w w' := by
  obtain ⟨g, k, f, pc, a, c, o, n, t⟩ := x
  by_cases h0 : 0 ≤ g
  · by_cases h1 : g ≤ 65535
    · simp only [mayQ]
      rw [decide_eq_true ⟨h0, h1⟩]
      go_enter Tryz.func68, Tryz.ntmps68; go_wp2; go_ret; exact ⟨rfl, Gr.new _ _⟩
    · simp only [mayQ]
      rw [decide_eq_false (fun h => h1 h.2)]
      go_enter Tryz.func68, Tryz.ntmps68; go_wp2; go_ret; exact ⟨rfl, Gr.new _ _⟩
  · simp only [mayQ]
    rw [decide_eq_false (fun h => h0 h.1)]
    go_enter Tryz.func68, Tryz.ntmps68; go_wp2; go_ret; exact ⟨rfl, Gr.new _ _⟩
theorem may_address (x : Ev) (w : World) : Calls Tryz.prog 111 #[evV x] w fun e w' => e = .returned (.bool (mayQ 1 x)) ∧ Gr w w' := by
  obtain ⟨g, k, f, pc, a, c, o, n, t⟩ := x
  go_enter Tryz.func111, Tryz.ntmps111; go_wp2; go_ret; exact ⟨rfl, by first | exact Gr.new _ _ | exact Gr.refl _⟩
theorem may_child (x : Ev) (w : World) : Calls Tryz.prog 117 #[evV x] w fun e w' => e = .returned (.bool (mayQ 2 x)) ∧ Gr w w' := by
  obtain ⟨g, k, f, pc, a, c, o, n, t⟩ := x
  by_cases h0 : 1 ≤ c
  · by_cases h1 : c ≤ 65535
    · by_cases h2 : c ≠ g
      · simp only [mayQ]
        rw [decide_eq_true ⟨h0, h1, h2⟩]
        go_enter Tryz.func117, Tryz.ntmps117; go_wp2; go_ret; exact ⟨by show Ending.returned (.bool (c != g)) = _; rw [bne_iff_ne.2 h2], Gr.new _ _⟩
      · simp only [mayQ]
        rw [decide_eq_false (fun h => h2 h.2.2)]
        go_enter Tryz.func117, Tryz.ntmps117; go_wp2; go_ret; exact ⟨by show Ending.returned (.bool (c != g)) = _; rw [show (c != g) = false by simpa using h2], Gr.new _ _⟩
    · simp only [mayQ]
      rw [decide_eq_false (fun h => h1 h.2.1)]
      go_enter Tryz.func117, Tryz.ntmps117; go_wp2; go_ret; exact ⟨rfl, Gr.new _ _⟩
  · simp only [mayQ]
    rw [decide_eq_false (fun h => h0 h.1)]
    go_enter Tryz.func117, Tryz.ntmps117; go_wp2; go_ret; exact ⟨rfl, Gr.new _ _⟩
theorem may_object (x : Ev) (w : World) : Calls Tryz.prog 114 #[evV x] w fun e w' => e = .returned (.bool (mayQ 3 x)) ∧ Gr w w' := by
  obtain ⟨g, k, f, pc, a, c, o, n, t⟩ := x
  by_cases h0 : 0 ≤ o
  · by_cases h1 : o < 64
    · simp only [mayQ]
      rw [decide_eq_true ⟨h0, h1⟩]
      go_enter Tryz.func114, Tryz.ntmps114; go_wp2; go_ret; exact ⟨rfl, Gr.new _ _⟩
    · simp only [mayQ]
      rw [decide_eq_false (fun h => h1 h.2)]
      go_enter Tryz.func114, Tryz.ntmps114; go_wp2; go_ret; exact ⟨rfl, Gr.new _ _⟩
  · simp only [mayQ]
    rw [decide_eq_false (fun h => h0 h.1)]
    go_enter Tryz.func114, Tryz.ntmps114; go_wp2; go_ret; exact ⟨rfl, Gr.new _ _⟩
theorem may_counted (x : Ev) (w : World) : Calls Tryz.prog 120 #[evV x] w fun e w' => e = .returned (.bool (mayQ 4 x)) ∧ Gr w w' := by
  obtain ⟨g, k, f, pc, a, c, o, n, t⟩ := x
  by_cases h0 : -2147483648 ≤ n
  · by_cases h1 : n ≤ 2147483647
    · simp only [mayQ]
      rw [decide_eq_true ⟨h0, h1⟩]
      go_enter Tryz.func120, Tryz.ntmps120; go_wp2; go_ret; exact ⟨rfl, Gr.new _ _⟩
    · simp only [mayQ]
      rw [decide_eq_false (fun h => h1 h.2)]
      go_enter Tryz.func120, Tryz.ntmps120; go_wp2; go_ret; exact ⟨rfl, Gr.new _ _⟩
  · simp only [mayQ]
    rw [decide_eq_false (fun h => h0 h.1)]
    go_enter Tryz.func120, Tryz.ntmps120; go_wp2; go_ret; exact ⟨rfl, Gr.new _ _⟩
theorem may_trap (x : Ev) (w : World) : Calls Tryz.prog 123 #[evV x] w fun e w' => e = .returned (.bool (mayQ 5 x)) ∧ Gr w w' := by
  obtain ⟨g, k, f, pc, a, c, o, n, t⟩ := x
  by_cases h0 : 1 ≤ t
  · by_cases h1 : t ≤ 6
    · simp only [mayQ]
      rw [decide_eq_true ⟨h0, h1⟩]
      go_enter Tryz.func123, Tryz.ntmps123; go_wp2; go_ret; exact ⟨rfl, Gr.new _ _⟩
    · simp only [mayQ]
      rw [decide_eq_false (fun h => h1 h.2)]
      go_enter Tryz.func123, Tryz.ntmps123; go_wp2; go_ret; exact ⟨rfl, Gr.new _ _⟩
  · simp only [mayQ]
    rw [decide_eq_false (fun h => h0 h.1)]
    go_enter Tryz.func123, Tryz.ntmps123; go_wp2; go_ret; exact ⟨rfl, Gr.new _ _⟩
theorem mayQ_any (p : Nat) (hp : p < 6) (x : Ev) (w : World) : Calls Tryz.prog (mayF p) #[evV x] w fun e w' => e = .returned (.bool (mayQ p x)) ∧ Gr w w' := by
  match p, hp with
  | 0, _ => exact may_goroutine x w
  | 1, _ => exact may_address x w
  | 2, _ => exact may_child x w
  | 3, _ => exact may_object x w
  | 4, _ => exact may_counted x w
  | 5, _ => exact may_trap x w
/-- What the variables hold. -/
structure EVars (w : World) : Prop where
  sv : SVars w
  kin : ∀ i, i < 15 → w.cell? ⟨0, i, none⟩ = some (.string (str (kindB.getD i [])))
  trp : ∀ i, i < 7 → w.cell? ⟨1, i, none⟩ = some (.string (str (trapB.getD i [])))
theorem EVars.adds {w w' : World} (h : EVars w) (ha : Adds w w') : EVars w' :=
  ⟨h.sv.below ha, fun i hi => (ha.cell (World.block_lt_of_cell? w _ (h.kin i hi))).trans (h.kin i hi), fun i hi => (ha.cell (World.block_lt_of_cell? w _ (h.trp i hi))).trans (h.trp i hi)⟩
theorem fmt_any (n : Int) (h0 : -9223372036854775808 ≤ n) (h1 : n ≤ 9223372036854775807) (w : World) (hv : EVars w) :
    Calls Tryz.prog 41 #[.int .i64 n, .int .i64 10] w fun e w' => e = .returned (.string (str (Lib.itoa n))) ∧ Gr w w' :=
  (Any.strconv_FormatInt_10 Tryz.laysFI n h0 h1 w hv.sv.tab).mono fun _ w' ⟨h1, k, os, h2⟩ => by
    subst h2
    exact ⟨h1, ⟨k, os, rfl⟩⟩
theorem decimal_any (n : Int) (h0 : -9223372036854775808 ≤ n) (h1 : n ≤ 9223372036854775807) (w : World) (hv : EVars w) :
    Calls Tryz.prog 69 #[.int .i64 n] w fun e w' => e = .returned (.string (str (Lib.itoa n))) ∧ Gr w w' := by
  have HF := Lib.hid (fmt_any n h0 h1 w hv)
  clear h0 h1 hv
  generalize str (Lib.itoa n) = s at HF ⊢
  go_enter Tryz.func69, Tryz.ntmps69
  go_wp2_with (go_at_call 41; refine HF.out.mono ?_; rintro e w2 ⟨rfl, q⟩; have Q := Lib.hid q; clear q)
  go_ret
  exact ⟨rfl, Q.out⟩
theorem trapW_any (n : Nat) (h1 : n < 7) (w : World) (hv : EVars w) : Calls Tryz.prog 124 #[.int .i64 n] w fun e w' => e = .returned (.string (str (trapB.getD n []))) ∧ Gr w w' := by
  have c := hv.trp n h1
  have hg : (n : Int) < 7 := by omega
  generalize str (trapB.getD n []) = s at c ⊢
  clear hv h1
  go_enter Tryz.func124, Tryz.ntmps124
  go_wp2
  go_ret
  exact ⟨rfl, Gr.refl _⟩
theorem wordQ_any (p : Nat) (hp : p < 6) (v : Int) (h0 : -9223372036854775808 ≤ v) (h1 : v ≤ 9223372036854775807) (h5 : p = 5 → 1 ≤ v ∧ v ≤ 6) (w : World) (hv : EVars w) :
    Calls Tryz.prog (wordF p) #[.int .i64 v] w fun e w' => e = .returned (.string (str (wordE p v))) ∧ Gr w w' := by
  by_cases e : p = 5
  · subst e
    obtain ⟨n, rfl⟩ : ∃ n : Nat, v = n := ⟨v.toNat, by have := h5 rfl; omega⟩
    exact trapW_any n (by have := h5 rfl; omega) w hv
  · have e1 : wordF p = 69 := by
      match p, hp, e with
      | 0, _, _ => rfl
      | 1, _, _ => rfl
      | 2, _, _ => rfl
      | 3, _, _ => rfl
      | 4, _, _ => rfl
      | 5, _, h => exact absurd rfl h
    have e2 : wordE p v = Lib.itoa v := by unfold wordE; rw [if_neg e]
    rw [e1, e2]
    exact decimal_any v h0 h1 w hv
end Go.Proofs.YtbinmgpfkjmijaaGreatDoor
