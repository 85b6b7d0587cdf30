/- Merged: IF5, IEq, IF6. -/
import Derived.BigCall
import Derived.BigGuard
import Derived.Deep.RegionLaw
import Derived.Shelf.AbstractIn
import Derived.Test.YtdkgehhlikaocaaGreatY2
import Derived.Test.YtdkgehhlikaocaaGreatY3
import Derived.Laws.StructEq
import Derived.Test.YtdkgehhlikaocaaGreatY1
namespace Go.Proofs.YtdkgehhlikaocaaGreat
open Go Go.RowKit Go.Shelf Go.Lib

theorem wp_calm8 {P : Program} {c : Code} {Q : Exit → Act → World → Prop} {a : Act} {w : World} (h : c.wp P (Exit.then (Q .normal) (fun _ _ _ => False)) a w) : c.wp P Q a w :=
  Code.wp_mono (Q := Exit.then (Q .normal) (fun _ _ _ => False)) (fun e _ _ hq => by cases e <;> first | exact hq | exact hq.elim) h
theorem enter_get (k : Nat) (h : k < 4) (v : Value) (w : World) : (callFunc (getF k) #[v]).run Tryz.prog w = .ok (.enter (getF k) #[v]) w := by
  match k, h with
  | 0, _ => exact enters_of Tryz.func143 (by kernel_rfl) rfl _ _
  | 1, _ => exact enters_of Tryz.func145 (by kernel_rfl) rfl _ _
  | 2, _ => exact enters_of Tryz.func147 (by kernel_rfl) rfl _ _
  | 3, _ => exact enters_of Tryz.func149 (by kernel_rfl) rfl _ _
theorem enter_put (k : Nat) (h : k < 4) (v u : Value) (w : World) : (callFunc (putF k) #[v, u]).run Tryz.prog w = .ok (.enter (putF k) #[v, u]) w := by
  match k, h with
  | 0, _ => exact enters_of Tryz.func144 (by kernel_rfl) rfl _ _
  | 1, _ => exact enters_of Tryz.func146 (by kernel_rfl) rfl _ _
  | 2, _ => exact enters_of Tryz.func148 (by kernel_rfl) rfl _ _
  | 3, _ => exact enters_of Tryz.func150 (by kernel_rfl) rfl _ _
theorem enter_is (n : Nat) (h : n < 6) (v : Value) (w : World) : (callFunc (isF n) #[v]).run Tryz.prog w = .ok (.enter (isF n) #[v]) w := by
  match n, h with
  | 0, _ => exact enters_of Tryz.func135 (by kernel_rfl) rfl _ _
  | 1, _ => exact enters_of Tryz.func139 (by kernel_rfl) rfl _ _
  | 2, _ => exact enters_of Tryz.func136 (by kernel_rfl) rfl _ _
  | 3, _ => exact enters_of Tryz.func137 (by kernel_rfl) rfl _ _
  | 4, _ => exact enters_of Tryz.func138 (by kernel_rfl) rfl _ _
  | 5, _ => exact enters_of Tryz.func140 (by kernel_rfl) rfl _ _
def sel8 (c : Bool) (v o : Value) : Value := cond c v o
theorem sel8_t (v o : Value) : sel8 true v o = v := rfl
/-- How region 1 of part.holds stands: what may be lies in a box of its own. -/
def RegH8 (W0 : World) (l8 l10 : Bool) (nC : List Value) (s6 : Value) (b' fr : Act) (w2 : World) : Prop :=
  b' = fr ∧ Adds W0 w2 ∧ (l8 = true → ∃ B, s6 = .pointer (some ⟨B, 0, none⟩) ∧ W0.heap.size ≤ B ∧ BkS 176 w2 B (cond l10 nC [.int .i64 0, .int .i64 0, .string ⟨#[]⟩, .bool false]))
/-- What is asked of an instruction ahead of a part's look: its Imm is a word; its B is no giant, where a number hangs on it. -/
def okX (n : Nat) (x : In) : Prop := (0 ≤ x.2.2.2.2 ∧ x.2.2.2.2 < 4294967296) ∧ (n = 1 → -1000000000000 ≤ getP 1 x ∧ getP 1 x ≤ 1000000000000)
set_option maxRecDepth 100000 in
set_option maxHeartbeats 2000000 in
theorem partHolds8 (n k : Nat) (hn : n < 6) (hk : k < 4) (x : In) (hx : okX n x) (w : World) :
    Calls Tryz.prog 141 #[.agg (ptC (n + 1, k)).toArray, insV x] w fun e w' => e = .returned (.bool (holdsP (k, n) x)) ∧ Adds w w' := by
  have hmx : Tryz.prog.follows .mixedOrders = true := by kernel_rfl
  have HG := Lib.hid (fun W => get_any k hk x hx.1.1 hx.1.2 W)
  have HI := Lib.hid (fun W => is_any n hn x hx.2 W)
  have eg := enter_get k hk
  have ei := enter_is n hn
  rw [show holdsP (k, n) x = decide (loN n ≤ getP k x ∧ getP k x ≤ hiN n x) from rfl]
  simp only [ptC, slotV, fnV]
  clear hx
  generalize getF k = fg at HG eg ⊢
  generalize isF n = fi at HI ei ⊢
  generalize putF k = fp
  generalize widN k = wd
  generalize getP k x = v at HG ⊢
  generalize loN n = lo at HI ⊢
  generalize hiN n x = hi at HI ⊢
  generalize markN n = mk at HI
  generalize (n == 3) = z at HI
  obtain ⟨xo, xa, xb, xc, xi⟩ := x
  obtain ⟨r, hr⟩ : ∃ r, decide (lo ≤ v ∧ v ≤ hi) = r := ⟨_, rfl⟩
  rw [hr]
  have HR := Lib.hid hr
  clear hr
  obtain ⟨w1, hw1⟩ : ∃ w1, (w.alloc (.cells #[.func (.func fi) #[] #[], .int .i64 wd, .func (.func fg) #[] #[], .func (.func fp) #[] #[]] 174)).alloc (.cells (insC (xo, xa, xb, xc, xi)).toArray 56) = w1 := ⟨_, rfl⟩
  have HA1 := Lib.hid (show Adds w w1 by rw [← hw1]; exact ((Gr.new _ _).alloc _).adds)
  have HB2 := Lib.hid (show BkS 174 w1 w.heap.size [.func (.func fi) #[] #[], .int .i64 wd, .func (.func fg) #[] #[], .func (.func fp) #[] #[]] by rw [← hw1]; exact (BkS.new _ _ _).adds (Gr.new _ _).adds)
  have HB3 := Lib.hid (show BkS 56 w1 (w.heap.size + 1) (insC (xo, xa, xb, xc, xi)) by rw [← hw1]; unfold BkS; exact heap_new1 _ _ _)
  go_enter Tryz.func141, Tryz.ntmps141
  go_wp2_with fail
  clear hw1
  obtain ⟨n3, hn3⟩ : ∃ n3, w.heap.size + 1 = n3 := ⟨_, rfl⟩
  rw [hn3] at HB3 ⊢
  obtain ⟨n2, hn2⟩ : ∃ n2, w.heap.size = n2 := ⟨_, rfl⟩
  rw [hn2] at HB2 ⊢
  clear hn3 hn2
  refine (wpIn_wide (n := 6)).1 ?_
  refine wpIn_region_inv (fun L b' w2 => ∃ s6 : Value, RegH8 w1 (L 8) (L 10) [.int .i64 lo, .int .i64 hi, .string ⟨mk.toArray⟩, .bool z] s6 b' ({ tmps := #[Value.agg #[Value.func (Fn.func fi) #[] #[], Value.int IntKind.i64 wd, Value.func (Fn.func fg) #[] #[], Value.func (Fn.func fp) #[] #[]], insV (xo, xa, xb, xc, xi), Value.pointer (some { block := n2, off := 0 }), Value.pointer (some { block := n3, off := 0 }), Value.bool false, sel8 (L 9) (Value.int IntKind.i64 v) (undef), sel8 (L 8) (s6) (undef), sel8 (L 0) (Value.pointer (some { block := n2, off := 2 })) (undef), sel8 (L 1) (Value.func (Fn.func fg) #[] #[]) (undef), sel8 (L 2) (insV (xo, xa, xb, xc, xi)) (undef), sel8 (L 3) (Value.int IntKind.i64 v) (undef), sel8 (L 4) (Value.pointer (some { block := n2, off := 0 })) (undef), sel8 (L 5) (Value.func (Fn.func fi) #[] #[]) (undef), sel8 (L 6) (insV (xo, xa, xb, xc, xi)) (undef), sel8 (L 7) (Value.agg #[Value.int IntKind.i64 lo, Value.int IntKind.i64 hi, Value.string { data := mk.toArray }, Value.bool z]) (undef), undef, undef, undef, undef, undef, undef, undef, undef, undef, undef], defers := [] }) w2) hmx (by kernel_rfl) ?inv0 ?step ?fin
  case inv0 => exact ⟨undef, rfl, Adds.drew _, fun h => (by cases h)⟩
  case step =>
    rintro L b' w2 i o ho hL hC he ⟨s6, rfl, hP⟩
    have q10 := hC 10 _ rfl
    simp [Region.binds] at q10
    have HP := Lib.hid hP
    have k2 := HB2.out.adds hP.1
    have k3 := HB3.out.adds hP.1
    have d0 : w2.cell? ⟨n2, 0, none⟩ = some (.func (.func fi) #[] #[]) := k2.cell 0
    have d2 : w2.cell? ⟨n2, 2, none⟩ = some (.func (.func fg) #[] #[]) := k2.cell 2
    have i0 : w2.cell? ⟨n3, 0, none⟩ = some (.int .i64 xo) := k3.cell 0
    have i1 : w2.cell? ⟨n3, 1, none⟩ = some (.int .i64 xa) := k3.cell 1
    have i2 : w2.cell? ⟨n3, 2, none⟩ = some (.int .i64 xb) := k3.cell 2
    have i3 : w2.cell? ⟨n3, 3, none⟩ = some (.int .i64 xc) := k3.cell 3
    have i4 : w2.cell? ⟨n3, 4, none⟩ = some (.int .u32 xi) := k3.cell 4
    clear hC hP k2 k3
    rcases i with _ | _ | _ | _ | _ | _ | _ | _ | _ | _ | _ | i
    · simp only [List.getElem?_cons_zero, Option.some.injEq] at ho
      subst ho
      try simp [Region.binds] at he
      clear q10
      try simp only []
      gi_wp2
      refine ⟨s6, by simp [sel8, *], HP.out.1, (by first | exact HP.out.2 | simpa [he] using HP.out.2)⟩
    · simp only [List.getElem?_cons_zero, List.getElem?_cons_succ, Option.some.injEq] at ho
      subst ho
      try simp [Region.binds] at he
      clear q10
      try simp only [he, sel8_t]
      gi_wp2
      refine ⟨s6, by simp [sel8, *], HP.out.1, (by first | exact HP.out.2 | simpa [he] using HP.out.2)⟩
    · simp only [List.getElem?_cons_zero, List.getElem?_cons_succ, Option.some.injEq] at ho
      subst ho
      try simp [Region.binds] at he
      clear q10
      try simp only []
      gi_wp2
      refine ⟨s6, by simp [sel8, *], HP.out.1, (by first | exact HP.out.2 | simpa [he] using HP.out.2)⟩
    · simp only [List.getElem?_cons_zero, List.getElem?_cons_succ, Option.some.injEq] at ho
      subst ho
      try simp [Region.binds] at he
      clear q10
      simp only [he, sel8_t]
      gi_wp2_with (refine ⟨trivial, ?_⟩; gi_at_fn fg; refine (callsIn_wide.2 (HG.out w2)).mono ?_; rintro e w3 ⟨rfl, hA3⟩; have HA3 := Lib.hid hA3.adds; clear hA3)
      refine ⟨s6, by simp [sel8, *], Adds.trans HP.out.1 HA3.out, fun h => ?_⟩
      obtain ⟨B, e1, e2, e3⟩ := HP.out.2 (by first | exact h | simpa [he] using h)
      exact ⟨B, e1, e2, by first | exact e3.adds HA3.out | simpa [he] using e3.adds HA3.out | (have e4 := e3.adds HA3.out; simp only [z10, cond_false] at e4; simpa [z10] using e4)⟩
    · simp only [List.getElem?_cons_zero, List.getElem?_cons_succ, Option.some.injEq] at ho
      subst ho
      try simp [Region.binds] at he
      clear q10
      try simp only []
      gi_wp2
      refine ⟨s6, by simp [sel8, *], HP.out.1, (by first | exact HP.out.2 | simpa [he] using HP.out.2)⟩
    · simp only [List.getElem?_cons_zero, List.getElem?_cons_succ, Option.some.injEq] at ho
      subst ho
      try simp [Region.binds] at he
      clear q10
      try simp only [he, sel8_t]
      gi_wp2
      refine ⟨s6, by simp [sel8, *], HP.out.1, (by first | exact HP.out.2 | simpa [he] using HP.out.2)⟩
    · simp only [List.getElem?_cons_zero, List.getElem?_cons_succ, Option.some.injEq] at ho
      subst ho
      try simp [Region.binds] at he
      clear q10
      try simp only []
      gi_wp2
      refine ⟨s6, by simp [sel8, *], HP.out.1, (by first | exact HP.out.2 | simpa [he] using HP.out.2)⟩
    · simp only [List.getElem?_cons_zero, List.getElem?_cons_succ, Option.some.injEq] at ho
      subst ho
      try simp [Region.binds] at he
      have z10 : L 10 = false := by cases h : L 10 with | false => rfl | true => (have := q10 h; simp [hL] at this)
      clear q10
      simp only [he, sel8_t]
      gi_wp2_with (refine ⟨trivial, ?_⟩; gi_at_fn fi; refine (callsIn_wide.2 (HI.out w2)).mono ?_; rintro e w3 ⟨rfl, hA3⟩; have HA3 := Lib.hid hA3.adds; clear hA3)
      refine ⟨s6, by simp [sel8, *], Adds.trans HP.out.1 HA3.out, fun h => ?_⟩
      obtain ⟨B, e1, e2, e3⟩ := HP.out.2 (by first | exact h | simpa [he] using h)
      exact ⟨B, e1, e2, by first | exact e3.adds HA3.out | simpa [he] using e3.adds HA3.out | (have e4 := e3.adds HA3.out; simp only [z10, cond_false] at e4; simpa [z10] using e4)⟩
    · simp only [List.getElem?_cons_zero, List.getElem?_cons_succ, Option.some.injEq] at ho
      subst ho
      try simp [Region.binds] at he
      have z10 : L 10 = false := by cases h : L 10 with | false => rfl | true => (have := q10 h; simp [hL] at this)
      clear q10
      gi_wp2
      refine ⟨.pointer (some ⟨w2.heap.size, 0, none⟩), by simp [sel8, *], Adds.trans HP.out.1 (Gr.new _ _).adds, fun _ => ⟨_, rfl, HP.out.1.size, ?_⟩⟩
      have e := BkS.new 176 w2 [.int .i64 0, .int .i64 0, .string ⟨#[]⟩, .bool false]
      simpa [z10] using e
    · simp only [List.getElem?_cons_zero, List.getElem?_cons_succ, Option.some.injEq] at ho
      subst ho
      try simp [Region.binds] at he
      clear q10
      try simp only [he, sel8_t]
      gi_wp2
      refine ⟨s6, by simp [sel8, *], HP.out.1, (by first | exact HP.out.2 | simpa [he] using HP.out.2)⟩
    · simp only [List.getElem?_cons_zero, List.getElem?_cons_succ, Option.some.injEq] at ho
      subst ho
      try simp [Region.binds] at he
      clear q10
      have p7 : L 7 = true := by simp [he]
      have p8 : L 8 = true := by simp [he]
      obtain ⟨B, rfl, e2, e3⟩ := HP.out.2 p8
      rw [hL] at e3
      simp only [p7, p8, sel8_t]
      have HE3 := Lib.hid (show BkS 176 w2 B [.int .i64 0, .int .i64 0, .string ⟨#[]⟩, .bool false] from e3)
      have x0 : w2.cell? ⟨B, 0, none⟩ = some (.int .i64 0) := HE3.out.cell 0
      have x1 : w2.cell? ⟨B, 1, none⟩ = some (.int .i64 0) := HE3.out.cell 1
      have x2 : w2.cell? ⟨B, 2, none⟩ = some (.string ⟨#[]⟩) := HE3.out.cell 2
      have x3 : w2.cell? ⟨B, 3, none⟩ = some (.bool false) := HE3.out.cell 3
      have y0 := HE3.out.free 0
      have y1 := HE3.out.free 1
      have y2 := HE3.out.free 2
      have y3 := HE3.out.free 3
      have HE2 := Lib.hid e2
      clear e2 e3
      gi_wp2
      refine ⟨.pointer (some ⟨B, 0, none⟩), by simp [sel8, *], ?_, fun _ => ⟨B, rfl, HE2.out, ?_⟩⟩
      · exact TnS.own HP.out.1 HE2.out ((((TnS.setCell _ _ _ _).trans (TnS.setCell _ _ _ _)).trans (TnS.setCell _ _ _ _)).trans (TnS.setCell _ _ _ _))
      · have := HE3.out.setP 0 (.int .i64 lo) (.int .i64 hi) (.string ⟨mk.toArray⟩) (.bool z)
        simpa [setP] using this
    · simp at ho
  case fin =>
    rintro b' w2 ⟨s6, rfl, hA, hB⟩
    simp only [List.length_cons, List.length_nil, Nat.reduceAdd, Nat.reduceLT, decide_true, sel8_t] at hB ⊢
    obtain ⟨B, rfl, hB1, hB2⟩ := hB trivial
    simp only [cond_true] at hB2
    have x0 : w2.cell? ⟨B, 0, none⟩ = some (.int .i64 lo) := hB2.cell 0
    have x1 : w2.cell? ⟨B, 1, none⟩ = some (.int .i64 hi) := hB2.cell 1
    have HA := Lib.hid hA
    clear hA hB1 hB2
    by_cases h1 : lo ≤ v
    · by_cases h2 : v ≤ hi
      · go_wp2_with fail
        go_ret
        exact ⟨by rw [← HR.out, decide_eq_true ⟨h1, h2⟩]; rfl, Adds.trans HA1.out HA.out⟩
      · go_wp2_with fail
        go_ret
        exact ⟨by rw [← HR.out, decide_eq_false (by omega)]; rfl, Adds.trans HA1.out HA.out⟩
    · go_wp2_with fail
      go_ret
      exact ⟨by rw [← HR.out, decide_eq_false (by omega)]; rfl, Adds.trans HA1.out HA.out⟩
end Go.Proofs.YtdkgehhlikaocaaGreat
namespace Go.Proofs.YtdkgehhlikaocaaGreat
open Go Go.RowKit Go.Shelf
attribute [local go_sem] Oper.semAt_some

theorem run_eql_struct8 {P : Program} (t : TypeId) (x y : Array Value) (w : World) : (binOp .eql t (.agg x) (.agg y)).run P w = ((Op.equalIn 10000 t (.agg x) (.agg y)).run P w).andThen fun b w' => .ok (.bool b) w' := by
  simp [binOp, Op.equal, Op.maxDepth]
theorem run_neq_struct8 {P : Program} (t : TypeId) (x y : Array Value) (w : World) : (binOp .neq t (.agg x) (.agg y)).run P w = ((Op.equalIn 10000 t (.agg x) (.agg y)).run P w).andThen fun b w' => .ok (.bool (!b)) w' := by
  simp [binOp, Op.equal, Op.maxDepth]
set_option maxRecDepth 100000 in
theorem ins_eqIn (n : Nat) (x y : In) (w : World) : (Op.equalIn (n + 2) 56 (insV x) (insV y)).run Tryz.prog w = .ok (decide (x = y)) w := by
  obtain ⟨a, b, c, d, e⟩ := x
  obtain ⟨a', b', c', d', e'⟩ := y
  have u3 := Tryz.underlying3
  have a3 := Tryz.isAgg3
  have z3 := Tryz.sizeOf3
  have u4 := Tryz.underlying54
  have a4 := Tryz.isAgg54
  have z4 := Tryz.sizeOf54
  have u5 := Tryz.underlying30
  have a5 := Tryz.isAgg30
  have z5 := Tryz.sizeOf30
  have hS : Tryz.prog.underlying 56 = some (.struct (Tryz.prog.fieldsOf 56)) := by kernel_rfl
  have hp : Tryz.prog.stoodInHeld 56 = false := by kernel_rfl
  rw [show n + 2 = (n + 1) + 1 from rfl, run_equalIn_agg w (n + 1) 56 _ _ hS hp]
  simp only [Program.fieldsOf, Tryz.underlying56]
  go_simp
  by_cases h1 : a = a' <;> by_cases h2 : b = b' <;> by_cases h3 : c = c' <;> by_cases h4 : d = d' <;> by_cases h5 : e = e' <;> simp [h1, h2, h3, h4, h5]
def eqI (a b : In) : Bool := decide (a = b)
theorem eqI_iff {a b : In} : eqI a b = true ↔ a = b := by unfold eqI; simp
theorem ins_eql (x y : In) (w : World) : (binOp .eql 56 (insV x) (insV y)).run Tryz.prog w = .ok (.bool (eqI x y)) w := by
  rw [run_eql_struct8, show (10000 : Nat) = 9998 + 2 from rfl, ins_eqIn]
  rfl
theorem ins_neq (x y : In) (w : World) : (binOp .neq 56 (insV x) (insV y)).run Tryz.prog w = .ok (.bool (!eqI x y)) w := by
  rw [run_neq_struct8, show (10000 : Nat) = 9998 + 2 from rfl, ins_eqIn]
  rfl
end Go.Proofs.YtdkgehhlikaocaaGreat
namespace Go.Proofs.YtdkgehhlikaocaaGreat
open Go Go.RowKit Go.Shelf Go.Lib

/-- Parts that are named: their kinds and places are some; where a number hangs on B, B was named ahead. -/
def okParts (P : List (Nat × Nat)) : Prop := ((∀ p ∈ P, p.1 < 4 ∧ p.2 < 6) ∧ ∀ j, j < P.length → (P.getD j (0, 0)).2 = 1 → ∃ i, i < j ∧ P.getD i (0, 0) = (1, 0)) ∧ (∀ p ∈ P, p.2 ≤ 5) ∧ P.length ≤ 4
theorem okParts_op (k : Nat) : okParts (partsN k) := by
  unfold okParts partsN
  split <;> simp only [List.length_cons, List.length_nil] <;> exact ⟨⟨by decide, by decide⟩, by decide, by decide⟩
theorem bare_take {P : List (Nat × Nat)} {x : In} {k : Nat} (h : k < P.length) : bare (P.take (k + 1)) x = putP (P.getD k (0, 0)).1 (bare (P.take k) x) 0 := by
  unfold bare
  rw [List.take_succ_eq_append_getElem h, List.foldl_append]
  simp [List.getD_eq_getElem?_getD, h]
theorem holds_take {P : List (Nat × Nat)} {x : In} {k : Nat} (h : k < P.length) (h1 : ∀ j, j < k → holdsP (P.getD j (0, 0)) x = true) (h2 : holdsP (P.getD k (0, 0)) x = true) : ∀ j, j < k + 1 → holdsP (P.getD j (0, 0)) x = true := fun j hj => by
  by_cases e : j = k
  · subst e; exact h2
  · exact h1 j (by omega)
theorem all_holds {P : List (Nat × Nat)} {x : In} : (P.all fun p => holdsP p x) = true ↔ ∀ j, j < P.length → holdsP (P.getD j (0, 0)) x = true := by
  rw [List.all_eq_true]
  constructor
  · intro h j hj
    exact h _ (by simp [List.getD_eq_getElem?_getD, hj])
  · intro h p hp
    obtain ⟨j, hj, rfl⟩ := List.getElem_of_mem hp
    have := h j hj
    simpa [List.getD_eq_getElem?_getD, hj] using this
theorem ptN_get {P : List (Nat × Nat)} {k : Nat} (h : k < P.length) : (P.map fun p => ((p.2 + 1, p.1) : Pt)).getD k (0, 0) = ((P.getD k (0, 0)).2 + 1, (P.getD k (0, 0)).1) := by
  simp [List.getD_eq_getElem?_getD, h]
theorem mem_getD {P : List (Nat × Nat)} {k : Nat} (h : k < P.length) : P.getD k (0, 0) ∈ P := by simp [List.getD_eq_getElem?_getD, h]
theorem holdsL_no {P : List (Nat × Nat)} {x : In} {k : Nat} (h : k < P.length) (hz : holdsP (P.getD k (0, 0)) x = false) : holdsL P x = false := by
  unfold holdsL
  rw [show (P.all fun p => holdsP p x) = false from ?_]
  · rfl
  · rw [← Bool.not_eq_true, all_holds]
    intro h2
    rw [h2 k h] at hz
    cases hz
set_option maxRecDepth 100000 in
set_option maxHeartbeats 4000000 in
theorem shapeHolds8 (op : Nat) (h1 : 1 ≤ op) (h2 : op ≤ 19) (x : In) (hx : 0 ≤ x.2.2.2.2 ∧ x.2.2.2.2 < 4294967296) (w : World) :
    Calls Tryz.prog 118 #[shapeV (shOf op), insV x] w fun e w' => e = .returned (.bool (holdsL (partsN op) x)) ∧ Adds w w' := by
  have HPa := Lib.hid (fun W => parts_op op h1 h2 W)
  have HOk := Lib.hid (okParts_op op)
  rw [show PartsPost (shOf op) = fun w e w' => ∃ g, e = .returned (.slice (some ⟨g, 0, none⟩) (partsOf (shOf op)).length 4) ∧ w.heap.size ≤ g ∧ RowP w' g (partsOf (shOf op)) ∧ Adds w w' from rfl, partsOf_op op h1 h2] at HPa
  unfold ptN at HPa
  generalize shOf op = s at HPa ⊢
  generalize partsN op = P at HPa HOk ⊢
  simp only [List.length_map] at HPa
  clear h1 h2
  obtain ⟨r, hr⟩ : ∃ r, holdsL P x = r := ⟨_, rfl⟩
  rw [hr]
  have HR := Lib.hid hr
  have HX := Lib.hid hx
  clear hr hx
  unfold shapeV at HPa ⊢
  generalize slotV s.1 = v0 at HPa ⊢
  generalize slotV s.2.1 = v1 at HPa ⊢
  generalize slotV s.2.2.1 = v2 at HPa ⊢
  generalize slotV s.2.2.2 = v3 at HPa ⊢
  obtain ⟨xo, xa, xb, xc, xi⟩ := x
  obtain ⟨w1, hw1⟩ : ∃ w1, ((w.alloc (.cells #[v0, v1, v2, v3] 165)).alloc (.cells (insC (xo, xa, xb, xc, xi)).toArray 56)).alloc (.cells (insC (xo, xa, xb, xc, xi)).toArray 56) = w1 := ⟨_, rfl⟩
  have HA1 := Lib.hid (show Adds w w1 by rw [← hw1]; exact (((Gr.new _ _).alloc _).alloc _).adds)
  have HB3 := Lib.hid (show BkS 56 w1 (w.heap.size + 1) (insC (xo, xa, xb, xc, xi)) by rw [← hw1]; have h : BkS 56 ((w.alloc (.cells #[v0, v1, v2, v3] 165)).alloc (.cells (insC (xo, xa, xb, xc, xi)).toArray 56)) (w.heap.size + 1) (insC (xo, xa, xb, xc, xi)) := heap_new1 _ _ _; exact h.adds (Gr.new _ _).adds)
  have HB5 := Lib.hid (show BkS 56 w1 (w.heap.size + 1 + 1) (insC (xo, xa, xb, xc, xi)) by rw [← hw1]; have := BkS.new 56 ((w.alloc (.cells #[v0, v1, v2, v3] 165)).alloc (.cells (insC (xo, xa, xb, xc, xi)).toArray 56)) (insC (xo, xa, xb, xc, xi)); simpa using this)
  have HB2 : BkS 165 w1 w.heap.size [v0, v1, v2, v3] := by rw [← hw1]; exact (BkS.new 165 w [v0, v1, v2, v3]).adds ((Gr.new _ _).alloc _).adds
  have b0 : w1.cell? ⟨w.heap.size, 0, none⟩ = some v0 := HB2.cell 0
  have b1 : w1.cell? ⟨w.heap.size, 1, none⟩ = some v1 := HB2.cell 1
  have b2 : w1.cell? ⟨w.heap.size, 2, none⟩ = some v2 := HB2.cell 2
  have b3 : w1.cell? ⟨w.heap.size, 3, none⟩ = some v3 := HB2.cell 3
  have HS1 := Lib.hid (show w1.heap.size = w.heap.size + 1 + 1 + 1 by rw [← hw1]; simp)
  clear HB2
  have HP1 := Lib.hid (HPa.out w1)
  clear HPa
  go_enter Tryz.func118, Tryz.ntmps118
  go_wp2_with (go_at_call 119; refine HP1.out.mono ?_; rintro e w4 ⟨g, rfl, q1, q2, q3⟩; have HG := Lib.hid q1; have HRow := Lib.hid q2; have HA4 := Lib.hid q3; clear q1 q2 q3)
  clear hw1 b0 b1 b2 b3 HP1
  obtain ⟨n2, hn2⟩ : ∃ n, w.heap.size = n := ⟨_, rfl⟩
  obtain ⟨n3, hn3⟩ : ∃ n, n2 + 1 = n := ⟨_, rfl⟩
  obtain ⟨n5, hn5⟩ : ∃ n, n3 + 1 = n := ⟨_, rfl⟩
  have HNs := Lib.hid (show n2 = w.heap.size ∧ n3 = n2 + 1 ∧ n5 = n2 + 1 + 1 ∧ w1.heap.size = n5 + 1 from ⟨hn2.symm, hn3.symm, by omega, by have := HS1.out; omega⟩)
  rw [hn2, hn3] at HB3
  rw [hn2, hn3, hn5] at HB5
  rw [hn2, hn3, hn5]
  clear hn2 hn3 hn5
  have HB34 := Lib.hid (HB3.out.adds HA4.out)
  have HB54 := Lib.hid (HB5.out.adds HA4.out)
  have HLen := Lib.hid (show P.length ≤ 4 from by have := HRow.out; exact HOk.out.2.2)
  go_loopw [12] (fun i wr => ∃ k : Nat, i = .int .i64 k ∧ k ≤ P.length ∧ Hid (∀ j, j < k → holdsP (P.getD j (0, 0)) (xo, xa, xb, xc, xi) = true) ∧ Hid (BkS 56 wr n5 (insC (bare (P.take k) (xo, xa, xb, xc, xi)))) ∧ Hid (TnS n5 w4 wr)) (fun i _ => P.length + 1 - (intOf i).toNat)
  case atStart => exact ⟨0, rfl, Nat.zero_le _, Lib.hid (fun j hj => by omega), HB54, Lib.hid (TnS.refl _ _)⟩
  case round =>
    obtain ⟨k, rfl, hk, HNo, HBk, HT⟩ := hrel
    have hkI : (k : Int) ≤ 4 := by have := HLen.out; omega
    have HAll := Lib.hid (show Adds w wr from TnS.own (Adds.trans HA1.out HA4.out) (by have := HNs.out; omega) HT.out)
    have k3 : BkS 56 wr n3 (insC (xo, xa, xb, xc, xi)) := (HT.out.block n3 HB34.out.lt (fun e => by have := HNs.out; cases e; omega)).trans HB34.out
    have i0 : wr.cell? ⟨n3, 0, none⟩ = some (.int .i64 xo) := k3.cell 0
    have i1 : wr.cell? ⟨n3, 1, none⟩ = some (.int .i64 xa) := k3.cell 1
    have i2 : wr.cell? ⟨n3, 2, none⟩ = some (.int .i64 xb) := k3.cell 2
    have i3 : wr.cell? ⟨n3, 3, none⟩ = some (.int .i64 xc) := k3.cell 3
    have i4 : wr.cell? ⟨n3, 4, none⟩ = some (.int .u32 xi) := k3.cell 4
    have hn3 : n3 < wr.heap.size := k3.lt
    have hn5 : n5 < wr.heap.size := HBk.out.lt
    by_cases hlt : k < P.length
    · have hltI : (k : Int) < (P.length : Int) := by omega
      have hrow : ∀ q, q < 4 → wr.cell? ⟨g, k * 4 + q, none⟩ = (ptC ((P.getD k (0, 0)).2 + 1, (P.getD k (0, 0)).1))[q]? := fun q hq => by
        have h0 := HRow.out k (by simpa using hlt) q hq
        rw [ptN_get hlt] at h0
        have hne : g ≠ n5 := by have h1 := HG.out; have h2 := HNs.out; omega
        rw [← h0]
        have hgl : g < w4.heap.size := by
          have hq4 : q < (ptC ((P.getD k (0, 0)).2 + 1, (P.getD k (0, 0)).1)).length := hq
          rw [List.getElem?_eq_getElem hq4] at h0
          exact World.block_lt_of_cell? w4 _ h0
        have := HT.out.block g hgl (fun e => hne (by cases e; rfl))
        unfold World.cell?
        rw [this]
      have c0 := hrow 0 (by omega); have c1 := hrow 1 (by omega); have c2 := hrow 2 (by omega); have c3 := hrow 3 (by omega)
      have HOp := Lib.hid (HOk.out.1.1 _ (mem_getD hlt))
      have hBx : (P.getD k (0, 0)).2 = 1 → -1000000000000 ≤ xb ∧ xb ≤ 1000000000000 := fun h => by
        obtain ⟨j, hj, e⟩ := HOk.out.1.2 k hlt h
        have h2 := HNo.out j hj
        rw [e] at h2
        have h3 : 0 ≤ xb ∧ xb ≤ 15 := by simpa [holdsP, loN, hiN, getP] using h2
        omega
      have HBx := Lib.hid hBx
      have HTk := Lib.hid (bare_take (x := (xo, xa, xb, xc, xi)) hlt)
      have HHt := Lib.hid (holds_take (x := (xo, xa, xb, xc, xi)) hlt HNo.out)
      have HLt := Lib.hid hlt
      clear hBx hrow k3 hlt hk
      obtain ⟨⟨kk, n⟩, hp⟩ : ∃ p, P.getD k (0, 0) = p := ⟨_, rfl⟩
      have HPk := Lib.hid hp
      rw [hp] at c0 c1 c2 c3 HOp HBx HTk HHt
      clear hp
      simp only [ptC, List.getElem?_cons_zero, List.getElem?_cons_succ, Nat.add_zero, slotV] at c0 c1 c2 c3
      have HH := Lib.hid (fun W => partHolds8 n kk HOp.out.2 HOp.out.1 (xo, xa, xb, xc, xi) ⟨HX.out, HBx.out⟩ W)
      simp only [ptC, slotV] at HH
      have HPut := Lib.hid (fun W (h : BkS 56 W n5 (insC (bare (P.take k) (xo, xa, xb, xc, xi)))) => put_any kk HOp.out.1 n5 _ 0 W h)
      have ep := enter_put kk HOp.out.1
      unfold fnV at c0 c2 c3 HH
      generalize isF n = fi at c0 HH
      generalize getF kk = fg at c2 HH
      generalize putF kk = fp at c3 HH HPut ep
      generalize widN kk = wd at c1 HH
      cases hz : holdsP (kk, n) (xo, xa, xb, xc, xi)
      · rw [hz] at HH
        have HZ := Lib.hid hz
        clear hz
        go_wp2_with (go_at_call 141; refine (HH.out _).mono ?_; rintro e w5 ⟨rfl, q⟩; have HA5 := Lib.hid (Adds.trans HAll.out (Adds.trans (Gr.new wr _).adds q)); clear q)
        go_ret
        exact ⟨by rw [← HR.out, holdsL_no HLt.out (by rw [HPk.out]; exact HZ.out)]; rfl, HA5.out⟩
      · rw [hz] at HH
        have HZ := Lib.hid hz
        clear hz
        go_wp2_with (first
          | (go_at_call 141; refine (HH.out _).mono ?_; rintro e w5 ⟨rfl, q⟩; have HA5 := Lib.hid (Adds.trans (Gr.new wr _).adds q); have d3 : w5.cell? ⟨wr.heap.size, 3, none⟩ = some (.func (.func fp) #[] #[]) := ((BkS.new 174 wr [.func (.func fi) #[] #[], .int .i64 wd, .func (.func fg) #[] #[], .func (.func fp) #[] #[]]).adds q).cell 3; clear q)
          | (go_at_fn fp; refine (HPut.out _ (HBk.out.adds HA5.out)).mono ?_; rintro e w6 ⟨rfl, q1, q2⟩; have HQ := Lib.hid (And.intro q1 q2); clear q1 q2))
        go_roundw
        case rel => exact ⟨k + 1, rfl, HLt.out, Lib.hid (HHt.out HZ.out), Lib.hid (by rw [HTk.out]; have := HQ.out.1; simpa using this), Lib.hid (HT.out.trans ((TnS.of_adds _ HA5.out).trans HQ.out.2))⟩
        case measure => simp [intOf]; have := HLt.out; omega
    · obtain rfl : k = P.length := by omega
      have hbk := HBk.out
      rw [List.take_length] at hbk
      have hq := ins_eql (bare P (xo, xa, xb, xc, xi)) (xo, 0, 0, 0, 0)
      have HEnd := Lib.hid (show eqI (bare P (xo, xa, xb, xc, xi)) (xo, 0, 0, 0, 0) = r by
        rw [← HR.out]
        unfold holdsL
        rw [all_holds.2 HNo.out]
        rfl)
      rw [HEnd.out] at hq
      obtain ⟨⟨y1, y2, y3, y4, y5⟩, hy⟩ : ∃ y, bare P (xo, xa, xb, xc, xi) = y := ⟨_, rfl⟩
      rw [hy] at hq hbk
      have e0 : wr.cell? ⟨n5, 0, none⟩ = some (.int .i64 y1) := hbk.cell 0
      have e1 : wr.cell? ⟨n5, 1, none⟩ = some (.int .i64 y2) := hbk.cell 1
      have e2 : wr.cell? ⟨n5, 2, none⟩ = some (.int .i64 y3) := hbk.cell 2
      have e3 : wr.cell? ⟨n5, 3, none⟩ = some (.int .i64 y4) := hbk.cell 3
      have e4 : wr.cell? ⟨n5, 4, none⟩ = some (.int .u32 y5) := hbk.cell 4
      clear hy hbk k3 hlt hk
      go_wp2_with fail
      go_ret
      exact ⟨rfl, HAll.out⟩
end Go.Proofs.YtdkgehhlikaocaaGreat
