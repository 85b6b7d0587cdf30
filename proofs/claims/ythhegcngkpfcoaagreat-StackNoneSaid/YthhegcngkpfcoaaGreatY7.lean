/- Merged: IF5. -/
import Derived.BigCall
import Derived.BigGuard
import Derived.Deep.RegionLaw
import Derived.Shelf.AbstractIn
import Derived.Test.YthhegcngkpfcoaaGreatY5
import Derived.Test.YthhegcngkpfcoaaGreatY6
namespace Go.Proofs.YthhegcngkpfcoaaGreat
open Go Go.RowKit Go.Shelf Go.Lib

theorem wp_calm8 {P : Program} {c : Code} {Q : Exit → Act → World → Prop} {a : Act} {w : World} (h : c.wp P (Exit.then (Q .normal) (fun _ _ _ => False)) a w) : c.wp P Q a w :=
  Code.wp_mono (Q := Exit.then (Q .normal) (fun _ _ _ => False)) (fun e _ _ hq => by cases e <;> first | exact hq | exact hq.elim) h
theorem enter_get (k : Nat) (h : k < 4) (v : Value) (w : World) : (callFunc (getF k) #[v]).run Tryz.prog w = .ok (.enter (getF k) #[v]) w := by
  match k, h with
  | 0, _ => exact enters_of Tryz.func144 (by kernel_rfl) rfl _ _
  | 1, _ => exact enters_of Tryz.func146 (by kernel_rfl) rfl _ _
  | 2, _ => exact enters_of Tryz.func148 (by kernel_rfl) rfl _ _
  | 3, _ => exact enters_of Tryz.func150 (by kernel_rfl) rfl _ _
theorem enter_put (k : Nat) (h : k < 4) (v u : Value) (w : World) : (callFunc (putF k) #[v, u]).run Tryz.prog w = .ok (.enter (putF k) #[v, u]) w := by
  match k, h with
  | 0, _ => exact enters_of Tryz.func145 (by kernel_rfl) rfl _ _
  | 1, _ => exact enters_of Tryz.func147 (by kernel_rfl) rfl _ _
  | 2, _ => exact enters_of Tryz.func149 (by kernel_rfl) rfl _ _
  | 3, _ => exact enters_of Tryz.func151 (by kernel_rfl) rfl _ _
theorem enter_is (n : Nat) (h : n < 6) (v : Value) (w : World) : (callFunc (isF n) #[v]).run Tryz.prog w = .ok (.enter (isF n) #[v]) w := by
  match n, h with
  | 0, _ => exact enters_of Tryz.func136 (by kernel_rfl) rfl _ _
  | 1, _ => exact enters_of Tryz.func140 (by kernel_rfl) rfl _ _
  | 2, _ => exact enters_of Tryz.func137 (by kernel_rfl) rfl _ _
  | 3, _ => exact enters_of Tryz.func138 (by kernel_rfl) rfl _ _
  | 4, _ => exact enters_of Tryz.func139 (by kernel_rfl) rfl _ _
  | 5, _ => exact enters_of Tryz.func141 (by kernel_rfl) rfl _ _
def sel8 (c : Bool) (v o : Value) : Value := cond c v o
theorem sel8_t (v o : Value) : sel8 true v o = v := rfl
/-- How region 1 of part.holds stands: what may be lies in a box of its own. -/
def RegH8 (W0 : World) (l8 l10 : Bool) (nC : List Value) (s6 : Value) (b' fr : Act) (w2 : World) : Prop :=
  b' = fr ∧ Adds W0 w2 ∧ (l8 = true → ∃ B, s6 = .pointer (some ⟨B, 0, none⟩) ∧ W0.heap.size ≤ B ∧ BkS 177 w2 B (cond l10 nC [.int .i64 0, .int .i64 0, .string ⟨#[]⟩, .bool false]))
/-- What is asked of an instruction ahead of a part's look: its Imm is a word; its B is no giant, where a number hangs on it. -/
def okX (n : Nat) (x : In) : Prop := (0 ≤ x.2.2.2.2 ∧ x.2.2.2.2 < 4294967296) ∧ (n = 1 → -1000000000000 ≤ getP 1 x ∧ getP 1 x ≤ 1000000000000)
set_option maxRecDepth 100000 in
set_option maxHeartbeats 2000000 in
theorem partHolds8 (n k : Nat) (hn : n < 6) (hk : k < 4) (x : In) (hx : okX n x) (w : World) :
    Calls Tryz.prog 142 #[.agg (ptC (n + 1, k)).toArray, insV x] w fun e w' => e = .returned (.bool (holdsP (k, n) x)) ∧ Adds w w' := by
  have hmx : Tryz.prog.follows .mixedOrders = true := by kernel_rfl
  have HG := Lib.hid (fun W => get_any k hk x hx.1.1 hx.1.2 W)
  have HI := Lib.hid (fun W => is_any n hn x hx.2 W)
  have eg := enter_get k hk
  have ei := enter_is n hn
  rw [show holdsP (k, n) x = decide (loN n ≤ getP k x ∧ getP k x ≤ hiN n x) from rfl]
  simp only [ptC, slotV, fnV]
  clear hx
  generalize getF k = fg at HG eg ⊢
  generalize isF n = fi at HI ei ⊢
  generalize putF k = fp
  generalize widN k = wd
  generalize getP k x = v at HG ⊢
  generalize loN n = lo at HI ⊢
  generalize hiN n x = hi at HI ⊢
  generalize markN n = mk at HI
  generalize (n == 3) = z at HI
  obtain ⟨xo, xa, xb, xc, xi⟩ := x
  obtain ⟨r, hr⟩ : ∃ r, decide (lo ≤ v ∧ v ≤ hi) = r := ⟨_, rfl⟩
  rw [hr]
  have HR := Lib.hid hr
  clear hr
  obtain ⟨w1, hw1⟩ : ∃ w1, (w.alloc (.cells #[.func (.func fi) #[] #[], .int .i64 wd, .func (.func fg) #[] #[], .func (.func fp) #[] #[]] 175)).alloc (.cells (insC (xo, xa, xb, xc, xi)).toArray 37) = w1 := ⟨_, rfl⟩
  have HA1 := Lib.hid (show Adds w w1 by rw [← hw1]; exact ((Gr.new _ _).alloc _).adds)
  have HB2 := Lib.hid (show BkS 175 w1 w.heap.size [.func (.func fi) #[] #[], .int .i64 wd, .func (.func fg) #[] #[], .func (.func fp) #[] #[]] by rw [← hw1]; exact (BkS.new _ _ _).adds (Gr.new _ _).adds)
  have HB3 := Lib.hid (show BkS 37 w1 (w.heap.size + 1) (insC (xo, xa, xb, xc, xi)) by rw [← hw1]; unfold BkS; exact heap_new1 _ _ _)
  go_enter Tryz.func142, Tryz.ntmps142
  go_wp2_with fail
  clear hw1
  obtain ⟨n3, hn3⟩ : ∃ n3, w.heap.size + 1 = n3 := ⟨_, rfl⟩
  rw [hn3] at HB3 ⊢
  obtain ⟨n2, hn2⟩ : ∃ n2, w.heap.size = n2 := ⟨_, rfl⟩
  rw [hn2] at HB2 ⊢
  clear hn3 hn2
  refine (wpIn_wide (n := 6)).1 ?_
  refine wpIn_region_inv (fun L b' w2 => ∃ s6 : Value, RegH8 w1 (L 8) (L 10) [.int .i64 lo, .int .i64 hi, .string ⟨mk.toArray⟩, .bool z] s6 b' ({ tmps := #[Value.agg #[Value.func (Fn.func fi) #[] #[], Value.int IntKind.i64 wd, Value.func (Fn.func fg) #[] #[], Value.func (Fn.func fp) #[] #[]], insV (xo, xa, xb, xc, xi), Value.pointer (some { block := n2, off := 0 }), Value.pointer (some { block := n3, off := 0 }), Value.bool false, sel8 (L 9) (Value.int IntKind.i64 v) (undef), sel8 (L 8) (s6) (undef), sel8 (L 0) (Value.pointer (some { block := n2, off := 2 })) (undef), sel8 (L 1) (Value.func (Fn.func fg) #[] #[]) (undef), sel8 (L 2) (insV (xo, xa, xb, xc, xi)) (undef), sel8 (L 3) (Value.int IntKind.i64 v) (undef), sel8 (L 4) (Value.pointer (some { block := n2, off := 0 })) (undef), sel8 (L 5) (Value.func (Fn.func fi) #[] #[]) (undef), sel8 (L 6) (insV (xo, xa, xb, xc, xi)) (undef), sel8 (L 7) (Value.agg #[Value.int IntKind.i64 lo, Value.int IntKind.i64 hi, Value.string { data := mk.toArray }, Value.bool z]) (undef), undef, undef, undef, undef, undef, undef, undef, undef, undef, undef], defers := [] }) w2) hmx (by kernel_rfl) ?inv0 ?step ?fin
  case inv0 => exact ⟨undef, rfl, Adds.drew _, fun h => (by cases h)⟩
  case step =>
    rintro L b' w2 i o ho hL hC he ⟨s6, rfl, hP⟩
    have q10 := hC 10 _ rfl
    simp [Region.binds] at q10
    have HP := Lib.hid hP
    have k2 := HB2.out.adds hP.1
    have k3 := HB3.out.adds hP.1
    have d0 : w2.cell? ⟨n2, 0, none⟩ = some (.func (.func fi) #[] #[]) := k2.cell 0
    have d2 : w2.cell? ⟨n2, 2, none⟩ = some (.func (.func fg) #[] #[]) := k2.cell 2
    have i0 : w2.cell? ⟨n3, 0, none⟩ = some (.int .i64 xo) := k3.cell 0
    have i1 : w2.cell? ⟨n3, 1, none⟩ = some (.int .i64 xa) := k3.cell 1
    have i2 : w2.cell? ⟨n3, 2, none⟩ = some (.int .i64 xb) := k3.cell 2
    have i3 : w2.cell? ⟨n3, 3, none⟩ = some (.int .i64 xc) := k3.cell 3
    have i4 : w2.cell? ⟨n3, 4, none⟩ = some (.int .u32 xi) := k3.cell 4
    clear hC hP k2 k3
    rcases i with _ | _ | _ | _ | _ | _ | _ | _ | _ | _ | _ | i
    · simp only [List.getElem?_cons_zero, Option.some.injEq] at ho
      subst ho
      try simp [Region.binds] at he
      clear q10
      try simp only []
      gi_wp2
      refine ⟨s6, by simp [sel8, *], HP.out.1, (by first | exact HP.out.2 | simpa [he] using HP.out.2)⟩
    · simp only [List.getElem?_cons_zero, List.getElem?_cons_succ, Option.some.injEq] at ho
      subst ho
      try simp [Region.binds] at he
      clear q10
      try simp only [he, sel8_t]
      gi_wp2
      refine ⟨s6, by simp [sel8, *], HP.out.1, (by first | exact HP.out.2 | simpa [he] using HP.out.2)⟩
    · simp only [List.getElem?_cons_zero, List.getElem?_cons_succ, Option.some.injEq] at ho
      subst ho
      try simp [Region.binds] at he
      clear q10
      try simp only []
      gi_wp2
      refine ⟨s6, by simp [sel8, *], HP.out.1, (by first | exact HP.out.2 | simpa [he] using HP.out.2)⟩
    · simp only [List.getElem?_cons_zero, List.getElem?_cons_succ, Option.some.injEq] at ho
      subst ho
      try simp [Region.binds] at he
      clear q10
      simp only [he, sel8_t]
      gi_wp2_with (refine ⟨trivial, ?_⟩; gi_at_fn fg; refine (callsIn_wide.2 (HG.out w2)).mono ?_; rintro e w3 ⟨rfl, hA3⟩; have HA3 := Lib.hid hA3.adds; clear hA3)
      refine ⟨s6, by simp [sel8, *], Adds.trans HP.out.1 HA3.out, fun h => ?_⟩
      obtain ⟨B, e1, e2, e3⟩ := HP.out.2 (by first | exact h | simpa [he] using h)
      exact ⟨B, e1, e2, by first | exact e3.adds HA3.out | simpa [he] using e3.adds HA3.out | (have e4 := e3.adds HA3.out; simp only [z10, cond_false] at e4; simpa [z10] using e4)⟩
    · simp only [List.getElem?_cons_zero, List.getElem?_cons_succ, Option.some.injEq] at ho
      subst ho
      try simp [Region.binds] at he
      clear q10
      try simp only []
      gi_wp2
      refine ⟨s6, by simp [sel8, *], HP.out.1, (by first | exact HP.out.2 | simpa [he] using HP.out.2)⟩
    · simp only [List.getElem?_cons_zero, List.getElem?_cons_succ, Option.some.injEq] at ho
      subst ho
      try simp [Region.binds] at he
      clear q10
      try simp only [he, sel8_t]
      gi_wp2
      refine ⟨s6, by simp [sel8, *], HP.out.1, (by first | exact HP.out.2 | simpa [he] using HP.out.2)⟩
    · simp only [List.getElem?_cons_zero, List.getElem?_cons_succ, Option.some.injEq] at ho
      subst ho
      try simp [Region.binds] at he
      clear q10
      try simp only []
      gi_wp2
      refine ⟨s6, by simp [sel8, *], HP.out.1, (by first | exact HP.out.2 | simpa [he] using HP.out.2)⟩
    · simp only [List.getElem?_cons_zero, List.getElem?_cons_succ, Option.some.injEq] at ho
      subst ho
      try simp [Region.binds] at he
      have z10 : L 10 = false := by cases h : L 10 with | false => rfl | true => (have := q10 h; simp [hL] at this)
      clear q10
      simp only [he, sel8_t]
      gi_wp2_with (refine ⟨trivial, ?_⟩; gi_at_fn fi; refine (callsIn_wide.2 (HI.out w2)).mono ?_; rintro e w3 ⟨rfl, hA3⟩; have HA3 := Lib.hid hA3.adds; clear hA3)
      refine ⟨s6, by simp [sel8, *], Adds.trans HP.out.1 HA3.out, fun h => ?_⟩
      obtain ⟨B, e1, e2, e3⟩ := HP.out.2 (by first | exact h | simpa [he] using h)
      exact ⟨B, e1, e2, by first | exact e3.adds HA3.out | simpa [he] using e3.adds HA3.out | (have e4 := e3.adds HA3.out; simp only [z10, cond_false] at e4; simpa [z10] using e4)⟩
    · simp only [List.getElem?_cons_zero, List.getElem?_cons_succ, Option.some.injEq] at ho
      subst ho
      try simp [Region.binds] at he
      have z10 : L 10 = false := by cases h : L 10 with | false => rfl | true => (have := q10 h; simp [hL] at this)
      clear q10
      gi_wp2
      refine ⟨.pointer (some ⟨w2.heap.size, 0, none⟩), by simp [sel8, *], Adds.trans HP.out.1 (Gr.new _ _).adds, fun _ => ⟨_, rfl, HP.out.1.size, ?_⟩⟩
      have e := BkS.new 177 w2 [.int .i64 0, .int .i64 0, .string ⟨#[]⟩, .bool false]
      simpa [z10] using e
    · simp only [List.getElem?_cons_zero, List.getElem?_cons_succ, Option.some.injEq] at ho
      subst ho
      try simp [Region.binds] at he
      clear q10
      try simp only [he, sel8_t]
      gi_wp2
      refine ⟨s6, by simp [sel8, *], HP.out.1, (by first | exact HP.out.2 | simpa [he] using HP.out.2)⟩
    · simp only [List.getElem?_cons_zero, List.getElem?_cons_succ, Option.some.injEq] at ho
      subst ho
      try simp [Region.binds] at he
      clear q10
      have p7 : L 7 = true := by simp [he]
      have p8 : L 8 = true := by simp [he]
      obtain ⟨B, rfl, e2, e3⟩ := HP.out.2 p8
      rw [hL] at e3
      simp only [p7, p8, sel8_t]
      have HE3 := Lib.hid (show BkS 177 w2 B [.int .i64 0, .int .i64 0, .string ⟨#[]⟩, .bool false] from e3)
      have x0 : w2.cell? ⟨B, 0, none⟩ = some (.int .i64 0) := HE3.out.cell 0
      have x1 : w2.cell? ⟨B, 1, none⟩ = some (.int .i64 0) := HE3.out.cell 1
      have x2 : w2.cell? ⟨B, 2, none⟩ = some (.string ⟨#[]⟩) := HE3.out.cell 2
      have x3 : w2.cell? ⟨B, 3, none⟩ = some (.bool false) := HE3.out.cell 3
      have y0 := HE3.out.free 0
      have y1 := HE3.out.free 1
      have y2 := HE3.out.free 2
      have y3 := HE3.out.free 3
      have HE2 := Lib.hid e2
      clear e2 e3
      gi_wp2
      refine ⟨.pointer (some ⟨B, 0, none⟩), by simp [sel8, *], ?_, fun _ => ⟨B, rfl, HE2.out, ?_⟩⟩
      · exact TnS.own HP.out.1 HE2.out ((((TnS.setCell _ _ _ _).trans (TnS.setCell _ _ _ _)).trans (TnS.setCell _ _ _ _)).trans (TnS.setCell _ _ _ _))
      · have := HE3.out.setP 0 (.int .i64 lo) (.int .i64 hi) (.string ⟨mk.toArray⟩) (.bool z)
        simpa [setP] using this
    · simp at ho
  case fin =>
    rintro b' w2 ⟨s6, rfl, hA, hB⟩
    simp only [List.length_cons, List.length_nil, Nat.reduceAdd, Nat.reduceLT, decide_true, sel8_t] at hB ⊢
    obtain ⟨B, rfl, hB1, hB2⟩ := hB trivial
    simp only [cond_true] at hB2
    have x0 : w2.cell? ⟨B, 0, none⟩ = some (.int .i64 lo) := hB2.cell 0
    have x1 : w2.cell? ⟨B, 1, none⟩ = some (.int .i64 hi) := hB2.cell 1
    have HA := Lib.hid hA
    clear hA hB1 hB2
    by_cases h1 : lo ≤ v
    · by_cases h2 : v ≤ hi
      · go_wp2_with fail
        go_ret
        exact ⟨by rw [← HR.out, decide_eq_true ⟨h1, h2⟩]; rfl, Adds.trans HA1.out HA.out⟩
      · go_wp2_with fail
        go_ret
        exact ⟨by rw [← HR.out, decide_eq_false (by omega)]; rfl, Adds.trans HA1.out HA.out⟩
    · go_wp2_with fail
      go_ret
      exact ⟨by rw [← HR.out, decide_eq_false (by omega)]; rfl, Adds.trans HA1.out HA.out⟩
end Go.Proofs.YthhegcngkpfcoaaGreat
