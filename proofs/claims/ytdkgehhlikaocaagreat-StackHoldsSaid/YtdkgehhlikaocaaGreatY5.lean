/- Merged: IF7, IF8. -/
import Derived.WalkSmall
import Derived.Test.YtdkgehhlikaocaaGreatY4
import Derived.Defers
import Derived.Recover
namespace Go.Proofs.YtdkgehhlikaocaaGreat
open Go Go.RowKit Go.Shelf Go.Lib

theorem mapS_same {w w' : World} {b n : Nat} (h : MapS w b n) (hb : w'.heap[b]? = w.heap[b]?) : MapS w' b n := by
  obtain ⟨es0, clock, h0, F, hs, hD⟩ := h
  exact ⟨es0, clock, hb.trans h0, F, hs, hD⟩
theorem mapS_lt {w : World} {b n : Nat} (h : MapS w b n) : b < w.heap.size := by
  obtain ⟨es0, clock, h0, _⟩ := h
  exact (Array.getElem?_eq_some_iff.1 h0).1
theorem mapS_adds {w w' : World} {b n : Nat} (h : MapS w b n) (ha : Adds w w') : MapS w' b n := mapS_same h (ha.block b (mapS_lt h))
theorem mapS_turn {w w' : World} {b n B : Nat} {t : TypeId} {l : List Value} (h : MapS w b n) (hB : BkS t w B l) (ht : TnS B w w') : MapS w' b n := by
  refine mapS_same h (ht.block b (mapS_lt h) (fun e => ?_))
  cases e
  obtain ⟨es0, clock, h0, _⟩ := h
  unfold BkS at hB
  rw [h0] at hB
  cases hB
/-- How region 1 of hold stands: the shape lies in a box of its own. -/
def RegL8 (W0 : World) (l0 l7 l8 : Bool) (bm : Nat) (sv : List Value) (s2 : Value) (b' fr : Act) (w2 : World) : Prop :=
  b' = fr ∧ Adds W0 w2 ∧ (l0 = true → MapS w2 bm 19) ∧ (l7 = true → ∃ B, s2 = .pointer (some ⟨B, 0, none⟩) ∧ W0.heap.size ≤ B ∧ BkS 165 w2 B (cond l8 sv [.nilFunc, .nilFunc, .nilFunc, .nilFunc]))
/-- What hold does: it goes on where the instruction may be, else it gives up with ErrArg. -/
def HoldPost (r : Bool) (w : World) (e : Ending) (w' : World) : Prop :=
  (if r then e = .returned (.tuple #[]) else e = .panicked [{ v := .iface 162 (.int .i64 2), recovered := false }]) ∧ Adds w w'
set_option maxRecDepth 100000 in
set_option maxHeartbeats 4000000 in
theorem hold_it (s : Sh) (ok r : Bool) (x : In) (w : World) (hlk : ∀ W bm, MapS W bm 19 → (Instr.lookup 167 (.map (some bm)) (.int .i64 x.1) true).run Tryz.prog W = .ok (.tuple #[shapeV s, .bool ok]) W)
    (hok : ok = true → ∀ W, Calls Tryz.prog 118 #[shapeV s, insV x] W fun e w' => e = .returned (.bool r) ∧ Adds W w') (hno : ok = false → r = false) :
    Calls Tryz.prog 108 #[insV x] w (HoldPost r w) := by
  have hmx : Tryz.prog.follows .mixedOrders = true := by kernel_rfl
  have HLk := Lib.hid hlk
  have HOk := Lib.hid hok
  unfold shapeV at HLk HOk
  have hs0 : ∀ (a : Addr) (m : Mode) (w : World), (store a (slotV s.1) m).run Tryz.prog w = stored Tryz.prog w a (slotV s.1) m := fun a m w => run_store _ w a _ m (slot_one _)
  have hs1 : ∀ (a : Addr) (m : Mode) (w : World), (store a (slotV s.2.1) m).run Tryz.prog w = stored Tryz.prog w a (slotV s.2.1) m := fun a m w => run_store _ w a _ m (slot_one _)
  have hs2 : ∀ (a : Addr) (m : Mode) (w : World), (store a (slotV s.2.2.1) m).run Tryz.prog w = stored Tryz.prog w a (slotV s.2.2.1) m := fun a m w => run_store _ w a _ m (slot_one _)
  have hs3 : ∀ (a : Addr) (m : Mode) (w : World), (store a (slotV s.2.2.2) m).run Tryz.prog w = stored Tryz.prog w a (slotV s.2.2.2) m := fun a m w => run_store _ w a _ m (slot_one _)
  generalize slotV s.1 = v0 at HLk HOk hs0
  generalize slotV s.2.1 = v1 at HLk HOk hs1
  generalize slotV s.2.2.1 = v2 at HLk HOk hs2
  generalize slotV s.2.2.2 = v3 at HLk HOk hs3
  have HNo := Lib.hid hno
  clear hlk hok hno
  obtain ⟨xo, xa, xb, xc, xi⟩ := x
  obtain ⟨w1, hw1⟩ : ∃ w1, w.alloc (.cells (insC (xo, xa, xb, xc, xi)).toArray 56) = w1 := ⟨_, rfl⟩
  have HA1 := Lib.hid (show Adds w w1 by rw [← hw1]; exact (Gr.new _ _).adds)
  have HB1 := Lib.hid (show BkS 56 w1 w.heap.size (insC (xo, xa, xb, xc, xi)) by rw [← hw1]; exact BkS.new _ _ _)
  go_enter Tryz.func108, Tryz.ntmps108
  go_wp2_with fail
  clear hw1
  obtain ⟨n1, hn1⟩ : ∃ n1, w.heap.size = n1 := ⟨_, rfl⟩
  rw [hn1] at HB1 ⊢
  clear hn1
  refine (wpIn_wide (n := 6)).1 ?_
  refine wpIn_region_inv (fun L b' w2 => ∃ (bm : Nat) (s2 : Value), RegL8 w1 (L 0) (L 7) (L 8) bm [v0, v1, v2, v3] s2 b' ({ tmps := #[insV (xo, xa, xb, xc, xi), Value.pointer (some { block := n1, off := 0 }), sel8 (L 7) (s2) (undef), sel8 (L 9) (Value.bool ok) (undef), sel8 (L 4) (Value.tuple #[Value.agg #[v0, v1, v2, v3], Value.bool ok]) (undef), sel8 (L 0) (Value.map (some bm)) (undef), sel8 (L 1) (Value.pointer (some { block := n1, off := 0 })) (undef), sel8 (L 2) (Value.int IntKind.i64 xo) (undef), sel8 (L 3) (Value.tuple #[Value.agg #[v0, v1, v2, v3], Value.bool ok]) (undef), sel8 (L 5) (Value.agg #[v0, v1, v2, v3]) (undef), sel8 (L 6) (Value.bool ok) (undef), undef, undef, undef, undef, undef, undef, undef, undef, undef], defers := [] }) w2) hmx (by kernel_rfl) ?inv0 ?step ?fin
  case inv0 => exact ⟨0, undef, rfl, Adds.drew _, fun h => (by cases h), fun h => (by cases h)⟩
  case step =>
    rintro L b' w2 i o ho hL hC he ⟨bm, s2, rfl, hP⟩
    have q8 := hC 8 _ rfl
    simp [Region.binds] at q8
    have HP := Lib.hid hP
    have k1 := HB1.out.adds hP.1
    have i0 : w2.cell? ⟨n1, 0, none⟩ = some (.int .i64 xo) := k1.cell 0
    clear hC hP k1
    rcases i with _ | _ | _ | _ | _ | _ | _ | _ | _ | _ | i
    · simp only [List.getElem?_cons_zero, Option.some.injEq] at ho
      subst ho
      try simp [Region.binds] at he
      clear q8
      gi_wp2_with (refine ⟨trivial, ?_⟩; gi_at_call 117; refine (callsIn_wide.2 (shapes_any w2)).mono ?_; rintro e w3 ⟨b9, rfl, _, hm, hA3⟩; have HA3 := Lib.hid hA3; have HM3 := Lib.hid hm; clear hA3 hm)
      refine ⟨b9, s2, by simp [sel8, *], Adds.trans HP.out.1 HA3.out, fun _ => HM3.out, fun h => ?_⟩
      obtain ⟨B, e1, e2, e3⟩ := HP.out.2.2 (by first | exact h | (simp [he]; done) | simpa [he] using h)
      exact ⟨B, e1, e2, by first | exact e3.adds HA3.out | simpa [he] using e3.adds HA3.out⟩
    · simp only [List.getElem?_cons_zero, List.getElem?_cons_succ, Option.some.injEq] at ho
      subst ho
      try simp [Region.binds] at he
      clear q8
      try simp only []
      gi_wp2
      refine ⟨bm, s2, by simp [sel8, *], HP.out.1, (by first | exact HP.out.2.1 | simpa [he] using HP.out.2.1), (by first | exact HP.out.2.2 | simpa [he] using HP.out.2.2)⟩
    · simp only [List.getElem?_cons_zero, List.getElem?_cons_succ, Option.some.injEq] at ho
      subst ho
      try simp [Region.binds] at he
      clear q8
      try simp only [he, sel8_t]
      gi_wp2
      refine ⟨bm, s2, by simp [sel8, *], HP.out.1, (by first | exact HP.out.2.1 | simpa [he] using HP.out.2.1), (by first | exact HP.out.2.2 | simpa [he] using HP.out.2.2)⟩
    · simp only [List.getElem?_cons_zero, List.getElem?_cons_succ, Option.some.injEq] at ho
      subst ho
      try simp [Region.binds] at he
      clear q8
      have p0 : L 0 = true := by simp [he]
      have hlk := HLk.out w2 bm (HP.out.2.1 p0)
      try simp only [he, sel8_t]
      gi_wp2
      refine ⟨bm, s2, by simp [sel8, *], HP.out.1, (by first | exact HP.out.2.1 | simpa [he] using HP.out.2.1), (by first | exact HP.out.2.2 | simpa [he] using HP.out.2.2)⟩
    · simp only [List.getElem?_cons_zero, List.getElem?_cons_succ, Option.some.injEq] at ho
      subst ho
      try simp [Region.binds] at he
      clear q8
      try simp only [he, sel8_t]
      gi_wp2
      refine ⟨bm, s2, by simp [sel8, *], HP.out.1, (by first | exact HP.out.2.1 | simpa [he] using HP.out.2.1), (by first | exact HP.out.2.2 | simpa [he] using HP.out.2.2)⟩
    · simp only [List.getElem?_cons_zero, List.getElem?_cons_succ, Option.some.injEq] at ho
      subst ho
      try simp [Region.binds] at he
      clear q8
      try simp only [he, sel8_t]
      gi_wp2
      refine ⟨bm, s2, by simp [sel8, *], HP.out.1, (by first | exact HP.out.2.1 | simpa [he] using HP.out.2.1), (by first | exact HP.out.2.2 | simpa [he] using HP.out.2.2)⟩
    · simp only [List.getElem?_cons_zero, List.getElem?_cons_succ, Option.some.injEq] at ho
      subst ho
      try simp [Region.binds] at he
      clear q8
      try simp only [he, sel8_t]
      gi_wp2
      refine ⟨bm, s2, by simp [sel8, *], HP.out.1, (by first | exact HP.out.2.1 | simpa [he] using HP.out.2.1), (by first | exact HP.out.2.2 | simpa [he] using HP.out.2.2)⟩
    · simp only [List.getElem?_cons_zero, List.getElem?_cons_succ, Option.some.injEq] at ho
      subst ho
      try simp [Region.binds] at he
      have z8 : L 8 = false := by cases h : L 8 with | false => rfl | true => (have := q8 h; simp [hL] at this)
      clear q8
      gi_wp2
      refine ⟨bm, .pointer (some ⟨w2.heap.size, 0, none⟩), by simp [sel8, *], Adds.trans HP.out.1 (Gr.new _ _).adds, fun h => mapS_adds (HP.out.2.1 (by first | exact h | (simp [he]; done) | simpa [he] using h)) (Gr.new _ _).adds, fun _ => ⟨_, rfl, HP.out.1.size, ?_⟩⟩
      have e := BkS.new 165 w2 [.nilFunc, .nilFunc, .nilFunc, .nilFunc]
      simpa [z8] using e
    · simp only [List.getElem?_cons_zero, List.getElem?_cons_succ, Option.some.injEq] at ho
      subst ho
      try simp [Region.binds] at he
      clear q8
      have p7 : L 7 = true := by simp [he]
      have p5 : L 5 = true := by simp [he]
      obtain ⟨B, rfl, e2, e3⟩ := HP.out.2.2 p7
      rw [hL] at e3
      simp only [p7, p5, sel8_t]
      have HE3 := Lib.hid (show BkS 165 w2 B [.nilFunc, .nilFunc, .nilFunc, .nilFunc] from e3)
      have x0 : w2.cell? ⟨B, 0, none⟩ = some .nilFunc := HE3.out.cell 0
      have x1 : w2.cell? ⟨B, 1, none⟩ = some .nilFunc := HE3.out.cell 1
      have x2 : w2.cell? ⟨B, 2, none⟩ = some .nilFunc := HE3.out.cell 2
      have x3 : w2.cell? ⟨B, 3, none⟩ = some .nilFunc := HE3.out.cell 3
      have y0 := HE3.out.free 0
      have y1 := HE3.out.free 1
      have y2 := HE3.out.free 2
      have y3 := HE3.out.free 3
      have HE2 := Lib.hid e2
      clear e2 e3
      gi_wp2
      refine ⟨bm, .pointer (some ⟨B, 0, none⟩), by simp [sel8, *], ?_, fun h => ?_, fun _ => ⟨B, rfl, HE2.out, ?_⟩⟩
      · exact TnS.own HP.out.1 HE2.out ((((TnS.setCell _ _ _ _).trans (TnS.setCell _ _ _ _)).trans (TnS.setCell _ _ _ _)).trans (TnS.setCell _ _ _ _))
      · exact mapS_turn (HP.out.2.1 (by first | exact h | (simp [he]; done) | simpa [he] using h)) HE3.out ((((TnS.setCell _ _ _ _).trans (TnS.setCell _ _ _ _)).trans (TnS.setCell _ _ _ _)).trans (TnS.setCell _ _ _ _))
      · have := HE3.out.setP 0 v0 v1 v2 v3
        simpa [setP] using this
    · simp only [List.getElem?_cons_zero, List.getElem?_cons_succ, Option.some.injEq] at ho
      subst ho
      try simp [Region.binds] at he
      clear q8
      try simp only [he, sel8_t]
      gi_wp2
      refine ⟨bm, s2, by simp [sel8, *], HP.out.1, (by first | exact HP.out.2.1 | simpa [he] using HP.out.2.1), (by first | exact HP.out.2.2 | simpa [he] using HP.out.2.2)⟩
    · simp at ho
  case fin =>
    rintro b' w2 ⟨bm, s2, rfl, hA, _, hB⟩
    simp only [List.length_cons, List.length_nil, Nat.reduceAdd, Nat.reduceLT, decide_true, sel8_t] at hB ⊢
    obtain ⟨B, rfl, hB1, hB2⟩ := hB trivial
    simp only [cond_true] at hB2
    have x0 : w2.cell? ⟨B, 0, none⟩ = some v0 := hB2.cell 0
    have x1 : w2.cell? ⟨B, 1, none⟩ = some v1 := hB2.cell 1
    have x2 : w2.cell? ⟨B, 2, none⟩ = some v2 := hB2.cell 2
    have x3 : w2.cell? ⟨B, 3, none⟩ = some v3 := hB2.cell 3
    have k1 := HB1.out.adds hA
    have i0 : w2.cell? ⟨n1, 0, none⟩ = some (.int .i64 xo) := k1.cell 0
    have i1 : w2.cell? ⟨n1, 1, none⟩ = some (.int .i64 xa) := k1.cell 1
    have i2 : w2.cell? ⟨n1, 2, none⟩ = some (.int .i64 xb) := k1.cell 2
    have i3 : w2.cell? ⟨n1, 3, none⟩ = some (.int .i64 xc) := k1.cell 3
    have i4 : w2.cell? ⟨n1, 4, none⟩ = some (.int .u32 xi) := k1.cell 4
    have HA := Lib.hid hA
    clear hA hB1 hB2 k1
    cases ok
    · have hr := HNo.out rfl
      subst hr
      clear HOk
      go_wp2_with fail
      exact ⟨rfl, by simp [HoldPost]; exact Adds.trans HA1.out HA.out⟩
    · have HC := Lib.hid (HOk.out rfl w2)
      cases r
      · go_wp2_with (go_at_call 118; refine HC.out.mono ?_; rintro e w3 ⟨rfl, q⟩; have HA3 := Lib.hid q; clear q)
        exact ⟨rfl, by simp [HoldPost]; exact Adds.trans HA1.out (Adds.trans HA.out HA3.out)⟩
      · go_wp2_with (go_at_call 118; refine HC.out.mono ?_; rintro e w3 ⟨rfl, q⟩; have HA3 := Lib.hid q; clear q)
        go_end0
        exact ⟨by simp, Adds.trans HA1.out (Adds.trans HA.out HA3.out)⟩
/-- An instruction's numbers, as its type has them. -/
structure OkIn (x : In) : Prop where
  op : (Lit.int .i64 x.1).wf = true
  imm : 0 ≤ x.2.2.2.2 ∧ x.2.2.2.2 < 4294967296
theorem hold8 (x : In) (hx : OkIn x) (w : World) : Calls Tryz.prog 108 #[insV x] w (HoldPost (mayI x) w) := by
  by_cases h : 1 ≤ x.1 ∧ x.1 ≤ 19
  · obtain ⟨k, hk⟩ : ∃ k : Nat, x.1 = k := ⟨x.1.toNat, by omega⟩
    have e : mayI x = holdsL (partsN k) x := by
      unfold mayI
      rw [decide_eq_true h, hk]
      rfl
    rw [e]
    exact hold_it (shOf k) true _ x w (fun W bm hM => by rw [hk]; exact look_op k (by omega) (by omega) bm W hM) (fun _ W => shapeHolds8 k (by omega) (by omega) x hx.imm W) (fun h => by cases h)
  · have e : mayI x = false := by
      unfold mayI
      rw [decide_eq_false h]
      rfl
    rw [e]
    exact hold_it (0, 0, 0, 0) false false x w (fun W bm hM => look_no x.1 hx.op h bm W hM) (fun h => by cases h) (fun _ => rfl)
end Go.Proofs.YtdkgehhlikaocaaGreat
namespace Go.Proofs.YtdkgehhlikaocaaGreat
open Go Go.RowKit Go.Shelf Go.Lib

set_option maxRecDepth 100000 in
theorem told8 (v : Int) (w : World) : Calls Tryz.prog 107 #[.iface 162 (.int .i64 v)] w fun e w' => e = .returned (.int .i64 v) ∧ w = w' := by
  have ht : ∀ w : World, (Instr.typeAssert (.iface 162 (.int .i64 v)) 20 162 false).run Tryz.prog w = .ok (.int .i64 v) w := fun _ => by kernel_rfl
  go_enter Tryz.func107, Tryz.ntmps107
  go_wp2
  go_ret
  exact ⟨rfl, rfl⟩
theorem iface_some (t : TypeId) (v : Value) (w : World) : (binOp .neq 20 (.iface t v) .nilIface).run Tryz.prog w = .ok (.bool true) w := by kernel_rfl
theorem iface_none (w : World) : (binOp .neq 20 .nilIface .nilIface).run Tryz.prog w = .ok (.bool false) w := by kernel_rfl
set_option maxRecDepth 100000 in
theorem catch_check (b : Nat) (x v : Int) (older : List PanicEntry) (w : World) (hB : BkS 32 w b [.int .i64 x]) :
    CallsD Tryz.prog 106 #[.pointer (some ⟨b, 0, none⟩)] (.panicking ({ v := .iface 162 (.int .i64 v), recovered := false } :: older)) w fun e u' w' =>
      e = .returned (.tuple #[]) ∧ u' = .panicking ({ v := .iface 162 (.int .i64 v), recovered := true } :: older) ∧ w' = w.setCell ⟨b, 0, none⟩ (.int .i64 v) := by
  have c0 : w.cell? ⟨b, 0, none⟩ = some (.int .i64 x) := hB.cell 0
  have f0 := hB.free 0
  have hn := iface_some 162 (.int .i64 v)
  have HT := Lib.hid (told8 v w)
  clear hB
  refine callsD_of_wpS Tryz.func106 rfl fun c₀ cs hu => ?_
  apply wpS_seq
  apply wpS_region
  simp [wpOpsS, go_sem, recoverD, hu, Tryz.ntmps106, Exit.thenS]
  refine wpS_of_wp ?_
  simp only [Array.replicate_succ, Array.replicate_zero, List.push_toArray, List.append_toArray, List.nil_append, List.cons_append, List.setIfInBounds_toArray, List.set_cons_zero, List.set_cons_succ]
  go_wp2_with (go_at_call 107; refine HT.out.mono ?_; rintro e w2 ⟨rfl, rfl⟩)
  simp [bodyPostS, results, Tryz.results106]
set_option maxRecDepth 100000 in
theorem idle_check (p : Value) (w : World) :
    CallsD Tryz.prog 106 #[p] .returning w fun e u' w' => e = .returned (.tuple #[]) ∧ u' = .returning ∧ w' = w := by
  have hn := iface_none
  refine callsD_of_wpS Tryz.func106 rfl fun c₀ cs hu => ?_
  apply wpS_seq
  apply wpS_region
  simp [wpOpsS, go_sem, recoverD, hu, Tryz.ntmps106, Exit.thenS]
  refine wpS_of_wp ?_
  simp only [Array.replicate_succ, Array.replicate_zero, List.push_toArray, List.append_toArray, List.nil_append, List.cons_append, List.setIfInBounds_toArray, List.set_cons_zero, List.set_cons_succ]
  go_wp2_with fail
  cases c₀
  simp_all [bodyPostS, results, Tryz.results106]
/-- The error of an instruction. -/
def errI (x : In) : Int := if mayI x then 0 else 2
set_option maxRecDepth 100000 in
set_option maxHeartbeats 2000000 in
theorem check8 (x : In) (hx : OkIn x) (w : World) : Calls Tryz.prog 97 #[insV x] w fun e w' => e = .returned (.int .i64 (errI x)) ∧ Adds w w' := by
  have hmf : ∀ (fn : Fn) (first cap : Array Value) (w : World), (Instr.makeFunc fn first cap).run Tryz.prog w = .ok (.func fn first cap) w := fun _ _ _ _ => rfl
  obtain ⟨w1, hw1⟩ : ∃ w1, (w.alloc (.cells (insC x).toArray 56)).alloc (.cells #[.int .i64 0] 32) = w1 := ⟨_, rfl⟩
  have HA1 := Lib.hid (show Adds w w1 by rw [← hw1]; exact ((Gr.new _ _).alloc _).adds)
  have HB1 := Lib.hid (show BkS 56 w1 w.heap.size (insC x) by rw [← hw1]; exact (BkS.new _ _ _).adds (Gr.new _ _).adds)
  have HB2 := Lib.hid (show BkS 32 w1 (w.heap.size + 1) [.int .i64 0] by rw [← hw1]; unfold BkS; exact heap_new1 _ _ _)
  have HH := Lib.hid (hold8 x hx w1)
  unfold errI
  obtain ⟨xo, xa, xb, xc, xi⟩ := x
  have i0 : w1.cell? ⟨w.heap.size, 0, none⟩ = some (.int .i64 xo) := HB1.out.cell 0
  have i1 : w1.cell? ⟨w.heap.size, 1, none⟩ = some (.int .i64 xa) := HB1.out.cell 1
  have i2 : w1.cell? ⟨w.heap.size, 2, none⟩ = some (.int .i64 xb) := HB1.out.cell 2
  have i3 : w1.cell? ⟨w.heap.size, 3, none⟩ = some (.int .i64 xc) := HB1.out.cell 3
  have i4 : w1.cell? ⟨w.heap.size, 4, none⟩ = some (.int .u32 xi) := HB1.out.cell 4
  cases hm : mayI (xo, xa, xb, xc, xi)
  · rw [hm] at HH
    have HHc := Lib.hid (show Calls Tryz.prog 108 #[insV (xo, xa, xb, xc, xi)] w1 fun e w' => e = .panicked [{ v := .iface 162 (.int .i64 2), recovered := false }] ∧ Adds w1 w' from HH.out.mono fun e w' h => by simpa [HoldPost] using h)
    clear HH hm
    go_enter_defers Tryz.func97, Tryz.ntmps97
    go_wp2_with (go_at_call 108; refine HHc.out.mono ?_; rintro e w2 ⟨rfl, q⟩; have HA2 := Lib.hid q; clear q)
    have b2 := HB2.out.adds HA2.out
    have d0 : w2.cell? ⟨w.heap.size + 1, 0, none⟩ = some (.int .i64 0) := b2.cell 0
    refine leaves_cons (f := 106) (args := #[.pointer (some ⟨w.heap.size + 1, 0, none⟩)]) (by simp) (by simp [go_sem]) ?_
    refine (catch_check (w.heap.size + 1) 0 2 [] w2 b2).mono ?_
    rintro e u' w'' ⟨rfl, rfl, rfl⟩
    have hA := Adds.set (Adds.trans HA1.out HA2.out) (b := w.heap.size + 1) (by omega) 0 (.int .i64 2)
    simp [Leaves, settle, results, Tryz.results97, go_sem, d0]
    exact hA
  · rw [hm] at HH
    have HHc := Lib.hid (show Calls Tryz.prog 108 #[insV (xo, xa, xb, xc, xi)] w1 fun e w' => e = .returned (.tuple #[]) ∧ Adds w1 w' from HH.out.mono fun e w' h => by simpa [HoldPost] using h)
    clear HH hm
    go_enter_defers Tryz.func97, Tryz.ntmps97
    go_wp2_with (go_at_call 108; refine HHc.out.mono ?_; rintro e w2 ⟨rfl, q⟩; have HA2 := Lib.hid q; have b2 := HB2.out.adds q; have d0 : w2.cell? ⟨w.heap.size + 1, 0, none⟩ = some (.int .i64 0) := b2.cell 0; have f0 := b2.free 0; clear q b2)
    refine leaves_cons (f := 106) (args := #[.pointer (some ⟨w.heap.size + 1, 0, none⟩)]) (by simp) (by simp [go_sem]) ?_
    refine (idle_check _ _).mono ?_
    rintro e u' w'' ⟨rfl, rfl, rfl⟩
    have hA := Adds.set (Adds.trans HA1.out HA2.out) (b := w.heap.size + 1) (by omega) 0 (.int .i64 0)
    simp [Leaves, settle, results, Tryz.results97, go_sem, d0]
    exact hA
end Go.Proofs.YtdkgehhlikaocaaGreat
