/- Merged: IF7. -/
import Derived.WalkSmall
import Derived.Test.YthhegcngkpfcoaaGreatY8
namespace Go.Proofs.YthhegcngkpfcoaaGreat
open Go Go.RowKit Go.Shelf Go.Lib

theorem mapS_same {w w' : World} {b n : Nat} (h : MapS w b n) (hb : w'.heap[b]? = w.heap[b]?) : MapS w' b n := by
  obtain ⟨es0, clock, h0, F, hs, hD⟩ := h
  exact ⟨es0, clock, hb.trans h0, F, hs, hD⟩
theorem mapS_lt {w : World} {b n : Nat} (h : MapS w b n) : b < w.heap.size := by
  obtain ⟨es0, clock, h0, _⟩ := h
  exact (Array.getElem?_eq_some_iff.1 h0).1
theorem mapS_adds {w w' : World} {b n : Nat} (h : MapS w b n) (ha : Adds w w') : MapS w' b n := mapS_same h (ha.block b (mapS_lt h))
theorem mapS_turn {w w' : World} {b n B : Nat} {t : TypeId} {l : List Value} (h : MapS w b n) (hB : BkS t w B l) (ht : TnS B w w') : MapS w' b n := by
  refine mapS_same h (ht.block b (mapS_lt h) (fun e => ?_))
  cases e
  obtain ⟨es0, clock, h0, _⟩ := h
  unfold BkS at hB
  rw [h0] at hB
  cases hB
/-- How region 1 of hold stands: the shape lies in a box of its own. -/
def RegL8 (W0 : World) (l0 l7 l8 : Bool) (bm : Nat) (sv : List Value) (s2 : Value) (b' fr : Act) (w2 : World) : Prop :=
  b' = fr ∧ Adds W0 w2 ∧ (l0 = true → MapS w2 bm 19) ∧ (l7 = true → ∃ B, s2 = .pointer (some ⟨B, 0, none⟩) ∧ W0.heap.size ≤ B ∧ BkS 166 w2 B (cond l8 sv [.nilFunc, .nilFunc, .nilFunc, .nilFunc]))
/-- What hold does: it goes on where the instruction may be, else it gives up with ErrArg. -/
def HoldPost (r : Bool) (w : World) (e : Ending) (w' : World) : Prop :=
  (if r then e = .returned (.tuple #[]) else e = .panicked [{ v := .iface 163 (.int .i64 2), recovered := false }]) ∧ Adds w w'
set_option maxRecDepth 100000 in
set_option maxHeartbeats 4000000 in
theorem hold_it (s : Sh) (ok r : Bool) (x : In) (w : World) (hlk : ∀ W bm, MapS W bm 19 → (Instr.lookup 168 (.map (some bm)) (.int .i64 x.1) true).run Tryz.prog W = .ok (.tuple #[shapeV s, .bool ok]) W)
    (hok : ok = true → ∀ W, Calls Tryz.prog 119 #[shapeV s, insV x] W fun e w' => e = .returned (.bool r) ∧ Adds W w') (hno : ok = false → r = false) :
    Calls Tryz.prog 109 #[insV x] w (HoldPost r w) := by
  have hmx : Tryz.prog.follows .mixedOrders = true := by kernel_rfl
  have HLk := Lib.hid hlk
  have HOk := Lib.hid hok
  unfold shapeV at HLk HOk
  have hs0 : ∀ (a : Addr) (m : Mode) (w : World), (store a (slotV s.1) m).run Tryz.prog w = stored Tryz.prog w a (slotV s.1) m := fun a m w => run_store _ w a _ m (slot_one _)
  have hs1 : ∀ (a : Addr) (m : Mode) (w : World), (store a (slotV s.2.1) m).run Tryz.prog w = stored Tryz.prog w a (slotV s.2.1) m := fun a m w => run_store _ w a _ m (slot_one _)
  have hs2 : ∀ (a : Addr) (m : Mode) (w : World), (store a (slotV s.2.2.1) m).run Tryz.prog w = stored Tryz.prog w a (slotV s.2.2.1) m := fun a m w => run_store _ w a _ m (slot_one _)
  have hs3 : ∀ (a : Addr) (m : Mode) (w : World), (store a (slotV s.2.2.2) m).run Tryz.prog w = stored Tryz.prog w a (slotV s.2.2.2) m := fun a m w => run_store _ w a _ m (slot_one _)
  generalize slotV s.1 = v0 at HLk HOk hs0
  generalize slotV s.2.1 = v1 at HLk HOk hs1
  generalize slotV s.2.2.1 = v2 at HLk HOk hs2
  generalize slotV s.2.2.2 = v3 at HLk HOk hs3
  have HNo := Lib.hid hno
  clear hlk hok hno
  obtain ⟨xo, xa, xb, xc, xi⟩ := x
  obtain ⟨w1, hw1⟩ : ∃ w1, w.alloc (.cells (insC (xo, xa, xb, xc, xi)).toArray 37) = w1 := ⟨_, rfl⟩
  have HA1 := Lib.hid (show Adds w w1 by rw [← hw1]; exact (Gr.new _ _).adds)
  have HB1 := Lib.hid (show BkS 37 w1 w.heap.size (insC (xo, xa, xb, xc, xi)) by rw [← hw1]; exact BkS.new _ _ _)
  go_enter Tryz.func109, Tryz.ntmps109
  go_wp2_with fail
  clear hw1
  obtain ⟨n1, hn1⟩ : ∃ n1, w.heap.size = n1 := ⟨_, rfl⟩
  rw [hn1] at HB1 ⊢
  clear hn1
  refine (wpIn_wide (n := 6)).1 ?_
  refine wpIn_region_inv (fun L b' w2 => ∃ (bm : Nat) (s2 : Value), RegL8 w1 (L 0) (L 7) (L 8) bm [v0, v1, v2, v3] s2 b' ({ tmps := #[insV (xo, xa, xb, xc, xi), Value.pointer (some { block := n1, off := 0 }), sel8 (L 7) (s2) (undef), sel8 (L 9) (Value.bool ok) (undef), sel8 (L 4) (Value.tuple #[Value.agg #[v0, v1, v2, v3], Value.bool ok]) (undef), sel8 (L 0) (Value.map (some bm)) (undef), sel8 (L 1) (Value.pointer (some { block := n1, off := 0 })) (undef), sel8 (L 2) (Value.int IntKind.i64 xo) (undef), sel8 (L 3) (Value.tuple #[Value.agg #[v0, v1, v2, v3], Value.bool ok]) (undef), sel8 (L 5) (Value.agg #[v0, v1, v2, v3]) (undef), sel8 (L 6) (Value.bool ok) (undef), undef, undef, undef, undef, undef, undef, undef, undef, undef], defers := [] }) w2) hmx (by kernel_rfl) ?inv0 ?step ?fin
  case inv0 => exact ⟨0, undef, rfl, Adds.drew _, fun h => (by cases h), fun h => (by cases h)⟩
  case step =>
    rintro L b' w2 i o ho hL hC he ⟨bm, s2, rfl, hP⟩
    have q8 := hC 8 _ rfl
    simp [Region.binds] at q8
    have HP := Lib.hid hP
    have k1 := HB1.out.adds hP.1
    have i0 : w2.cell? ⟨n1, 0, none⟩ = some (.int .i64 xo) := k1.cell 0
    clear hC hP k1
    rcases i with _ | _ | _ | _ | _ | _ | _ | _ | _ | _ | i
    · simp only [List.getElem?_cons_zero, Option.some.injEq] at ho
      subst ho
      try simp [Region.binds] at he
      clear q8
      gi_wp2_with (refine ⟨trivial, ?_⟩; gi_at_call 118; refine (callsIn_wide.2 (shapes_any w2)).mono ?_; rintro e w3 ⟨b9, rfl, _, hm, hA3⟩; have HA3 := Lib.hid hA3; have HM3 := Lib.hid hm; clear hA3 hm)
      refine ⟨b9, s2, by simp [sel8, *], Adds.trans HP.out.1 HA3.out, fun _ => HM3.out, fun h => ?_⟩
      obtain ⟨B, e1, e2, e3⟩ := HP.out.2.2 (by first | exact h | (simp [he]; done) | simpa [he] using h)
      exact ⟨B, e1, e2, by first | exact e3.adds HA3.out | simpa [he] using e3.adds HA3.out⟩
    · simp only [List.getElem?_cons_zero, List.getElem?_cons_succ, Option.some.injEq] at ho
      subst ho
      try simp [Region.binds] at he
      clear q8
      try simp only []
      gi_wp2
      refine ⟨bm, s2, by simp [sel8, *], HP.out.1, (by first | exact HP.out.2.1 | simpa [he] using HP.out.2.1), (by first | exact HP.out.2.2 | simpa [he] using HP.out.2.2)⟩
    · simp only [List.getElem?_cons_zero, List.getElem?_cons_succ, Option.some.injEq] at ho
      subst ho
      try simp [Region.binds] at he
      clear q8
      try simp only [he, sel8_t]
      gi_wp2
      refine ⟨bm, s2, by simp [sel8, *], HP.out.1, (by first | exact HP.out.2.1 | simpa [he] using HP.out.2.1), (by first | exact HP.out.2.2 | simpa [he] using HP.out.2.2)⟩
    · simp only [List.getElem?_cons_zero, List.getElem?_cons_succ, Option.some.injEq] at ho
      subst ho
      try simp [Region.binds] at he
      clear q8
      have p0 : L 0 = true := by simp [he]
      have hlk := HLk.out w2 bm (HP.out.2.1 p0)
      try simp only [he, sel8_t]
      gi_wp2
      refine ⟨bm, s2, by simp [sel8, *], HP.out.1, (by first | exact HP.out.2.1 | simpa [he] using HP.out.2.1), (by first | exact HP.out.2.2 | simpa [he] using HP.out.2.2)⟩
    · simp only [List.getElem?_cons_zero, List.getElem?_cons_succ, Option.some.injEq] at ho
      subst ho
      try simp [Region.binds] at he
      clear q8
      try simp only [he, sel8_t]
      gi_wp2
      refine ⟨bm, s2, by simp [sel8, *], HP.out.1, (by first | exact HP.out.2.1 | simpa [he] using HP.out.2.1), (by first | exact HP.out.2.2 | simpa [he] using HP.out.2.2)⟩
    · simp only [List.getElem?_cons_zero, List.getElem?_cons_succ, Option.some.injEq] at ho
      subst ho
      try simp [Region.binds] at he
      clear q8
      try simp only [he, sel8_t]
      gi_wp2
      refine ⟨bm, s2, by simp [sel8, *], HP.out.1, (by first | exact HP.out.2.1 | simpa [he] using HP.out.2.1), (by first | exact HP.out.2.2 | simpa [he] using HP.out.2.2)⟩
    · simp only [List.getElem?_cons_zero, List.getElem?_cons_succ, Option.some.injEq] at ho
      subst ho
      try simp [Region.binds] at he
      clear q8
      try simp only [he, sel8_t]
      gi_wp2
      refine ⟨bm, s2, by simp [sel8, *], HP.out.1, (by first | exact HP.out.2.1 | simpa [he] using HP.out.2.1), (by first | exact HP.out.2.2 | simpa [he] using HP.out.2.2)⟩
    · simp only [List.getElem?_cons_zero, List.getElem?_cons_succ, Option.some.injEq] at ho
      subst ho
      try simp [Region.binds] at he
      have z8 : L 8 = false := by cases h : L 8 with | false => rfl | true => (have := q8 h; simp [hL] at this)
      clear q8
      gi_wp2
      refine ⟨bm, .pointer (some ⟨w2.heap.size, 0, none⟩), by simp [sel8, *], Adds.trans HP.out.1 (Gr.new _ _).adds, fun h => mapS_adds (HP.out.2.1 (by first | exact h | (simp [he]; done) | simpa [he] using h)) (Gr.new _ _).adds, fun _ => ⟨_, rfl, HP.out.1.size, ?_⟩⟩
      have e := BkS.new 166 w2 [.nilFunc, .nilFunc, .nilFunc, .nilFunc]
      simpa [z8] using e
    · simp only [List.getElem?_cons_zero, List.getElem?_cons_succ, Option.some.injEq] at ho
      subst ho
      try simp [Region.binds] at he
      clear q8
      have p7 : L 7 = true := by simp [he]
      have p5 : L 5 = true := by simp [he]
      obtain ⟨B, rfl, e2, e3⟩ := HP.out.2.2 p7
      rw [hL] at e3
      simp only [p7, p5, sel8_t]
      have HE3 := Lib.hid (show BkS 166 w2 B [.nilFunc, .nilFunc, .nilFunc, .nilFunc] from e3)
      have x0 : w2.cell? ⟨B, 0, none⟩ = some .nilFunc := HE3.out.cell 0
      have x1 : w2.cell? ⟨B, 1, none⟩ = some .nilFunc := HE3.out.cell 1
      have x2 : w2.cell? ⟨B, 2, none⟩ = some .nilFunc := HE3.out.cell 2
      have x3 : w2.cell? ⟨B, 3, none⟩ = some .nilFunc := HE3.out.cell 3
      have y0 := HE3.out.free 0
      have y1 := HE3.out.free 1
      have y2 := HE3.out.free 2
      have y3 := HE3.out.free 3
      have HE2 := Lib.hid e2
      clear e2 e3
      gi_wp2
      refine ⟨bm, .pointer (some ⟨B, 0, none⟩), by simp [sel8, *], ?_, fun h => ?_, fun _ => ⟨B, rfl, HE2.out, ?_⟩⟩
      · exact TnS.own HP.out.1 HE2.out ((((TnS.setCell _ _ _ _).trans (TnS.setCell _ _ _ _)).trans (TnS.setCell _ _ _ _)).trans (TnS.setCell _ _ _ _))
      · exact mapS_turn (HP.out.2.1 (by first | exact h | (simp [he]; done) | simpa [he] using h)) HE3.out ((((TnS.setCell _ _ _ _).trans (TnS.setCell _ _ _ _)).trans (TnS.setCell _ _ _ _)).trans (TnS.setCell _ _ _ _))
      · have := HE3.out.setP 0 v0 v1 v2 v3
        simpa [setP] using this
    · simp only [List.getElem?_cons_zero, List.getElem?_cons_succ, Option.some.injEq] at ho
      subst ho
      try simp [Region.binds] at he
      clear q8
      try simp only [he, sel8_t]
      gi_wp2
      refine ⟨bm, s2, by simp [sel8, *], HP.out.1, (by first | exact HP.out.2.1 | simpa [he] using HP.out.2.1), (by first | exact HP.out.2.2 | simpa [he] using HP.out.2.2)⟩
    · simp at ho
  case fin =>
    rintro b' w2 ⟨bm, s2, rfl, hA, _, hB⟩
    simp only [List.length_cons, List.length_nil, Nat.reduceAdd, Nat.reduceLT, decide_true, sel8_t] at hB ⊢
    obtain ⟨B, rfl, hB1, hB2⟩ := hB trivial
    simp only [cond_true] at hB2
    have x0 : w2.cell? ⟨B, 0, none⟩ = some v0 := hB2.cell 0
    have x1 : w2.cell? ⟨B, 1, none⟩ = some v1 := hB2.cell 1
    have x2 : w2.cell? ⟨B, 2, none⟩ = some v2 := hB2.cell 2
    have x3 : w2.cell? ⟨B, 3, none⟩ = some v3 := hB2.cell 3
    have k1 := HB1.out.adds hA
    have i0 : w2.cell? ⟨n1, 0, none⟩ = some (.int .i64 xo) := k1.cell 0
    have i1 : w2.cell? ⟨n1, 1, none⟩ = some (.int .i64 xa) := k1.cell 1
    have i2 : w2.cell? ⟨n1, 2, none⟩ = some (.int .i64 xb) := k1.cell 2
    have i3 : w2.cell? ⟨n1, 3, none⟩ = some (.int .i64 xc) := k1.cell 3
    have i4 : w2.cell? ⟨n1, 4, none⟩ = some (.int .u32 xi) := k1.cell 4
    have HA := Lib.hid hA
    clear hA hB1 hB2 k1
    cases ok
    · have hr := HNo.out rfl
      subst hr
      clear HOk
      go_wp2_with fail
      exact ⟨rfl, by simp [HoldPost]; exact Adds.trans HA1.out HA.out⟩
    · have HC := Lib.hid (HOk.out rfl w2)
      cases r
      · go_wp2_with (go_at_call 119; refine HC.out.mono ?_; rintro e w3 ⟨rfl, q⟩; have HA3 := Lib.hid q; clear q)
        exact ⟨rfl, by simp [HoldPost]; exact Adds.trans HA1.out (Adds.trans HA.out HA3.out)⟩
      · go_wp2_with (go_at_call 119; refine HC.out.mono ?_; rintro e w3 ⟨rfl, q⟩; have HA3 := Lib.hid q; clear q)
        go_end0
        exact ⟨by simp, Adds.trans HA1.out (Adds.trans HA.out HA3.out)⟩
/-- An instruction's numbers, as its type has them. -/
structure OkIn (x : In) : Prop where
  op : (Lit.int .i64 x.1).wf = true
  imm : 0 ≤ x.2.2.2.2 ∧ x.2.2.2.2 < 4294967296
theorem hold8 (x : In) (hx : OkIn x) (w : World) : Calls Tryz.prog 109 #[insV x] w (HoldPost (mayI x) w) := by
  by_cases h : 1 ≤ x.1 ∧ x.1 ≤ 19
  · obtain ⟨k, hk⟩ : ∃ k : Nat, x.1 = k := ⟨x.1.toNat, by omega⟩
    have e : mayI x = holdsL (partsN k) x := by
      unfold mayI
      rw [decide_eq_true h, hk]
      rfl
    rw [e]
    exact hold_it (shOf k) true _ x w (fun W bm hM => by rw [hk]; exact look_op k (by omega) (by omega) bm W hM) (fun _ W => shapeHolds8 k (by omega) (by omega) x hx.imm W) (fun h => by cases h)
  · have e : mayI x = false := by
      unfold mayI
      rw [decide_eq_false h]
      rfl
    rw [e]
    exact hold_it (0, 0, 0, 0) false false x w (fun W bm hM => look_no x.1 hx.op h bm W hM) (fun h => by cases h) (fun _ => rfl)
end Go.Proofs.YthhegcngkpfcoaaGreat
