/- Merged: IR3. -/
import Derived.Test.YthhegcngkpfcoaaGreatDoorF17
namespace Go.Proofs.YthhegcngkpfcoaaGreatDoor
open Go Go.RowKit Go.Shelf Go.Lib

/-- A block that was made since turns too. -/
theorem TnS.mine {b c : Nat} {u v w : World} (h : TnS b u v) (hc : u.heap.size ≤ c) (k : TnS c v w) : TnS b u w :=
  ⟨k.os.trans h.os, k.tape.trans h.tape, k.output.trans h.output, Nat.le_trans h.size k.size, fun i hi hb => (k.block i (Nat.lt_of_lt_of_le hi h.size) (fun e => by cases e; omega)).trans (h.block i hi hb)⟩
def RegI8 (W0 : World) (l15 l16 : Bool) (y : List Value) (s5 : Value) (b' fr : Act) (w2 : World) : Prop :=
  b' = fr ∧ Adds W0 w2 ∧ (l15 = true → ∃ B, s5 = .pointer (some ⟨B, 0, none⟩) ∧ W0.heap.size ≤ B ∧ BkS 59 w2 B (cond l16 y (insC (0, 0, 0, 0, 0))))
set_option maxRecDepth 100000 in
set_option maxHeartbeats 4000000 in
theorem readO8 {n : Nat} (br : Nat) (v : Value) (l : List UInt8) (k : Nat) (hk : k ≤ l.length) (w : World) (hn : n ≤ w.heap.size) (hv : Bytes n w v l) (hw : Widths w) (hr : BkS 186 w br (rdC v k)) :
    Calls Tryz.prog 136 #[.pointer (some ⟨br, 0, none⟩), .func (.func 137) #[] #[]] w
      (RdPost8 (decide (¬ (l.drop k).length < 1)) (insV ((rfN (l.drop k) 1 : Nat), 0, 0, 0, 0)) br v (k + 1) w) := by
  have hmx : Tryz.prog.follows .mixedOrders = true := by kernel_rfl
  obtain ⟨ao, cap, rfl, hv1, hv2, hv3⟩ := id hv
  have HNum := Lib.hid (fun (W : World) (h : Adds w W) => one8 (cutF ao l.length cap k) (l.drop k) W (bytes_from (hv.below (h.mono hn)) k hk) (hw.adds h))
  have HFr := Lib.hid (fun (W : World) => from8 ao l.length cap k hk W)
  have HRd := Lib.hid hr
  have HE := Lib.hid (rfE_is (l.drop k) (wd := 1) (.inl rfl))
  rw [show (1 : Int).toNat = 1 from rfl] at HE
  obtain ⟨m, hm⟩ : ∃ m, rfN (l.drop k) 1 = m := ⟨_, rfl⟩
  obtain ⟨er, her⟩ : ∃ er, rfE (l.drop k) 1 = er := ⟨_, rfl⟩
  rw [hm] at HNum ⊢
  rw [her] at HNum HE
  obtain ⟨cu, hcu⟩ : ∃ cu, cutF ao l.length cap k = cu := ⟨_, rfl⟩
  rw [hcu] at HNum HFr
  unfold maxLen at hv2
  have HKl := Lib.hid (And.intro hk (And.intro hv1 hv2))
  obtain ⟨ok, hok⟩ : ∃ ok, decide (¬ (l.drop k).length < 1) = ok := ⟨_, rfl⟩
  rw [hok]
  have HOk := Lib.hid hok
  clear hm her hv hw hr hv1 hv2 hv3 hk hok hcu hn
  obtain ⟨w1, hw1⟩ : ∃ w1, w.alloc (.cells #[.int .i64 0, .int .i64 0, .int .i64 0, .int .i64 0, .int .u32 0] 59) = w1 := ⟨_, rfl⟩
  have HA1 := Lib.hid (show Adds w w1 by rw [← hw1]; exact (Gr.new _ _).adds)
  have HB4 := Lib.hid (show BkS 59 w1 w.heap.size (insC (0, 0, 0, 0, 0)) by rw [← hw1]; exact BkS.new _ _ _)
  have HR1 := Lib.hid (HRd.out.adds HA1.out)
  go_enter Tryz.func136, Tryz.ntmps136
  go_wp2_with fail
  clear hw1
  obtain ⟨n4, hn4⟩ : ∃ n4, w.heap.size = n4 := ⟨_, rfl⟩
  have HN4 := Lib.hid hn4
  rw [hn4] at HB4 ⊢
  clear hn4
  refine (wpIn_wide (n := 6)).1 ?_
  refine wpIn_region_inv (fun L b' w2 => ∃ s5 : Value, RegI8 w1 (L 15) (L 16) (insC ((m : Nat), 0, 0, 0, 0)) s5 b' ({ tmps := #[Value.pointer (some { block := br, off := 0 }), Value.func (Fn.func 137) #[] #[], undef, undef, Value.pointer (some { block := n4, off := 0 }), sel8 (L 15) (s5) (undef), sel8 (L 17) (Value.int IntKind.i64 1) (undef), sel8 (L 18) (Value.int IntKind.i64 er) (undef), sel8 (L 11) (Value.tuple #[insV (((m : Nat) : Int), 0, 0, 0, 0), Value.int IntKind.i64 1, Value.int IntKind.i64 er]) (undef), sel8 (L 0) (Value.func (Fn.func 137) #[] #[]) (undef), sel8 (L 1) (Value.pointer (some { block := br, off := 0 })) (undef), sel8 (L 2) (Value.pointer (some { block := br, off := 0 })) (undef), sel8 (L 3) (Value.pointer (some { block := br, off := 0 })) (undef), sel8 (L 4) (Value.slice ao l.length cap) (undef), sel8 (L 5) (Value.pointer (some { block := br, off := 0 })) (undef), sel8 (L 6) (Value.pointer (some { block := br, off := 0 })) (undef), sel8 (L 7) (Value.pointer (some { block := br, off := 1 })) (undef), sel8 (L 8) (Value.int IntKind.i64 ((k : Nat) : Int)) (undef), sel8 (L 9) (cu) (undef), sel8 (L 10) (Value.tuple #[insV (((m : Nat) : Int), 0, 0, 0, 0), Value.int IntKind.i64 1, Value.int IntKind.i64 er]) (undef), sel8 (L 12) (insV (((m : Nat) : Int), 0, 0, 0, 0)) (undef), sel8 (L 13) (Value.int IntKind.i64 1) (undef), sel8 (L 14) (Value.int IntKind.i64 er) (undef), undef, undef, undef, undef, undef, undef, undef, undef, undef, undef, undef, undef, undef], defers := [] }) w2) hmx (by kernel_rfl) ?inv0 ?step ?fin
  case inv0 => exact ⟨undef, rfl, Adds.drew _, fun h => (by cases h)⟩
  case step =>
    rintro L b' w2 i o ho hL hC he ⟨s5, rfl, hP⟩
    have q16 := hC 16 _ rfl
    simp [Region.binds] at q16
    have HP := Lib.hid hP
    have k1 := HR1.out.adds hP.1
    have i0 : w2.cell? ⟨br, 0, none⟩ = some (.slice ao l.length cap) := k1.cell 0
    have i1 : w2.cell? ⟨br, 1, none⟩ = some (.int .i64 (k : Int)) := k1.cell 1
    clear hC hP k1
    rcases i with _ | _ | _ | _ | _ | _ | _ | _ | _ | _ | _ | _ | _ | _ | _ | _ | _ | _ | _ | i
    · simp only [List.getElem?_cons_zero, Option.some.injEq] at ho
      subst ho
      try simp [Region.binds] at he
      clear q16
      try simp only []
      gi_wp2
      refine ⟨s5, by simp [sel8, *], HP.out.1, (by first | exact HP.out.2 | simpa [he] using HP.out.2)⟩
    · simp only [List.getElem?_cons_zero, List.getElem?_cons_succ, Option.some.injEq] at ho
      subst ho
      try simp [Region.binds] at he
      clear q16
      try simp only []
      gi_wp2
      refine ⟨s5, by simp [sel8, *], HP.out.1, (by first | exact HP.out.2 | simpa [he] using HP.out.2)⟩
    · simp only [List.getElem?_cons_zero, List.getElem?_cons_succ, Option.some.injEq] at ho
      subst ho
      try simp [Region.binds] at he
      clear q16
      try simp only [he, sel8_t]
      gi_wp2
      refine ⟨s5, by simp [sel8, *], HP.out.1, (by first | exact HP.out.2 | simpa [he] using HP.out.2)⟩
    · simp only [List.getElem?_cons_zero, List.getElem?_cons_succ, Option.some.injEq] at ho
      subst ho
      try simp [Region.binds] at he
      clear q16
      try simp only [he, sel8_t]
      gi_wp2
      refine ⟨s5, by simp [sel8, *], HP.out.1, (by first | exact HP.out.2 | simpa [he] using HP.out.2)⟩
    · simp only [List.getElem?_cons_zero, List.getElem?_cons_succ, Option.some.injEq] at ho
      subst ho
      try simp [Region.binds] at he
      clear q16
      try simp only [he, sel8_t]
      gi_wp2
      refine ⟨s5, by simp [sel8, *], HP.out.1, (by first | exact HP.out.2 | simpa [he] using HP.out.2)⟩
    · simp only [List.getElem?_cons_zero, List.getElem?_cons_succ, Option.some.injEq] at ho
      subst ho
      try simp [Region.binds] at he
      clear q16
      try simp only []
      gi_wp2
      refine ⟨s5, by simp [sel8, *], HP.out.1, (by first | exact HP.out.2 | simpa [he] using HP.out.2)⟩
    · simp only [List.getElem?_cons_zero, List.getElem?_cons_succ, Option.some.injEq] at ho
      subst ho
      try simp [Region.binds] at he
      clear q16
      try simp only [he, sel8_t]
      gi_wp2
      refine ⟨s5, by simp [sel8, *], HP.out.1, (by first | exact HP.out.2 | simpa [he] using HP.out.2)⟩
    · simp only [List.getElem?_cons_zero, List.getElem?_cons_succ, Option.some.injEq] at ho
      subst ho
      try simp [Region.binds] at he
      clear q16
      try simp only [he, sel8_t]
      gi_wp2
      refine ⟨s5, by simp [sel8, *], HP.out.1, (by first | exact HP.out.2 | simpa [he] using HP.out.2)⟩
    · simp only [List.getElem?_cons_zero, List.getElem?_cons_succ, Option.some.injEq] at ho
      subst ho
      try simp [Region.binds] at he
      clear q16
      try simp only [he, sel8_t]
      gi_wp2
      refine ⟨s5, by simp [sel8, *], HP.out.1, (by first | exact HP.out.2 | simpa [he] using HP.out.2)⟩
    · simp only [List.getElem?_cons_zero, List.getElem?_cons_succ, Option.some.injEq] at ho
      subst ho
      try simp [Region.binds] at he
      have z16 : L 16 = false := by cases h : L 16 with | false => rfl | true => (have := q16 h; simp_all)
      clear q16
      simp only [he, sel8_t]
      gi_wp2_with (refine ⟨trivial, ?_⟩; gi_at_call 142; refine (callsIn_wide.2 (HFr.out w2)).mono ?_; rintro e w3 ⟨rfl, hA3⟩; have HA3 := Lib.hid (hA3 ▸ Adds.refl w2 : Adds w2 w3); clear hA3)
      refine ⟨s5, by simp [sel8, *], Adds.trans HP.out.1 HA3.out, fun h => ?_⟩
      obtain ⟨B, e1, e2, e3⟩ := HP.out.2 (by first | exact h | (simp [he]; done) | simpa [he] using h)
      exact ⟨B, e1, e2, by (have e4 := e3.adds HA3.out; simp only [z16, cond_false] at e4; simpa [z16] using e4)⟩
    · simp only [List.getElem?_cons_zero, List.getElem?_cons_succ, Option.some.injEq] at ho
      subst ho
      try simp [Region.binds] at he
      have z16 : L 16 = false := by cases h : L 16 with | false => rfl | true => (have := q16 h; simp_all)
      clear q16
      simp only [he, sel8_t]
      gi_wp2_with (refine ⟨trivial, ?_⟩; gi_at_call 137; refine (callsIn_wide.2 (HNum.out w2 (Adds.trans HA1.out HP.out.1))).mono ?_; rintro e w3 ⟨rfl, hA3⟩; have HA3 := Lib.hid hA3; clear hA3)
      refine ⟨s5, by simp [sel8, *], Adds.trans HP.out.1 HA3.out, fun h => ?_⟩
      obtain ⟨B, e1, e2, e3⟩ := HP.out.2 (by first | exact h | (simp [he]; done) | simpa [he] using h)
      exact ⟨B, e1, e2, by (have e4 := e3.adds HA3.out; simp only [z16, cond_false] at e4; simpa [z16] using e4)⟩
    · simp only [List.getElem?_cons_zero, List.getElem?_cons_succ, Option.some.injEq] at ho
      subst ho
      try simp [Region.binds] at he
      clear q16
      try simp only [he, sel8_t]
      gi_wp2
      refine ⟨s5, by simp [sel8, *], HP.out.1, (by first | exact HP.out.2 | simpa [he] using HP.out.2)⟩
    · simp only [List.getElem?_cons_zero, List.getElem?_cons_succ, Option.some.injEq] at ho
      subst ho
      try simp [Region.binds] at he
      clear q16
      try simp only [he, sel8_t]
      gi_wp2
      refine ⟨s5, by simp [sel8, *], HP.out.1, (by first | exact HP.out.2 | simpa [he] using HP.out.2)⟩
    · simp only [List.getElem?_cons_zero, List.getElem?_cons_succ, Option.some.injEq] at ho
      subst ho
      try simp [Region.binds] at he
      clear q16
      try simp only [he, sel8_t]
      gi_wp2
      refine ⟨s5, by simp [sel8, *], HP.out.1, (by first | exact HP.out.2 | simpa [he] using HP.out.2)⟩
    · simp only [List.getElem?_cons_zero, List.getElem?_cons_succ, Option.some.injEq] at ho
      subst ho
      try simp [Region.binds] at he
      clear q16
      try simp only [he, sel8_t]
      gi_wp2
      refine ⟨s5, by simp [sel8, *], HP.out.1, (by first | exact HP.out.2 | simpa [he] using HP.out.2)⟩
    · simp only [List.getElem?_cons_zero, List.getElem?_cons_succ, Option.some.injEq] at ho
      subst ho
      try simp [Region.binds] at he
      have z16 : L 16 = false := by cases h : L 16 with | false => rfl | true => (have := q16 h; simp_all)
      clear q16
      gi_wp2
      refine ⟨.pointer (some ⟨w2.heap.size, 0, none⟩), by simp [sel8, *], Adds.trans HP.out.1 (Gr.new _ _).adds, fun _ => ⟨_, rfl, HP.out.1.size, ?_⟩⟩
      have e := BkS.new 59 w2 (insC (0, 0, 0, 0, 0))
      simpa [z16] using e
    · simp only [List.getElem?_cons_zero, List.getElem?_cons_succ, Option.some.injEq] at ho
      subst ho
      try simp [Region.binds] at he
      clear q16
      have p15 : L 15 = true := by simp [he]
      have p12 : L 12 = true := by simp [he]
      obtain ⟨B, rfl, e2, e3⟩ := HP.out.2 p15
      rw [hL] at e3
      simp only [p12, p15, sel8_t]
      have HE3 := Lib.hid (show BkS 59 w2 B (insC (0, 0, 0, 0, 0)) from e3)
      have x0 : w2.cell? ⟨B, 0, none⟩ = some (.int .i64 0) := HE3.out.cell 0
      have x1 : w2.cell? ⟨B, 1, none⟩ = some (.int .i64 0) := HE3.out.cell 1
      have x2 : w2.cell? ⟨B, 2, none⟩ = some (.int .i64 0) := HE3.out.cell 2
      have x3 : w2.cell? ⟨B, 3, none⟩ = some (.int .i64 0) := HE3.out.cell 3
      have x4 : w2.cell? ⟨B, 4, none⟩ = some (.int .u32 0) := HE3.out.cell 4
      have y0 := HE3.out.free 0
      have y1 := HE3.out.free 1
      have y2 := HE3.out.free 2
      have y3 := HE3.out.free 3
      have y4 := HE3.out.free 4
      have HE2 := Lib.hid e2
      clear e2 e3
      gi_wp2
      refine ⟨.pointer (some ⟨B, 0, none⟩), by simp [sel8, *], ?_, fun _ => ⟨B, rfl, HE2.out, ?_⟩⟩
      · exact TnS.own HP.out.1 HE2.out (((((TnS.setCell _ _ _ _).trans (TnS.setCell _ _ _ _)).trans (TnS.setCell _ _ _ _)).trans (TnS.setCell _ _ _ _)).trans (TnS.setCell _ _ _ _))
      · have := (((((HE3.out.set 0 (.int .i64 ((m : Nat) : Int))).set 1 (.int .i64 0)).set 2 (.int .i64 0)).set 3 (.int .i64 0)).set 4 (.int .u32 0))
        simpa using this
    · simp only [List.getElem?_cons_zero, List.getElem?_cons_succ, Option.some.injEq] at ho
      subst ho
      try simp [Region.binds] at he
      clear q16
      try simp only [he, sel8_t]
      gi_wp2
      refine ⟨s5, by simp [sel8, *], HP.out.1, (by first | exact HP.out.2 | simpa [he] using HP.out.2)⟩
    · simp only [List.getElem?_cons_zero, List.getElem?_cons_succ, Option.some.injEq] at ho
      subst ho
      try simp [Region.binds] at he
      clear q16
      try simp only [he, sel8_t]
      gi_wp2
      refine ⟨s5, by simp [sel8, *], HP.out.1, (by first | exact HP.out.2 | simpa [he] using HP.out.2)⟩
    · simp at ho
  case fin =>
    rintro b' w4 ⟨s5, rfl, hA, hB⟩
    simp only [List.length_cons, List.length_nil, Nat.reduceAdd, Nat.reduceLT, decide_true, sel8_t] at hB ⊢
    obtain ⟨B, rfl, hB1, hB2⟩ := hB trivial
    simp only [cond_true] at hB2
    have HA4 := Lib.hid (Adds.trans HA1.out hA)
    have HR4 := Lib.hid (HRd.out.adds HA4.out)
    have HB5 := Lib.hid hB2
    have HB4' := Lib.hid (HB4.out.adds hA)
    have HNe := Lib.hid (show br < w.heap.size ∧ n4 = w.heap.size ∧ w.heap.size < B from ⟨HRd.out.lt, HN4.out.symm, by have := HB4.out.lt; have := HN4.out; omega⟩)
    have d1 : w4.cell? ⟨br, 1, none⟩ = some (.int .i64 (k : Int)) := HR4.out.cell 1
    have f1 := HR4.out.free 1
    have x0 : w4.cell? ⟨B, 0, none⟩ = some (.int .i64 (m : Int)) := HB5.out.cell 0
    have x1 : w4.cell? ⟨B, 1, none⟩ = some (.int .i64 0) := HB5.out.cell 1
    have x2 : w4.cell? ⟨B, 2, none⟩ = some (.int .i64 0) := HB5.out.cell 2
    have x3 : w4.cell? ⟨B, 3, none⟩ = some (.int .i64 0) := HB5.out.cell 3
    have x4 : w4.cell? ⟨B, 4, none⟩ = some (.int .u32 0) := HB5.out.cell 4
    have z0 : w4.cell? ⟨n4, 0, none⟩ = some (.int .i64 0) := HB4'.out.cell 0
    have z1 : w4.cell? ⟨n4, 1, none⟩ = some (.int .i64 0) := HB4'.out.cell 1
    have z2 : w4.cell? ⟨n4, 2, none⟩ = some (.int .i64 0) := HB4'.out.cell 2
    have z3 : w4.cell? ⟨n4, 3, none⟩ = some (.int .i64 0) := HB4'.out.cell 3
    have z4 : w4.cell? ⟨n4, 4, none⟩ = some (.int .u32 0) := HB4'.out.cell 4
    have y0 := HB4'.out.free 0
    have y1 := HB4'.out.free 1
    have y2 := HB4'.out.free 2
    have y3 := HB4'.out.free 3
    have y4 := HB4'.out.free 4
    have hne1 : br < n4 := by have := HNe.out; omega
    have hne2 : n4 < B := by have := HNe.out; omega
    clear hA hB hB1 hB2 HNum HFr
    cases ok
    · have he : er = 110 := by
        have h1 : (l.drop k).length < 1 := by have h0 := HOk.out; rw [decide_eq_false_iff_not] at h0; omega
        rw [HE.out, if_pos h1]
      subst he
      go_wp2_with fail
      exact ⟨rfl, by simp [RdPost8]; exact HA4.out⟩
    · have hl := of_decide_eq_true HOk.out
      have he : er = 0 := by rw [HE.out, if_neg hl]
      subst he
      have hwr : wrap64 ((k : Int) + 1) = (k : Int) + 1 := by
        have h1 := HKl.out
        rw [List.length_drop] at hl
        unfold wrap64
        omega
      clear hl
      go_wp2_with fail
      have hr1 := HR4.out.set 1 (.int .i64 ((k : Int) + 1))
      have hb1 := HB4'.out.other (c := br) (i := 1) (by omega) (.int .i64 ((k : Int) + 1))
      have hb := (((((hb1.set 0 (.int .i64 (m : Int))).set 1 (.int .i64 0)).set 2 (.int .i64 0)).set 3 (.int .i64 0)).set 4 (.int .u32 0))
      have hr2 := (((((hr1.other (c := n4) (i := 0) (by omega) (.int .i64 (m : Int))).other (c := n4) (i := 1) (by omega) (.int .i64 0)).other (c := n4) (i := 2) (by omega) (.int .i64 0)).other (c := n4) (i := 3) (by omega) (.int .i64 0)).other (c := n4) (i := 4) (by omega) (.int .u32 0))
      refine bodyPost_ret (res_box rfl _ _ _ (insC ((m : Nat), 0, 0, 0, 0)).toArray _ _ _ rfl hb Tryz.underlying59 rfl (by kernel_rfl)) rfl ?_
      refine ⟨rfl, hr2, ?_⟩
      have hT := (TnS.of_adds br HA4.out).trans (TnS.setCell br 1 w4 (.int .i64 ((k : Int) + 1)))
      exact hT.mine (by have := HNe.out; omega) (((((TnS.setCell n4 0 _ _).trans (TnS.setCell n4 1 _ _)).trans (TnS.setCell n4 2 _ _)).trans (TnS.setCell n4 3 _ _)).trans (TnS.setCell n4 4 _ _))
end Go.Proofs.YthhegcngkpfcoaaGreatDoor
