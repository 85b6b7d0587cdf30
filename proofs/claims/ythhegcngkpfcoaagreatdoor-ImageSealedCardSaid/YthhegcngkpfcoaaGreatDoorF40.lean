/- Merged: M4, GC1. -/
import Derived.Test.YthhegcngkpfcoaaGreatDoorF39
import Derived.Test.YthhegcngkpfcoaaGreatDoorF25
import Derived.Test.YthhegcngkpfcoaaGreatDoorF21
import Derived.Test.YthhegcngkpfcoaaGreatDoorF8
namespace Go.Proofs.YthhegcngkpfcoaaGreatDoor
open Go Go.RowKit Go.Shelf Go.Lib

/-- What a part of the reader does: it answers and stands further on, or gives up. -/
def RkPost {α : Type} (r : (α × Nat) ⊕ Int) (val : α → Value) (br : Nat) (v : Value) (w : World) (e : Ending) (w' : World) : Prop :=
  match r with
  | .inl (x, k) => e = .returned (val x) ∧ BkS 68 w' br (rdC v k) ∧ TnS br w w'
  | .inr er => e = .panicked [{ v := .iface 70 (.int .i64 er), recovered := false }] ∧ TnS br w w'
def RegM4 (W0 : World) (l14 l15 : Bool) (y : List Value) (s5 : Value) (b' fr : Act) (w2 : World) : Prop :=
  b' = fr ∧ Adds W0 w2 ∧ (l14 = true → ∃ B, s5 = .pointer (some ⟨B, 0, none⟩) ∧ W0.heap.size ≤ B ∧ BkS 59 w2 B (cond l15 y (insC (0, 0, 0, 0, 0))))
set_option maxRecDepth 100000 in
set_option maxHeartbeats 4000000 in
theorem mins {n : Nat} (br : Nat) (v : Value) (l : List UInt8) (k : Nat) (w : World) (hn : n ≤ w.heap.size) (hv : Bytes n w v l) (hw : Widths w) (hr : BkS 68 w br (rdC v k)) (hk : k ≤ l.length) :
    Calls Tryz.prog 70 #[.pointer (some ⟨br, 0, none⟩)] w (RkPost (insK l k) insV br v w) := by
  have hmx : Tryz.prog.follows .mixedOrders = true := by kernel_rfl
  obtain ⟨ao, cap, rfl, hv1, hv2, hv3⟩ := id hv
  have HV := cutV_bytes hv k (l.length - k) (by omega)
  rw [List.take_of_length_le (by rw [List.length_drop]; omega)] at HV
  have hmany := fun h => (rdok (l.drop k) h).2.2.2.1
  rw [List.length_drop] at hmany
  unfold insK
  unfold maxLen at hv2
  have HFr := Lib.hid (fun (W : World) => mfrom_any ao l.length cap k W hv1 (by omega) hk)
  obtain ⟨cu, hcu⟩ : ∃ cu, cutV ao k (l.length - k) = cu := ⟨_, rfl⟩
  rw [hcu] at HFr HV
  have HNum := Lib.hid (fun (W : World) (h : Adds w W) => read8 cu (l.drop k) W (HV.below (h.mono hn)) (hw.adds h))
  obtain ⟨⟨xo, xa, xb, xc, xi⟩, many, er, hx⟩ : ∃ x many er, readI (l.drop k) = (x, many, er) := ⟨_, _, _, rfl⟩
  rw [hx] at HNum hmany ⊢
  dsimp only at HNum hmany ⊢
  obtain ⟨rr, hrr⟩ : ∃ rr : (In × Nat) ⊕ Int, (if er = 0 then Sum.inl ((xo, xa, xb, xc, xi), k + many) else if er = 110 then Sum.inr 110 else Sum.inr 200) = rr := ⟨_, rfl⟩
  rw [hrr]
  have HRr := Lib.hid hrr
  have HRd := Lib.hid hr
  have HMany := Lib.hid hmany
  have HKl := Lib.hid (And.intro hk (And.intro hv1 hv2))
  clear hrr hx hv hw hr hv1 hv2 hv3 hk hcu hn HV hmany
  obtain ⟨w1, hw1⟩ : ∃ w1, w.alloc (.cells #[.int .i64 0, .int .i64 0, .int .i64 0, .int .i64 0, .int .u32 0] 59) = w1 := ⟨_, rfl⟩
  have HA1 := Lib.hid (show Adds w w1 by rw [← hw1]; exact (Gr.new _ _).adds)
  have HB4 := Lib.hid (show BkS 59 w1 w.heap.size (insC (0, 0, 0, 0, 0)) by rw [← hw1]; exact BkS.new _ _ _)
  have HR1 := Lib.hid (HRd.out.adds HA1.out)
  go_enter Tryz.func70, Tryz.ntmps70
  go_wp2_with fail
  clear hw1
  obtain ⟨n4, hn4⟩ : ∃ n4, w.heap.size = n4 := ⟨_, rfl⟩
  have HN4 := Lib.hid hn4
  rw [hn4] at HB4 ⊢
  clear hn4
  refine (wpIn_wide (n := 6)).1 ?_
  refine wpIn_region_inv (fun L b' w2 => ∃ s5 : Value, RegM4 w1 (L 14) (L 15) (insC (xo, xa, xb, xc, xi)) s5 b' ({ tmps := #[Value.pointer (some { block := br, off := 0 }), undef, Value.pointer (some { block := n4, off := 0 }), sel8 (L 14) (s5) (undef), sel8 (L 16) (Value.int IntKind.i64 ((many : Nat) : Int)) (undef), sel8 (L 17) (Value.int IntKind.i64 er) (undef), sel8 (L 10) (Value.tuple #[insV (xo, xa, xb, xc, xi), Value.int IntKind.i64 ((many : Nat) : Int), Value.int IntKind.i64 er]) (undef), sel8 (L 0) (Value.pointer (some { block := br, off := 0 })) (undef), sel8 (L 1) (Value.pointer (some { block := br, off := 0 })) (undef), sel8 (L 2) (Value.pointer (some { block := br, off := 0 })) (undef), sel8 (L 3) (Value.slice ao l.length cap) (undef), sel8 (L 4) (Value.pointer (some { block := br, off := 0 })) (undef), sel8 (L 5) (Value.pointer (some { block := br, off := 0 })) (undef), sel8 (L 6) (Value.pointer (some { block := br, off := 1 })) (undef), sel8 (L 7) (Value.int IntKind.i64 ((k : Nat) : Int)) (undef), sel8 (L 8) (cu) (undef), sel8 (L 9) (Value.tuple #[insV (xo, xa, xb, xc, xi), Value.int IntKind.i64 ((many : Nat) : Int), Value.int IntKind.i64 er]) (undef), sel8 (L 11) (insV (xo, xa, xb, xc, xi)) (undef), sel8 (L 12) (Value.int IntKind.i64 ((many : Nat) : Int)) (undef), sel8 (L 13) (Value.int IntKind.i64 er) (undef), undef, undef, undef, undef, undef, undef, undef, undef, undef, undef, undef, undef, undef, undef, undef, undef], defers := [] }) w2) hmx (by kernel_rfl) ?inv0 ?step ?fin
  case inv0 => exact ⟨undef, rfl, Adds.drew _, fun h => (by cases h)⟩
  case step =>
    rintro L b' w2 i o ho hL hC he ⟨s5, rfl, hP⟩
    have q15 := hC 15 _ rfl
    simp [Region.binds] at q15
    have HP := Lib.hid hP
    have k1 := HR1.out.adds hP.1
    have i0 : w2.cell? ⟨br, 0, none⟩ = some (.slice ao l.length cap) := k1.cell 0
    have i1 : w2.cell? ⟨br, 1, none⟩ = some (.int .i64 (k : Int)) := k1.cell 1
    clear hC hP k1
    rcases i with _ | _ | _ | _ | _ | _ | _ | _ | _ | _ | _ | _ | _ | _ | _ | _ | _ | _ | i
    · simp only [List.getElem?_cons_zero, Option.some.injEq] at ho
      subst ho
      try simp [Region.binds] at he
      clear q15
      try simp only []
      gi_wp2
      refine ⟨s5, by simp [sel8, *], HP.out.1, (by first | exact HP.out.2 | simpa [he] using HP.out.2)⟩
    · simp only [List.getElem?_cons_zero, List.getElem?_cons_succ, Option.some.injEq] at ho
      subst ho
      try simp [Region.binds] at he
      clear q15
      try simp only [he, sel8_t]
      gi_wp2
      refine ⟨s5, by simp [sel8, *], HP.out.1, (by first | exact HP.out.2 | simpa [he] using HP.out.2)⟩
    · simp only [List.getElem?_cons_zero, List.getElem?_cons_succ, Option.some.injEq] at ho
      subst ho
      try simp [Region.binds] at he
      clear q15
      try simp only [he, sel8_t]
      gi_wp2
      refine ⟨s5, by simp [sel8, *], HP.out.1, (by first | exact HP.out.2 | simpa [he] using HP.out.2)⟩
    · simp only [List.getElem?_cons_zero, List.getElem?_cons_succ, Option.some.injEq] at ho
      subst ho
      try simp [Region.binds] at he
      clear q15
      try simp only [he, sel8_t]
      gi_wp2
      refine ⟨s5, by simp [sel8, *], HP.out.1, (by first | exact HP.out.2 | simpa [he] using HP.out.2)⟩
    · simp only [List.getElem?_cons_zero, List.getElem?_cons_succ, Option.some.injEq] at ho
      subst ho
      try simp [Region.binds] at he
      clear q15
      try simp only []
      gi_wp2
      refine ⟨s5, by simp [sel8, *], HP.out.1, (by first | exact HP.out.2 | simpa [he] using HP.out.2)⟩
    · simp only [List.getElem?_cons_zero, List.getElem?_cons_succ, Option.some.injEq] at ho
      subst ho
      try simp [Region.binds] at he
      clear q15
      try simp only [he, sel8_t]
      gi_wp2
      refine ⟨s5, by simp [sel8, *], HP.out.1, (by first | exact HP.out.2 | simpa [he] using HP.out.2)⟩
    · simp only [List.getElem?_cons_zero, List.getElem?_cons_succ, Option.some.injEq] at ho
      subst ho
      try simp [Region.binds] at he
      clear q15
      try simp only [he, sel8_t]
      gi_wp2
      refine ⟨s5, by simp [sel8, *], HP.out.1, (by first | exact HP.out.2 | simpa [he] using HP.out.2)⟩
    · simp only [List.getElem?_cons_zero, List.getElem?_cons_succ, Option.some.injEq] at ho
      subst ho
      try simp [Region.binds] at he
      clear q15
      try simp only [he, sel8_t]
      gi_wp2
      refine ⟨s5, by simp [sel8, *], HP.out.1, (by first | exact HP.out.2 | simpa [he] using HP.out.2)⟩
    · simp only [List.getElem?_cons_zero, List.getElem?_cons_succ, Option.some.injEq] at ho
      subst ho
      try simp [Region.binds] at he
      have z15 : L 15 = false := by cases h : L 15 with | false => rfl | true => (have := q15 h; simp_all)
      clear q15
      simp only [he, sel8_t]
      gi_wp2_with (refine ⟨trivial, ?_⟩; gi_at_call 99; refine (callsIn_wide.2 (HFr.out w2)).mono ?_; rintro e w3 ⟨rfl, hA3⟩; have HA3 := Lib.hid (hA3 ▸ Adds.refl w2 : Adds w2 w3); clear hA3)
      refine ⟨s5, by simp [sel8, *], Adds.trans HP.out.1 HA3.out, fun h => ?_⟩
      obtain ⟨B, e1, e2, e3⟩ := HP.out.2 (by first | exact h | (simp [he]; done) | simpa [he] using h)
      exact ⟨B, e1, e2, by (have e4 := e3.adds HA3.out; simp only [z15, cond_false] at e4; simpa [z15] using e4)⟩
    · simp only [List.getElem?_cons_zero, List.getElem?_cons_succ, Option.some.injEq] at ho
      subst ho
      try simp [Region.binds] at he
      have z15 : L 15 = false := by cases h : L 15 with | false => rfl | true => (have := q15 h; simp_all)
      clear q15
      simp only [he, sel8_t]
      gi_wp2_with (refine ⟨trivial, ?_⟩; gi_at_call 98; refine (callsIn_wide.2 (HNum.out w2 (Adds.trans HA1.out HP.out.1))).mono ?_; rintro e w3 ⟨rfl, hA3⟩; have HA3 := Lib.hid (hA3); clear hA3)
      refine ⟨s5, by simp [sel8, *], Adds.trans HP.out.1 HA3.out, fun h => ?_⟩
      obtain ⟨B, e1, e2, e3⟩ := HP.out.2 (by first | exact h | (simp [he]; done) | simpa [he] using h)
      exact ⟨B, e1, e2, by (have e4 := e3.adds HA3.out; simp only [z15, cond_false] at e4; simpa [z15] using e4)⟩
    · simp only [List.getElem?_cons_zero, List.getElem?_cons_succ, Option.some.injEq] at ho
      subst ho
      try simp [Region.binds] at he
      clear q15
      try simp only [he, sel8_t]
      gi_wp2
      refine ⟨s5, by simp [sel8, *], HP.out.1, (by first | exact HP.out.2 | simpa [he] using HP.out.2)⟩
    · simp only [List.getElem?_cons_zero, List.getElem?_cons_succ, Option.some.injEq] at ho
      subst ho
      try simp [Region.binds] at he
      clear q15
      try simp only [he, sel8_t]
      gi_wp2
      refine ⟨s5, by simp [sel8, *], HP.out.1, (by first | exact HP.out.2 | simpa [he] using HP.out.2)⟩
    · simp only [List.getElem?_cons_zero, List.getElem?_cons_succ, Option.some.injEq] at ho
      subst ho
      try simp [Region.binds] at he
      clear q15
      try simp only [he, sel8_t]
      gi_wp2
      refine ⟨s5, by simp [sel8, *], HP.out.1, (by first | exact HP.out.2 | simpa [he] using HP.out.2)⟩
    · simp only [List.getElem?_cons_zero, List.getElem?_cons_succ, Option.some.injEq] at ho
      subst ho
      try simp [Region.binds] at he
      clear q15
      try simp only [he, sel8_t]
      gi_wp2
      refine ⟨s5, by simp [sel8, *], HP.out.1, (by first | exact HP.out.2 | simpa [he] using HP.out.2)⟩
    · simp only [List.getElem?_cons_zero, List.getElem?_cons_succ, Option.some.injEq] at ho
      subst ho
      try simp [Region.binds] at he
      have z15 : L 15 = false := by cases h : L 15 with | false => rfl | true => (have := q15 h; simp_all)
      clear q15
      gi_wp2
      refine ⟨.pointer (some ⟨w2.heap.size, 0, none⟩), by simp [sel8, *], Adds.trans HP.out.1 (Gr.new _ _).adds, fun _ => ⟨_, rfl, HP.out.1.size, ?_⟩⟩
      have e := BkS.new 59 w2 (insC (0, 0, 0, 0, 0))
      simpa [z15] using e
    · simp only [List.getElem?_cons_zero, List.getElem?_cons_succ, Option.some.injEq] at ho
      subst ho
      try simp [Region.binds] at he
      clear q15
      have p14 : L 14 = true := by simp [he]
      have p11 : L 11 = true := by simp [he]
      obtain ⟨B, rfl, e2, e3⟩ := HP.out.2 p14
      rw [hL] at e3
      simp only [p11, p14, sel8_t]
      have HE3 := Lib.hid (show BkS 59 w2 B (insC (0, 0, 0, 0, 0)) from e3)
      have x0 : w2.cell? ⟨B, 0, none⟩ = some (.int .i64 0) := HE3.out.cell 0
      have x1 : w2.cell? ⟨B, 1, none⟩ = some (.int .i64 0) := HE3.out.cell 1
      have x2 : w2.cell? ⟨B, 2, none⟩ = some (.int .i64 0) := HE3.out.cell 2
      have x3 : w2.cell? ⟨B, 3, none⟩ = some (.int .i64 0) := HE3.out.cell 3
      have x4 : w2.cell? ⟨B, 4, none⟩ = some (.int .u32 0) := HE3.out.cell 4
      have y0 := HE3.out.free 0
      have y1 := HE3.out.free 1
      have y2 := HE3.out.free 2
      have y3 := HE3.out.free 3
      have y4 := HE3.out.free 4
      have HE2 := Lib.hid e2
      clear e2 e3
      gi_wp2
      refine ⟨.pointer (some ⟨B, 0, none⟩), by simp [sel8, *], ?_, fun _ => ⟨B, rfl, HE2.out, ?_⟩⟩
      · exact TnS.own HP.out.1 HE2.out (((((TnS.setCell _ _ _ _).trans (TnS.setCell _ _ _ _)).trans (TnS.setCell _ _ _ _)).trans (TnS.setCell _ _ _ _)).trans (TnS.setCell _ _ _ _))
      · have := (((((HE3.out.set 0 (.int .i64 xo)).set 1 (.int .i64 xa)).set 2 (.int .i64 xb)).set 3 (.int .i64 xc)).set 4 (.int .u32 xi))
        simpa using this
    · simp only [List.getElem?_cons_zero, List.getElem?_cons_succ, Option.some.injEq] at ho
      subst ho
      try simp [Region.binds] at he
      clear q15
      try simp only [he, sel8_t]
      gi_wp2
      refine ⟨s5, by simp [sel8, *], HP.out.1, (by first | exact HP.out.2 | simpa [he] using HP.out.2)⟩
    · simp only [List.getElem?_cons_zero, List.getElem?_cons_succ, Option.some.injEq] at ho
      subst ho
      try simp [Region.binds] at he
      clear q15
      try simp only [he, sel8_t]
      gi_wp2
      refine ⟨s5, by simp [sel8, *], HP.out.1, (by first | exact HP.out.2 | simpa [he] using HP.out.2)⟩
    · simp at ho
  case fin =>
    rintro b' w4 ⟨s5, rfl, hA, hB⟩
    simp only [List.length_cons, List.length_nil, Nat.reduceAdd, Nat.reduceLT, decide_true, sel8_t] at hB ⊢
    obtain ⟨B, rfl, hB1, hB2⟩ := hB trivial
    simp only [cond_true] at hB2
    have HA4 := Lib.hid (Adds.trans HA1.out hA)
    have HR4 := Lib.hid (HRd.out.adds HA4.out)
    have HB5 := Lib.hid hB2
    have HB4' := Lib.hid (HB4.out.adds hA)
    have HNe := Lib.hid (show br < w.heap.size ∧ n4 = w.heap.size ∧ w.heap.size < B from ⟨HRd.out.lt, HN4.out.symm, by have := HB4.out.lt; have := HN4.out; omega⟩)
    have d1 : w4.cell? ⟨br, 1, none⟩ = some (.int .i64 (k : Int)) := HR4.out.cell 1
    have f1 := HR4.out.free 1
    have x0 : w4.cell? ⟨B, 0, none⟩ = some (.int .i64 xo) := HB5.out.cell 0
    have x1 : w4.cell? ⟨B, 1, none⟩ = some (.int .i64 xa) := HB5.out.cell 1
    have x2 : w4.cell? ⟨B, 2, none⟩ = some (.int .i64 xb) := HB5.out.cell 2
    have x3 : w4.cell? ⟨B, 3, none⟩ = some (.int .i64 xc) := HB5.out.cell 3
    have x4 : w4.cell? ⟨B, 4, none⟩ = some (.int .u32 xi) := HB5.out.cell 4
    have z0 : w4.cell? ⟨n4, 0, none⟩ = some (.int .i64 0) := HB4'.out.cell 0
    have z1 : w4.cell? ⟨n4, 1, none⟩ = some (.int .i64 0) := HB4'.out.cell 1
    have z2 : w4.cell? ⟨n4, 2, none⟩ = some (.int .i64 0) := HB4'.out.cell 2
    have z3 : w4.cell? ⟨n4, 3, none⟩ = some (.int .i64 0) := HB4'.out.cell 3
    have z4 : w4.cell? ⟨n4, 4, none⟩ = some (.int .u32 0) := HB4'.out.cell 4
    have y0 := HB4'.out.free 0
    have y1 := HB4'.out.free 1
    have y2 := HB4'.out.free 2
    have y3 := HB4'.out.free 3
    have y4 := HB4'.out.free 4
    have hne1 : br < n4 := by have := HNe.out; omega
    have hne2 : n4 < B := by have := HNe.out; omega
    clear hA hB hB1 hB2 HNum HFr
    by_cases he : er = 0
    · have hm := HMany.out he
      subst he
      have hwr : wrap64 ((k : Int) + (many : Int)) = (k : Int) + (many : Int) := by
        have h1 := HKl.out
        unfold wrap64
        omega
      have hrr := HRr.out
      rw [if_pos rfl] at hrr
      subst hrr
      clear hm
      go_wp2_with fail
      have hr1 := HR4.out.set 1 (.int .i64 ((k : Int) + (many : Int)))
      have hb1 := HB4'.out.other (c := br) (i := 1) (by omega) (.int .i64 ((k : Int) + (many : Int)))
      have hb := (((((hb1.set 0 (.int .i64 xo)).set 1 (.int .i64 xa)).set 2 (.int .i64 xb)).set 3 (.int .i64 xc)).set 4 (.int .u32 xi))
      have hr2 := (((((hr1.other (c := n4) (i := 0) (by omega) (.int .i64 xo)).other (c := n4) (i := 1) (by omega) (.int .i64 xa)).other (c := n4) (i := 2) (by omega) (.int .i64 xb)).other (c := n4) (i := 3) (by omega) (.int .i64 xc)).other (c := n4) (i := 4) (by omega) (.int .u32 xi))
      refine bodyPost_ret (res_box rfl _ _ _ (insC (xo, xa, xb, xc, xi)).toArray _ _ _ rfl hb Tryz.underlying59 rfl (by kernel_rfl)) rfl ?_
      refine ⟨rfl, ?_, ?_⟩
      · unfold rdC
        rw [show ((k + many : Nat) : Int) = (k : Int) + (many : Int) by omega]
        exact hr2
      · have hT := (TnS.of_adds br HA4.out).trans (TnS.setCell br 1 w4 (.int .i64 ((k : Int) + (many : Int))))
        exact hT.mine (by have := HNe.out; omega) (((((TnS.setCell n4 0 _ _).trans (TnS.setCell n4 1 _ _)).trans (TnS.setCell n4 2 _ _)).trans (TnS.setCell n4 3 _ _)).trans (TnS.setCell n4 4 _ _))
    · have hrr := HRr.out
      rw [if_neg he] at hrr
      have e0 : (er == 0) = false := by simp [he]
      by_cases h1 : er = 110
      · rw [if_pos h1] at hrr
        subst hrr h1
        go_wp2_with fail
        exact ⟨rfl, rfl, TnS.of_adds br HA4.out⟩
      · have e1 : (er == 110) = false := by simp [h1]
        rw [if_neg h1] at hrr
        subst hrr
        go_wp2_with fail
        exact ⟨rfl, rfl, TnS.of_adds br HA4.out⟩
end Go.Proofs.YthhegcngkpfcoaaGreatDoor
namespace Go.Proofs.YthhegcngkpfcoaaGreatDoor
open Go Go.RowKit Go.Shelf

theorem flat_get {α β : Type} (f : α → List β) (k : Nat) (hf : ∀ x, (f x).length = k) : ∀ (l : List α) (i j : Nat), j < k → (l.flatMap f)[i * k + j]? = (l[i]?).bind fun x => (f x)[j]?
  | [], i, j, _ => by simp
  | x :: l, 0, j, hj => by
    simp only [List.flatMap_cons, Nat.zero_mul, Nat.zero_add]
    rw [List.getElem?_append_left (by rw [hf]; exact hj)]
    simp
  | x :: l, i + 1, j, hj => by
    simp only [List.flatMap_cons]
    rw [List.getElem?_append_right (by rw [hf, Nat.add_mul]; omega), hf, show (i + 1) * k + j - k = i * k + j by rw [Nat.add_mul]; omega, flat_get f k hf l i j hj]
    simp
theorem flat_len {α β : Type} (f : α → List β) (k : Nat) (hf : ∀ x, (f x).length = k) : ∀ l : List α, (l.flatMap f).length = l.length * k
  | [] => by simp
  | x :: l => by simp only [List.flatMap_cons, List.length_append, hf, flat_len f k hf l, List.length_cons, Nat.add_mul]; omega
/-- And of any row, of which one cell is written anywhere: a row still. -/
theorem ownsRow_any {w : World} {base : Nat} {e : TypeId} {size n : Nat} {v : Value} {xs : List Value} (h : w.ownsRow base e size v n xs) (b j : Nat) (u : Value) : ∃ ys, (w.setCell ⟨b, j, none⟩ u).ownsRow base e size v n ys := by
  obtain ⟨h1, h2⟩ := h
  rcases h2 with ⟨h2, h3⟩ | ⟨g, cap, cur, hv, hg, hh, h3, h4, h5, h6⟩
  · exact ⟨xs, h1, Or.inl ⟨h2, h3⟩⟩
  · by_cases hb : b = g
    · subst hb
      refine ⟨xs.set j u, by simpa using h1, Or.inr ⟨b, cap, cur.set! j u, hv, hg, ?_, h3, h4, by simpa using h5, ?_⟩⟩
      · simp only [World.setCell, Array.getElem?_modify, hh]
        simp
      · rw [← h6]
        simp [List.take_set]
    · exact ⟨xs, h1, Or.inr ⟨g, cap, cur, hv, hg, by rw [Below.heap_setCell _ _ _ _ (fun e => hb e.symm)]; exact hh, h3, h4, h5, h6⟩⟩
/-- The block of an own row may be written. -/
theorem ownsRow_free {w : World} {base : Nat} {e : TypeId} {size n g cap : Nat} {xs : List Value} (h : w.ownsRow base e size (.slice (some ⟨g, 0, none⟩) n cap) n xs) (j : Nat) : w.frozen? ⟨g, j, none⟩ = false := by
  rcases h.2 with ⟨h2, _⟩ | ⟨g', cap', cur, hv, hg, hh, _⟩
  · cases h2
  · simp only [Value.slice.injEq, Option.some.injEq, Addr.mk.injEq, and_true, true_and] at hv
    obtain ⟨rfl, rfl⟩ := hv
    simp [World.frozen?, hh]
theorem ownsRow_adds {w w' : World} {base : Nat} {e : TypeId} {size n : Nat} {v : Value} {xs : List Value} (h : w.ownsRow base e size v n xs) (ha : Adds w w') : w'.ownsRow base e size v n xs := by
  obtain ⟨h1, h2⟩ := h
  refine ⟨h1, ?_⟩
  rcases h2 with h2 | ⟨g, cap, cur, hv, hg, hh, r⟩
  · exact Or.inl h2
  · exact Or.inr ⟨g, cap, cur, hv, hg, (ha.block g (Array.getElem?_eq_some_iff.1 hh).1).trans hh, r⟩
/-- The block of an own row is of its elements' type. -/
theorem ownsRow_ne {w : World} {base base' : Nat} {e e' : TypeId} {size size' n n' : Nat} {v v' : Value} {xs xs' : List Value} (h : w.ownsRow base e size v n xs) (h' : w.ownsRow base' e' size' v' n' xs') (he : e ≠ e') (g : Nat) (hg : v.ownBlock = some g) : v'.ownBlock ≠ some g := by
  intro hg'
  rcases h.2 with ⟨rfl, _⟩ | ⟨k, cap, cur, rfl, _, hh, _⟩
  · cases hg
  · rcases h'.2 with ⟨rfl, _⟩ | ⟨k', cap', cur', rfl, _, hh', _⟩
    · cases hg'
    · simp only [Value.ownBlock, Option.some.injEq] at hg hg'
      subst hg hg'
      rw [hh] at hh'
      simp only [Option.some.injEq, Obj.cells.injEq] at hh'
      exact he hh'.2.1
theorem ownsRow_cell {w : World} {base : Nat} {e : TypeId} {size n g cap : Nat} {xs : List Value} (h : w.ownsRow base e size (.slice (some ⟨g, 0, none⟩) n cap) n xs) (j : Nat) {u : Value} (hu : xs[j]? = some u) : w.cell? ⟨g, j, none⟩ = some u := by
  have h' := h.cells (g := g) rfl j u hu
  have hadd : (⟨g, 0, none⟩ : Addr).add j = ⟨g, j, none⟩ := by unfold Addr.add; split <;> simp_all
  rwa [hadd] at h'

theorem insC_len (x : In) : (insC x).length = 5 := rfl
/-- A code in memory of the call's own. -/
def CodeO (n : Nat) (w : World) (v : Value) (c : List In) : Prop := w.ownsRow n 59 5 v c.length (c.flatMap insC)
theorem CodeO.code {n : Nat} {w : World} {v : Value} {c : List In} (h : CodeO n w v c) : CodeW w.heap.size w v c := by
  have H := h
  unfold CodeO at h
  obtain ⟨h1, h2⟩ := h
  rcases h2 with ⟨rfl, h0⟩ | ⟨g, cap, cur, rfl, hb, hh, h3, h4, _⟩
  · have hc : c = [] := by simpa using h0
    subst hc
    exact ⟨none, 0, rfl, by simp, by simp, fun h => absurd rfl h⟩
  · refine ⟨_, cap, rfl, h3, h4, fun _ => ⟨g, 0, rfl, (Array.getElem?_eq_some_iff.1 hh).1, fun i hi => ?_⟩⟩
    have key : ∀ j, j < 5 → ∀ u, (insC (c.getD i zI))[j]? = some u → w.cell? ⟨g, 0 + i * 5 + j, none⟩ = some u := by
      intro j hj u hu
      rw [Nat.zero_add]
      refine ownsRow_cell H (i * 5 + j) ?_
      rw [flat_get insC 5 insC_len c i j hj, List.getElem?_eq_getElem hi]
      rw [List.getD_eq_getElem?_getD, List.getElem?_eq_getElem hi] at hu
      exact hu
    exact ⟨key 0 (by decide) _ rfl, key 1 (by decide) _ rfl, key 2 (by decide) _ rfl, key 3 (by decide) _ rfl, key 4 (by decide) _ rfl⟩
/-- The cells of a code, where it stands. -/
theorem CodeW.cells {n : Nat} {w : World} {ad : Addr} {cap : Nat} {c : List In} (h : CodeW n w (.slice (some ad) c.length cap) c) : ∀ j u, (c.flatMap insC)[j]? = some u → w.cell? (ad.add j) = some u := by
  intro j u hu
  have hj : j < c.length * 5 := by
    have := (List.getElem?_eq_some_iff.1 hu).1
    rwa [flat_len insC 5 insC_len] at this
  have hi : j / 5 < c.length := by omega
  obtain ⟨g, off, e, _, h0, h1, h2, h3, h4⟩ := h.at hi
  simp only [Option.some.injEq] at e
  subst e
  rw [show j = j / 5 * 5 + j % 5 by omega, flat_get insC 5 insC_len c _ _ (by omega), List.getElem?_eq_getElem hi] at hu
  have hadd : (⟨g, off, none⟩ : Addr).add j = ⟨g, off + j / 5 * 5 + j % 5, none⟩ := by
    have : (⟨g, off, none⟩ : Addr).add j = ⟨g, off + j, none⟩ := by unfold Addr.add; split <;> simp_all
    rw [this, show off + j / 5 * 5 + j % 5 = off + j by omega]
  rw [hadd]
  rw [List.getD_eq_getElem?_getD, List.getElem?_eq_getElem hi] at h0 h1 h2 h3 h4
  have hm : j % 5 < 5 := by omega
  generalize j % 5 = m at *
  match m, hm with
  | 0, _ => simp at hu; subst hu; exact h0
  | 1, _ => simp at hu; subst hu; exact h1
  | 2, _ => simp at hu; subst hu; exact h2
  | 3, _ => simp at hu; subst hu; exact h3
  | 4, _ => simp at hu; subst hu; exact h4
/-- A row of functions: their registers, and their codes' slices. -/
abbrev zR : Int × Value := (0, undef)
abbrev fuC (x : Int × Value) : List Value := [.int .i64 x.1, x.2]
theorem fuC_len (x : Int × Value) : (fuC x).length = 2 := rfl
def RowO (n : Nat) (w : World) (v : Value) (r : List (Int × Value)) : Prop := w.ownsRow n 55 2 v r.length (r.flatMap fuC)
/-- What a program's copy is: a row of functions of the call's own, with the same registers, and the same codes, of the call's own. -/
def CopyO (n : Nat) (w : World) (v : Value) (fs : List Fu) : Prop :=
  ∃ r, RowO n w v r ∧ r.length = fs.length ∧ ∀ i, i < fs.length → (r.getD i zR).1 = (fs.getD i zF).1 ∧ CodeO n w (r.getD i zR).2 (fs.getD i zF).2
theorem CopyO.funcs {n : Nat} {w : World} {v : Value} {fs : List Fu} (h : CopyO n w v fs) (hok : ∀ f ∈ fs, ∀ x ∈ f.2, OkIn x) : FuncsW w.heap.size w v fs := by
  obtain ⟨r, hR, hl, hi⟩ := h
  have H := hR
  unfold RowO at hR
  obtain ⟨h1, h2⟩ := hR
  rcases h2 with ⟨rfl, h0⟩ | ⟨g, cap, cur, rfl, hb, hh, h3, h4, _⟩
  · have hc : fs = [] := by rw [hl] at h0; simpa using h0
    subst hc
    exact ⟨none, 0, rfl, by simp, by simp, fun h => absurd rfl h⟩
  · refine ⟨_, cap, by rw [hl], by omega, h4, fun _ => ⟨g, 0, rfl, (Array.getElem?_eq_some_iff.1 hh).1, fun i hlt => ?_⟩⟩
    have hri : i < r.length := by omega
    obtain ⟨e1, e2⟩ := hi i hlt
    have key : ∀ j, j < 2 → ∀ u, (fuC (r.getD i zR))[j]? = some u → w.cell? ⟨g, 0 + i * 2 + j, none⟩ = some u := by
      intro j hj u hu
      rw [Nat.zero_add]
      refine ownsRow_cell H (i * 2 + j) ?_
      rw [flat_get fuC 2 fuC_len r i j hj, List.getElem?_eq_getElem hri]
      rw [List.getD_eq_getElem?_getD, List.getElem?_eq_getElem hri] at hu
      exact hu
    refine ⟨?_, _, key 1 (by decide) _ rfl, e2.code, hok _ ?_⟩
    · have := key 0 (by decide) _ rfl
      rw [e1] at this
      exact this
    · rw [List.getD_eq_getElem?_getD, List.getElem?_eq_getElem hlt]
      exact List.getElem_mem hlt
end Go.Proofs.YthhegcngkpfcoaaGreatDoor
