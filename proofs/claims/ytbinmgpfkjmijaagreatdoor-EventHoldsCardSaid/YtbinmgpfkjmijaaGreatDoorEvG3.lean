/- What leads to what: contracts. (genG3.py wrote this.) -/
import Derived.BigQuiet
import Derived.Test.YtbinmgpfkjmijaaGreatDoorEvG2
namespace Go.Proofs.YtbinmgpfkjmijaaGreatDoor
open Go Go.RowKit Go.Shelf

theorem eq_yes {a b : Int} (h : a = b) : (a == b) = true := by simpa using h
theorem eq_not {a b : Int} (h : ¬ a = b) : (a == b) = false := by simpa using h
theorem ne_yes {a b : Int} (h : a = b) : (a != b) = false := by simpa using h
theorem ne_not {a b : Int} (h : ¬ a = b) : (a != b) = true := by simpa using h
/-- By equality of what is found, in a walk's frame. -/
theorem ret_b {x y : Bool} (h : x = y) : Ending.returned (.bool x) = .returned (.bool y) := by rw [h]
set_option maxRecDepth 100000 in
set_option maxHeartbeats 4000000 in
theorem lead_any (x y : Ev) (hx : OkE x) (hy : OkE y) (w : World) : Calls Tryz.prog 22 #[evV x, evV y] w fun e w' => e = .returned (.bool (leadE x y)) ∧ Adds w w' := by
  obtain ⟨w2, hw2⟩ : ∃ w2, (w.alloc (.cells (evC x).toArray 28)).alloc (.cells (evC y).toArray 28) = w2 := ⟨_, rfl⟩
  have HA2 := Lib.hid (show Adds w w2 by rw [← hw2]; exact ((Gr.new _ _).alloc _).adds)
  have HX2 := Lib.hid (show BkS 28 w2 w.heap.size (evC x) by rw [← hw2]; exact (BkS.new _ w _).adds (Gr.new _ _).adds)
  have HY2 := Lib.hid (show BkS 28 w2 (w.heap.size + 1) (evC y) by rw [← hw2]; exact heap_new1 _ _ _)
  have HRel := Lib.hid (fun W => rel_any x W)
  have HHn := Lib.hid (fun W => hands_any x.k y.k ⟨hx.kin, hy.kin⟩ W)
  clear hx hy
  obtain ⟨rl, hrl⟩ : ∃ rl, relE x = rl := ⟨_, rfl⟩
  rw [hrl] at HRel
  have HLe := Lib.hid (show leadE x y = if x.g = y.g then true else if rl = false then false else if x.k = 4 then decide (x.c = y.g) else decide (x.o = y.o) && handE x.k y.k by rw [← hrl]; rfl)
  clear hrl
  obtain ⟨hd, hhd⟩ : ∃ hd, handE x.k y.k = hd := ⟨_, rfl⟩
  rw [hhd] at HHn HLe
  clear hhd
  obtain ⟨r, hr⟩ : ∃ r, leadE x y = r := ⟨_, rfl⟩
  rw [hr] at HLe ⊢
  clear hr
  obtain ⟨g, k, f, p, a, c, o, n, t⟩ := x
  obtain ⟨g', k', f', p', a', c', o', n', t'⟩ := y
  have i0 : w2.cell? ⟨w.heap.size, 0, none⟩ = some (.int .i64 g) := HX2.out.cell 0
  have i1 : w2.cell? ⟨w.heap.size, 1, none⟩ = some (.int .i64 k) := HX2.out.cell 1
  have i2 : w2.cell? ⟨w.heap.size, 2, none⟩ = some (.int .i64 f) := HX2.out.cell 2
  have i3 : w2.cell? ⟨w.heap.size, 3, none⟩ = some (.int .i64 p) := HX2.out.cell 3
  have i4 : w2.cell? ⟨w.heap.size, 4, none⟩ = some (.int .u32 a) := HX2.out.cell 4
  have i5 : w2.cell? ⟨w.heap.size, 5, none⟩ = some (.int .i64 c) := HX2.out.cell 5
  have i6 : w2.cell? ⟨w.heap.size, 6, none⟩ = some (.int .i64 o) := HX2.out.cell 6
  have i7 : w2.cell? ⟨w.heap.size, 7, none⟩ = some (.int .i64 n) := HX2.out.cell 7
  have i8 : w2.cell? ⟨w.heap.size, 8, none⟩ = some (.int .i64 t) := HX2.out.cell 8
  have j0 : w2.cell? ⟨w.heap.size + 1, 0, none⟩ = some (.int .i64 g') := HY2.out.cell 0
  have j1 : w2.cell? ⟨w.heap.size + 1, 1, none⟩ = some (.int .i64 k') := HY2.out.cell 1
  have j2 : w2.cell? ⟨w.heap.size + 1, 2, none⟩ = some (.int .i64 f') := HY2.out.cell 2
  have j3 : w2.cell? ⟨w.heap.size + 1, 3, none⟩ = some (.int .i64 p') := HY2.out.cell 3
  have j4 : w2.cell? ⟨w.heap.size + 1, 4, none⟩ = some (.int .u32 a') := HY2.out.cell 4
  have j5 : w2.cell? ⟨w.heap.size + 1, 5, none⟩ = some (.int .i64 c') := HY2.out.cell 5
  have j6 : w2.cell? ⟨w.heap.size + 1, 6, none⟩ = some (.int .i64 o') := HY2.out.cell 6
  have j7 : w2.cell? ⟨w.heap.size + 1, 7, none⟩ = some (.int .i64 n') := HY2.out.cell 7
  have j8 : w2.cell? ⟨w.heap.size + 1, 8, none⟩ = some (.int .i64 t') := HY2.out.cell 8
  have HF := Lib.hid (fun (W : World) (h : Adds w2 W) => (⟨HX2.out.adds h, HY2.out.adds h⟩ : BkS 28 W w.heap.size _ ∧ BkS 28 W (w.heap.size + 1) _))
  simp only at HLe HHn
  by_cases hg : g = g'
  · have e1 := eq_yes hg
    obtain rfl : r = true := by rw [HLe.out, if_pos hg]
    clear hg
    go_enter Tryz.func22, Tryz.ntmps22
    go_wp2_with (first
      | (go_at_call 13; refine (HRel.out w2).mono ?_; rintro e w3 ⟨rfl, q⟩; clear HRel; have A3 := Lib.hid q.adds; have B3 := HF.out w3 q.adds; have x0 : w3.cell? ⟨w.heap.size, 0, none⟩ = some (.int .i64 g) := B3.1.cell 0; have x1 : w3.cell? ⟨w.heap.size, 1, none⟩ = some (.int .i64 k) := B3.1.cell 1; have x2 : w3.cell? ⟨w.heap.size, 2, none⟩ = some (.int .i64 f) := B3.1.cell 2; have x3 : w3.cell? ⟨w.heap.size, 3, none⟩ = some (.int .i64 p) := B3.1.cell 3; have x4 : w3.cell? ⟨w.heap.size, 4, none⟩ = some (.int .u32 a) := B3.1.cell 4; have x5 : w3.cell? ⟨w.heap.size, 5, none⟩ = some (.int .i64 c) := B3.1.cell 5; have x6 : w3.cell? ⟨w.heap.size, 6, none⟩ = some (.int .i64 o) := B3.1.cell 6; have x7 : w3.cell? ⟨w.heap.size, 7, none⟩ = some (.int .i64 n) := B3.1.cell 7; have x8 : w3.cell? ⟨w.heap.size, 8, none⟩ = some (.int .i64 t) := B3.1.cell 8; have d0 : w3.cell? ⟨w.heap.size + 1, 0, none⟩ = some (.int .i64 g') := B3.2.cell 0; have d1 : w3.cell? ⟨w.heap.size + 1, 1, none⟩ = some (.int .i64 k') := B3.2.cell 1; have d2 : w3.cell? ⟨w.heap.size + 1, 2, none⟩ = some (.int .i64 f') := B3.2.cell 2; have d3 : w3.cell? ⟨w.heap.size + 1, 3, none⟩ = some (.int .i64 p') := B3.2.cell 3; have d4 : w3.cell? ⟨w.heap.size + 1, 4, none⟩ = some (.int .u32 a') := B3.2.cell 4; have d5 : w3.cell? ⟨w.heap.size + 1, 5, none⟩ = some (.int .i64 c') := B3.2.cell 5; have d6 : w3.cell? ⟨w.heap.size + 1, 6, none⟩ = some (.int .i64 o') := B3.2.cell 6; have d7 : w3.cell? ⟨w.heap.size + 1, 7, none⟩ = some (.int .i64 n') := B3.2.cell 7; have d8 : w3.cell? ⟨w.heap.size + 1, 8, none⟩ = some (.int .i64 t') := B3.2.cell 8; clear q B3)
      | (go_at_call 55; refine (HHn.out w3).mono ?_; rintro e w4 ⟨rfl, q⟩; clear HHn; have A4 := Lib.hid q; clear q))
    go_ret
    exact ⟨rfl, HA2.out⟩
  · have e1 := eq_not hg
    have HL2 := Lib.hid (show r = if rl = false then false else if k = 4 then decide (c = g') else decide (o = o') && hd by rw [HLe.out, if_neg hg])
    clear hg HLe
    cases rl
    · obtain rfl : r = false := by rw [HL2.out]; rfl
      go_enter Tryz.func22, Tryz.ntmps22
      go_wp2_with (first
        | (go_at_call 13; refine (HRel.out w2).mono ?_; rintro e w3 ⟨rfl, q⟩; clear HRel; have A3 := Lib.hid q.adds; have B3 := HF.out w3 q.adds; have x0 : w3.cell? ⟨w.heap.size, 0, none⟩ = some (.int .i64 g) := B3.1.cell 0; have x1 : w3.cell? ⟨w.heap.size, 1, none⟩ = some (.int .i64 k) := B3.1.cell 1; have x2 : w3.cell? ⟨w.heap.size, 2, none⟩ = some (.int .i64 f) := B3.1.cell 2; have x3 : w3.cell? ⟨w.heap.size, 3, none⟩ = some (.int .i64 p) := B3.1.cell 3; have x4 : w3.cell? ⟨w.heap.size, 4, none⟩ = some (.int .u32 a) := B3.1.cell 4; have x5 : w3.cell? ⟨w.heap.size, 5, none⟩ = some (.int .i64 c) := B3.1.cell 5; have x6 : w3.cell? ⟨w.heap.size, 6, none⟩ = some (.int .i64 o) := B3.1.cell 6; have x7 : w3.cell? ⟨w.heap.size, 7, none⟩ = some (.int .i64 n) := B3.1.cell 7; have x8 : w3.cell? ⟨w.heap.size, 8, none⟩ = some (.int .i64 t) := B3.1.cell 8; have d0 : w3.cell? ⟨w.heap.size + 1, 0, none⟩ = some (.int .i64 g') := B3.2.cell 0; have d1 : w3.cell? ⟨w.heap.size + 1, 1, none⟩ = some (.int .i64 k') := B3.2.cell 1; have d2 : w3.cell? ⟨w.heap.size + 1, 2, none⟩ = some (.int .i64 f') := B3.2.cell 2; have d3 : w3.cell? ⟨w.heap.size + 1, 3, none⟩ = some (.int .i64 p') := B3.2.cell 3; have d4 : w3.cell? ⟨w.heap.size + 1, 4, none⟩ = some (.int .u32 a') := B3.2.cell 4; have d5 : w3.cell? ⟨w.heap.size + 1, 5, none⟩ = some (.int .i64 c') := B3.2.cell 5; have d6 : w3.cell? ⟨w.heap.size + 1, 6, none⟩ = some (.int .i64 o') := B3.2.cell 6; have d7 : w3.cell? ⟨w.heap.size + 1, 7, none⟩ = some (.int .i64 n') := B3.2.cell 7; have d8 : w3.cell? ⟨w.heap.size + 1, 8, none⟩ = some (.int .i64 t') := B3.2.cell 8; clear q B3)
        | (go_at_call 55; refine (HHn.out w3).mono ?_; rintro e w4 ⟨rfl, q⟩; clear HHn; have A4 := Lib.hid q; clear q))
      go_ret
      exact ⟨rfl, Adds.trans HA2.out A3.out⟩
    · by_cases h4 : k = 4
      · have e2 := eq_yes h4
        have HL3 := Lib.hid (show (c == g') = r by rw [HL2.out]; simp only [h4, if_true]; rw [if_neg (by simp)]; by_cases h : c = g' <;> simp [h])
        clear h4 HL2
        go_enter Tryz.func22, Tryz.ntmps22
        go_wp2_with (first
          | (go_at_call 13; refine (HRel.out w2).mono ?_; rintro e w3 ⟨rfl, q⟩; clear HRel; have A3 := Lib.hid q.adds; have B3 := HF.out w3 q.adds; have x0 : w3.cell? ⟨w.heap.size, 0, none⟩ = some (.int .i64 g) := B3.1.cell 0; have x1 : w3.cell? ⟨w.heap.size, 1, none⟩ = some (.int .i64 k) := B3.1.cell 1; have x2 : w3.cell? ⟨w.heap.size, 2, none⟩ = some (.int .i64 f) := B3.1.cell 2; have x3 : w3.cell? ⟨w.heap.size, 3, none⟩ = some (.int .i64 p) := B3.1.cell 3; have x4 : w3.cell? ⟨w.heap.size, 4, none⟩ = some (.int .u32 a) := B3.1.cell 4; have x5 : w3.cell? ⟨w.heap.size, 5, none⟩ = some (.int .i64 c) := B3.1.cell 5; have x6 : w3.cell? ⟨w.heap.size, 6, none⟩ = some (.int .i64 o) := B3.1.cell 6; have x7 : w3.cell? ⟨w.heap.size, 7, none⟩ = some (.int .i64 n) := B3.1.cell 7; have x8 : w3.cell? ⟨w.heap.size, 8, none⟩ = some (.int .i64 t) := B3.1.cell 8; have d0 : w3.cell? ⟨w.heap.size + 1, 0, none⟩ = some (.int .i64 g') := B3.2.cell 0; have d1 : w3.cell? ⟨w.heap.size + 1, 1, none⟩ = some (.int .i64 k') := B3.2.cell 1; have d2 : w3.cell? ⟨w.heap.size + 1, 2, none⟩ = some (.int .i64 f') := B3.2.cell 2; have d3 : w3.cell? ⟨w.heap.size + 1, 3, none⟩ = some (.int .i64 p') := B3.2.cell 3; have d4 : w3.cell? ⟨w.heap.size + 1, 4, none⟩ = some (.int .u32 a') := B3.2.cell 4; have d5 : w3.cell? ⟨w.heap.size + 1, 5, none⟩ = some (.int .i64 c') := B3.2.cell 5; have d6 : w3.cell? ⟨w.heap.size + 1, 6, none⟩ = some (.int .i64 o') := B3.2.cell 6; have d7 : w3.cell? ⟨w.heap.size + 1, 7, none⟩ = some (.int .i64 n') := B3.2.cell 7; have d8 : w3.cell? ⟨w.heap.size + 1, 8, none⟩ = some (.int .i64 t') := B3.2.cell 8; clear q B3)
          | (go_at_call 55; refine (HHn.out w3).mono ?_; rintro e w4 ⟨rfl, q⟩; clear HHn; have A4 := Lib.hid q; clear q))
        go_ret
        exact ⟨ret_b HL3.out, Adds.trans HA2.out A3.out⟩
      · have e2 := eq_not h4
        have HL3 := Lib.hid (show r = (decide (o = o') && hd) by rw [HL2.out]; simp [h4])
        clear h4 HL2
        by_cases ho : o = o'
        · have e3 := eq_yes ho
          obtain rfl : r = hd := by rw [HL3.out]; simp [ho]
          clear ho
          go_enter Tryz.func22, Tryz.ntmps22
          go_wp2_with (first
            | (go_at_call 13; refine (HRel.out w2).mono ?_; rintro e w3 ⟨rfl, q⟩; clear HRel; have A3 := Lib.hid q.adds; have B3 := HF.out w3 q.adds; have x0 : w3.cell? ⟨w.heap.size, 0, none⟩ = some (.int .i64 g) := B3.1.cell 0; have x1 : w3.cell? ⟨w.heap.size, 1, none⟩ = some (.int .i64 k) := B3.1.cell 1; have x2 : w3.cell? ⟨w.heap.size, 2, none⟩ = some (.int .i64 f) := B3.1.cell 2; have x3 : w3.cell? ⟨w.heap.size, 3, none⟩ = some (.int .i64 p) := B3.1.cell 3; have x4 : w3.cell? ⟨w.heap.size, 4, none⟩ = some (.int .u32 a) := B3.1.cell 4; have x5 : w3.cell? ⟨w.heap.size, 5, none⟩ = some (.int .i64 c) := B3.1.cell 5; have x6 : w3.cell? ⟨w.heap.size, 6, none⟩ = some (.int .i64 o) := B3.1.cell 6; have x7 : w3.cell? ⟨w.heap.size, 7, none⟩ = some (.int .i64 n) := B3.1.cell 7; have x8 : w3.cell? ⟨w.heap.size, 8, none⟩ = some (.int .i64 t) := B3.1.cell 8; have d0 : w3.cell? ⟨w.heap.size + 1, 0, none⟩ = some (.int .i64 g') := B3.2.cell 0; have d1 : w3.cell? ⟨w.heap.size + 1, 1, none⟩ = some (.int .i64 k') := B3.2.cell 1; have d2 : w3.cell? ⟨w.heap.size + 1, 2, none⟩ = some (.int .i64 f') := B3.2.cell 2; have d3 : w3.cell? ⟨w.heap.size + 1, 3, none⟩ = some (.int .i64 p') := B3.2.cell 3; have d4 : w3.cell? ⟨w.heap.size + 1, 4, none⟩ = some (.int .u32 a') := B3.2.cell 4; have d5 : w3.cell? ⟨w.heap.size + 1, 5, none⟩ = some (.int .i64 c') := B3.2.cell 5; have d6 : w3.cell? ⟨w.heap.size + 1, 6, none⟩ = some (.int .i64 o') := B3.2.cell 6; have d7 : w3.cell? ⟨w.heap.size + 1, 7, none⟩ = some (.int .i64 n') := B3.2.cell 7; have d8 : w3.cell? ⟨w.heap.size + 1, 8, none⟩ = some (.int .i64 t') := B3.2.cell 8; clear q B3)
            | (go_at_call 55; refine (HHn.out w3).mono ?_; rintro e w4 ⟨rfl, q⟩; clear HHn; have A4 := Lib.hid q; clear q))
          go_ret
          exact ⟨rfl, Adds.trans HA2.out (Adds.trans A3.out A4.out)⟩
        · have e3 := eq_not ho
          obtain rfl : r = false := by rw [HL3.out]; simp [ho]
          clear ho
          go_enter Tryz.func22, Tryz.ntmps22
          go_wp2_with (first
            | (go_at_call 13; refine (HRel.out w2).mono ?_; rintro e w3 ⟨rfl, q⟩; clear HRel; have A3 := Lib.hid q.adds; have B3 := HF.out w3 q.adds; have x0 : w3.cell? ⟨w.heap.size, 0, none⟩ = some (.int .i64 g) := B3.1.cell 0; have x1 : w3.cell? ⟨w.heap.size, 1, none⟩ = some (.int .i64 k) := B3.1.cell 1; have x2 : w3.cell? ⟨w.heap.size, 2, none⟩ = some (.int .i64 f) := B3.1.cell 2; have x3 : w3.cell? ⟨w.heap.size, 3, none⟩ = some (.int .i64 p) := B3.1.cell 3; have x4 : w3.cell? ⟨w.heap.size, 4, none⟩ = some (.int .u32 a) := B3.1.cell 4; have x5 : w3.cell? ⟨w.heap.size, 5, none⟩ = some (.int .i64 c) := B3.1.cell 5; have x6 : w3.cell? ⟨w.heap.size, 6, none⟩ = some (.int .i64 o) := B3.1.cell 6; have x7 : w3.cell? ⟨w.heap.size, 7, none⟩ = some (.int .i64 n) := B3.1.cell 7; have x8 : w3.cell? ⟨w.heap.size, 8, none⟩ = some (.int .i64 t) := B3.1.cell 8; have d0 : w3.cell? ⟨w.heap.size + 1, 0, none⟩ = some (.int .i64 g') := B3.2.cell 0; have d1 : w3.cell? ⟨w.heap.size + 1, 1, none⟩ = some (.int .i64 k') := B3.2.cell 1; have d2 : w3.cell? ⟨w.heap.size + 1, 2, none⟩ = some (.int .i64 f') := B3.2.cell 2; have d3 : w3.cell? ⟨w.heap.size + 1, 3, none⟩ = some (.int .i64 p') := B3.2.cell 3; have d4 : w3.cell? ⟨w.heap.size + 1, 4, none⟩ = some (.int .u32 a') := B3.2.cell 4; have d5 : w3.cell? ⟨w.heap.size + 1, 5, none⟩ = some (.int .i64 c') := B3.2.cell 5; have d6 : w3.cell? ⟨w.heap.size + 1, 6, none⟩ = some (.int .i64 o') := B3.2.cell 6; have d7 : w3.cell? ⟨w.heap.size + 1, 7, none⟩ = some (.int .i64 n') := B3.2.cell 7; have d8 : w3.cell? ⟨w.heap.size + 1, 8, none⟩ = some (.int .i64 t') := B3.2.cell 8; clear q B3)
            | (go_at_call 55; refine (HHn.out w3).mono ?_; rintro e w4 ⟨rfl, q⟩; clear HHn; have A4 := Lib.hid q; clear q))
          go_ret
          exact ⟨rfl, Adds.trans HA2.out A3.out⟩
set_option maxRecDepth 100000 in
set_option maxHeartbeats 4000000 in
theorem refLead_any (x y : Ev) (w : World) : Calls Tryz.prog 23 #[evV x, evV y] w fun e w' => e = .returned (.bool (leadE x y)) ∧ Adds w w' := by
  have hmx : Tryz.prog.follows .mixedOrders = true := by kernel_rfl
  obtain ⟨w2, hw2⟩ : ∃ w2, (w.alloc (.cells (evC x).toArray 28)).alloc (.cells (evC y).toArray 28) = w2 := ⟨_, rfl⟩
  have HA2 := Lib.hid (show Adds w w2 by rw [← hw2]; exact ((Gr.new _ _).alloc _).adds)
  have HX2 := Lib.hid (show BkS 28 w2 w.heap.size (evC x) by rw [← hw2]; exact (BkS.new _ w _).adds (Gr.new _ _).adds)
  have HY2 := Lib.hid (show BkS 28 w2 (w.heap.size + 1) (evC y) by rw [← hw2]; exact heap_new1 _ _ _)
  obtain ⟨r, hr⟩ : ∃ r, leadE x y = r := ⟨_, rfl⟩
  rw [hr]
  have HR := Lib.hid hr
  clear hr
  obtain ⟨g, k, f, p, a, c, o, n, t⟩ := x
  obtain ⟨g', k', f', p', a', c', o', n', t'⟩ := y
  have i0 : w2.cell? ⟨w.heap.size, 0, none⟩ = some (.int .i64 g) := HX2.out.cell 0
  have i1 : w2.cell? ⟨w.heap.size, 1, none⟩ = some (.int .i64 k) := HX2.out.cell 1
  have i2 : w2.cell? ⟨w.heap.size, 2, none⟩ = some (.int .i64 f) := HX2.out.cell 2
  have i3 : w2.cell? ⟨w.heap.size, 3, none⟩ = some (.int .i64 p) := HX2.out.cell 3
  have i4 : w2.cell? ⟨w.heap.size, 4, none⟩ = some (.int .u32 a) := HX2.out.cell 4
  have i5 : w2.cell? ⟨w.heap.size, 5, none⟩ = some (.int .i64 c) := HX2.out.cell 5
  have i6 : w2.cell? ⟨w.heap.size, 6, none⟩ = some (.int .i64 o) := HX2.out.cell 6
  have i7 : w2.cell? ⟨w.heap.size, 7, none⟩ = some (.int .i64 n) := HX2.out.cell 7
  have i8 : w2.cell? ⟨w.heap.size, 8, none⟩ = some (.int .i64 t) := HX2.out.cell 8
  have j0 : w2.cell? ⟨w.heap.size + 1, 0, none⟩ = some (.int .i64 g') := HY2.out.cell 0
  have j1 : w2.cell? ⟨w.heap.size + 1, 1, none⟩ = some (.int .i64 k') := HY2.out.cell 1
  have j2 : w2.cell? ⟨w.heap.size + 1, 2, none⟩ = some (.int .i64 f') := HY2.out.cell 2
  have j3 : w2.cell? ⟨w.heap.size + 1, 3, none⟩ = some (.int .i64 p') := HY2.out.cell 3
  have j4 : w2.cell? ⟨w.heap.size + 1, 4, none⟩ = some (.int .u32 a') := HY2.out.cell 4
  have j5 : w2.cell? ⟨w.heap.size + 1, 5, none⟩ = some (.int .i64 c') := HY2.out.cell 5
  have j6 : w2.cell? ⟨w.heap.size + 1, 6, none⟩ = some (.int .i64 o') := HY2.out.cell 6
  have j7 : w2.cell? ⟨w.heap.size + 1, 7, none⟩ = some (.int .i64 n') := HY2.out.cell 7
  have j8 : w2.cell? ⟨w.heap.size + 1, 8, none⟩ = some (.int .i64 t') := HY2.out.cell 8
  have HF := Lib.hid (fun (W : World) (h : Adds w2 W) => (⟨HX2.out.adds h, HY2.out.adds h⟩ : BkS 28 W w.heap.size _ ∧ BkS 28 W (w.heap.size + 1) _))
  by_cases hg : g = g'
  · have e1 := eq_yes hg
    obtain rfl : true = r := by rw [← HR.out]; unfold leadE; rw [if_pos hg]
    clear hg
    go_enter Tryz.func23, Tryz.ntmps23
    go_wp2_with fail
    go_quiet (fail)
    have A3 := Lib.hid ((Gr.drewn w2 nq).adds)
    have B3 := HF.out _ A3.out
    have x0 : (w2.drewN nq).cell? ⟨w.heap.size, 0, none⟩ = some (.int .i64 g) := B3.1.cell 0
    have x1 : (w2.drewN nq).cell? ⟨w.heap.size, 1, none⟩ = some (.int .i64 k) := B3.1.cell 1
    have x2 : (w2.drewN nq).cell? ⟨w.heap.size, 2, none⟩ = some (.int .i64 f) := B3.1.cell 2
    have x3 : (w2.drewN nq).cell? ⟨w.heap.size, 3, none⟩ = some (.int .i64 p) := B3.1.cell 3
    have x4 : (w2.drewN nq).cell? ⟨w.heap.size, 4, none⟩ = some (.int .u32 a) := B3.1.cell 4
    have x5 : (w2.drewN nq).cell? ⟨w.heap.size, 5, none⟩ = some (.int .i64 c) := B3.1.cell 5
    have x6 : (w2.drewN nq).cell? ⟨w.heap.size, 6, none⟩ = some (.int .i64 o) := B3.1.cell 6
    have x7 : (w2.drewN nq).cell? ⟨w.heap.size, 7, none⟩ = some (.int .i64 n) := B3.1.cell 7
    have x8 : (w2.drewN nq).cell? ⟨w.heap.size, 8, none⟩ = some (.int .i64 t) := B3.1.cell 8
    have d0 : (w2.drewN nq).cell? ⟨w.heap.size + 1, 0, none⟩ = some (.int .i64 g') := B3.2.cell 0
    have d1 : (w2.drewN nq).cell? ⟨w.heap.size + 1, 1, none⟩ = some (.int .i64 k') := B3.2.cell 1
    have d2 : (w2.drewN nq).cell? ⟨w.heap.size + 1, 2, none⟩ = some (.int .i64 f') := B3.2.cell 2
    have d3 : (w2.drewN nq).cell? ⟨w.heap.size + 1, 3, none⟩ = some (.int .i64 p') := B3.2.cell 3
    have d4 : (w2.drewN nq).cell? ⟨w.heap.size + 1, 4, none⟩ = some (.int .u32 a') := B3.2.cell 4
    have d5 : (w2.drewN nq).cell? ⟨w.heap.size + 1, 5, none⟩ = some (.int .i64 c') := B3.2.cell 5
    have d6 : (w2.drewN nq).cell? ⟨w.heap.size + 1, 6, none⟩ = some (.int .i64 o') := B3.2.cell 6
    have d7 : (w2.drewN nq).cell? ⟨w.heap.size + 1, 7, none⟩ = some (.int .i64 n') := B3.2.cell 7
    have d8 : (w2.drewN nq).cell? ⟨w.heap.size + 1, 8, none⟩ = some (.int .i64 t') := B3.2.cell 8
    clear B3
    go_wp2_with fail
    all_goals go_ret
    all_goals exact ⟨rfl, Adds.trans HA2.out A3.out⟩
  · have e1 := eq_not hg
    by_cases h4 : k = 4 ∧ c = g'
    · have e2 := eq_yes h4.1
      have e3 := eq_yes h4.2
      obtain rfl : true = r := by rw [← HR.out]; unfold leadE relE; simp [h4.1, h4.2]
      clear hg h4
      go_enter Tryz.func23, Tryz.ntmps23
      go_wp2_with fail
      go_quiet (fail)
      have A3 := Lib.hid ((Gr.drewn w2 nq).adds)
      have B3 := HF.out _ A3.out
      have x0 : (w2.drewN nq).cell? ⟨w.heap.size, 0, none⟩ = some (.int .i64 g) := B3.1.cell 0
      have x1 : (w2.drewN nq).cell? ⟨w.heap.size, 1, none⟩ = some (.int .i64 k) := B3.1.cell 1
      have x2 : (w2.drewN nq).cell? ⟨w.heap.size, 2, none⟩ = some (.int .i64 f) := B3.1.cell 2
      have x3 : (w2.drewN nq).cell? ⟨w.heap.size, 3, none⟩ = some (.int .i64 p) := B3.1.cell 3
      have x4 : (w2.drewN nq).cell? ⟨w.heap.size, 4, none⟩ = some (.int .u32 a) := B3.1.cell 4
      have x5 : (w2.drewN nq).cell? ⟨w.heap.size, 5, none⟩ = some (.int .i64 c) := B3.1.cell 5
      have x6 : (w2.drewN nq).cell? ⟨w.heap.size, 6, none⟩ = some (.int .i64 o) := B3.1.cell 6
      have x7 : (w2.drewN nq).cell? ⟨w.heap.size, 7, none⟩ = some (.int .i64 n) := B3.1.cell 7
      have x8 : (w2.drewN nq).cell? ⟨w.heap.size, 8, none⟩ = some (.int .i64 t) := B3.1.cell 8
      have d0 : (w2.drewN nq).cell? ⟨w.heap.size + 1, 0, none⟩ = some (.int .i64 g') := B3.2.cell 0
      have d1 : (w2.drewN nq).cell? ⟨w.heap.size + 1, 1, none⟩ = some (.int .i64 k') := B3.2.cell 1
      have d2 : (w2.drewN nq).cell? ⟨w.heap.size + 1, 2, none⟩ = some (.int .i64 f') := B3.2.cell 2
      have d3 : (w2.drewN nq).cell? ⟨w.heap.size + 1, 3, none⟩ = some (.int .i64 p') := B3.2.cell 3
      have d4 : (w2.drewN nq).cell? ⟨w.heap.size + 1, 4, none⟩ = some (.int .u32 a') := B3.2.cell 4
      have d5 : (w2.drewN nq).cell? ⟨w.heap.size + 1, 5, none⟩ = some (.int .i64 c') := B3.2.cell 5
      have d6 : (w2.drewN nq).cell? ⟨w.heap.size + 1, 6, none⟩ = some (.int .i64 o') := B3.2.cell 6
      have d7 : (w2.drewN nq).cell? ⟨w.heap.size + 1, 7, none⟩ = some (.int .i64 n') := B3.2.cell 7
      have d8 : (w2.drewN nq).cell? ⟨w.heap.size + 1, 8, none⟩ = some (.int .i64 t') := B3.2.cell 8
      clear B3
      go_wp2_with fail
      all_goals go_ret
      all_goals exact ⟨rfl, Adds.trans HA2.out A3.out⟩
    · have e2 : (k == 4 && c == g') = false := by rw [Bool.eq_false_iff]; intro h; simp at h; exact h4 h
      have e2c : k = 4 → (c == g') = false := fun h => eq_not (fun h2 => h4 ⟨h, h2⟩)
      by_cases ho : o = o'
      · have e3 := ne_yes ho
        have HC := Lib.hid (And.intro hg (And.intro h4 ho))
        clear hg h4 ho
        by_cases hk4 : k = 4
        · have e5 := eq_yes hk4
          have e6 := e2c hk4
          obtain rfl : false = r := by rw [← HR.out]; have h := HC.out; unfold leadE relE; simp [h.1, hk4]; intro h2; exact h.2.1 ⟨hk4, h2⟩
          have e7 : (k == 6) = false := by rw [hk4]; rfl
          have e8 : (k == 10) = false := by rw [hk4]; rfl
          have e9 : (k == 8) = false := by rw [hk4]; rfl
          have e10 : (k == 11) = false := by rw [hk4]; rfl
          clear hk4 e2c e2
          go_enter Tryz.func23, Tryz.ntmps23
          go_wp2_with fail
          go_quiet (fail)
          have A3 := Lib.hid ((Gr.drewn w2 nq).adds)
          have B3 := HF.out _ A3.out
          have x0 : (w2.drewN nq).cell? ⟨w.heap.size, 0, none⟩ = some (.int .i64 g) := B3.1.cell 0
          have x1 : (w2.drewN nq).cell? ⟨w.heap.size, 1, none⟩ = some (.int .i64 k) := B3.1.cell 1
          have x2 : (w2.drewN nq).cell? ⟨w.heap.size, 2, none⟩ = some (.int .i64 f) := B3.1.cell 2
          have x3 : (w2.drewN nq).cell? ⟨w.heap.size, 3, none⟩ = some (.int .i64 p) := B3.1.cell 3
          have x4 : (w2.drewN nq).cell? ⟨w.heap.size, 4, none⟩ = some (.int .u32 a) := B3.1.cell 4
          have x5 : (w2.drewN nq).cell? ⟨w.heap.size, 5, none⟩ = some (.int .i64 c) := B3.1.cell 5
          have x6 : (w2.drewN nq).cell? ⟨w.heap.size, 6, none⟩ = some (.int .i64 o) := B3.1.cell 6
          have x7 : (w2.drewN nq).cell? ⟨w.heap.size, 7, none⟩ = some (.int .i64 n) := B3.1.cell 7
          have x8 : (w2.drewN nq).cell? ⟨w.heap.size, 8, none⟩ = some (.int .i64 t) := B3.1.cell 8
          have d0 : (w2.drewN nq).cell? ⟨w.heap.size + 1, 0, none⟩ = some (.int .i64 g') := B3.2.cell 0
          have d1 : (w2.drewN nq).cell? ⟨w.heap.size + 1, 1, none⟩ = some (.int .i64 k') := B3.2.cell 1
          have d2 : (w2.drewN nq).cell? ⟨w.heap.size + 1, 2, none⟩ = some (.int .i64 f') := B3.2.cell 2
          have d3 : (w2.drewN nq).cell? ⟨w.heap.size + 1, 3, none⟩ = some (.int .i64 p') := B3.2.cell 3
          have d4 : (w2.drewN nq).cell? ⟨w.heap.size + 1, 4, none⟩ = some (.int .u32 a') := B3.2.cell 4
          have d5 : (w2.drewN nq).cell? ⟨w.heap.size + 1, 5, none⟩ = some (.int .i64 c') := B3.2.cell 5
          have d6 : (w2.drewN nq).cell? ⟨w.heap.size + 1, 6, none⟩ = some (.int .i64 o') := B3.2.cell 6
          have d7 : (w2.drewN nq).cell? ⟨w.heap.size + 1, 7, none⟩ = some (.int .i64 n') := B3.2.cell 7
          have d8 : (w2.drewN nq).cell? ⟨w.heap.size + 1, 8, none⟩ = some (.int .i64 t') := B3.2.cell 8
          clear B3
          go_wp2_with fail
          all_goals go_ret
          all_goals exact ⟨rfl, Adds.trans HA2.out A3.out⟩
        · have e5 := eq_not hk4
          have HK4 := Lib.hid hk4
          clear e2c e2 hk4
          go_enter Tryz.func23, Tryz.ntmps23
          go_wp2_with fail
          go_quiet (fail)
          have A3 := Lib.hid ((Gr.drewn w2 nq).adds)
          have B3 := HF.out _ A3.out
          have x0 : (w2.drewN nq).cell? ⟨w.heap.size, 0, none⟩ = some (.int .i64 g) := B3.1.cell 0
          have x1 : (w2.drewN nq).cell? ⟨w.heap.size, 1, none⟩ = some (.int .i64 k) := B3.1.cell 1
          have x2 : (w2.drewN nq).cell? ⟨w.heap.size, 2, none⟩ = some (.int .i64 f) := B3.1.cell 2
          have x3 : (w2.drewN nq).cell? ⟨w.heap.size, 3, none⟩ = some (.int .i64 p) := B3.1.cell 3
          have x4 : (w2.drewN nq).cell? ⟨w.heap.size, 4, none⟩ = some (.int .u32 a) := B3.1.cell 4
          have x5 : (w2.drewN nq).cell? ⟨w.heap.size, 5, none⟩ = some (.int .i64 c) := B3.1.cell 5
          have x6 : (w2.drewN nq).cell? ⟨w.heap.size, 6, none⟩ = some (.int .i64 o) := B3.1.cell 6
          have x7 : (w2.drewN nq).cell? ⟨w.heap.size, 7, none⟩ = some (.int .i64 n) := B3.1.cell 7
          have x8 : (w2.drewN nq).cell? ⟨w.heap.size, 8, none⟩ = some (.int .i64 t) := B3.1.cell 8
          have d0 : (w2.drewN nq).cell? ⟨w.heap.size + 1, 0, none⟩ = some (.int .i64 g') := B3.2.cell 0
          have d1 : (w2.drewN nq).cell? ⟨w.heap.size + 1, 1, none⟩ = some (.int .i64 k') := B3.2.cell 1
          have d2 : (w2.drewN nq).cell? ⟨w.heap.size + 1, 2, none⟩ = some (.int .i64 f') := B3.2.cell 2
          have d3 : (w2.drewN nq).cell? ⟨w.heap.size + 1, 3, none⟩ = some (.int .i64 p') := B3.2.cell 3
          have d4 : (w2.drewN nq).cell? ⟨w.heap.size + 1, 4, none⟩ = some (.int .u32 a') := B3.2.cell 4
          have d5 : (w2.drewN nq).cell? ⟨w.heap.size + 1, 5, none⟩ = some (.int .i64 c') := B3.2.cell 5
          have d6 : (w2.drewN nq).cell? ⟨w.heap.size + 1, 6, none⟩ = some (.int .i64 o') := B3.2.cell 6
          have d7 : (w2.drewN nq).cell? ⟨w.heap.size + 1, 7, none⟩ = some (.int .i64 n') := B3.2.cell 7
          have d8 : (w2.drewN nq).cell? ⟨w.heap.size + 1, 8, none⟩ = some (.int .i64 t') := B3.2.cell 8
          clear B3
          go_wp2_with fail
          all_goals go_ret
          all_goals exact ⟨by rw [← HR.out]; refine ret_b ?_; have h := HC.out; have h4 := HK4.out; rw [Bool.eq_iff_iff]; simp [leadE, relE, handE, h.1, h.2.2, h4]; omega, Adds.trans HA2.out A3.out⟩
      · have e3 := ne_not ho
        obtain rfl : false = r := by
          rw [← HR.out]
          unfold leadE
          rw [if_neg hg]
          split
          · rfl
          · split
            · rename_i h1 h2
              exact (decide_eq_false (fun h => h4 ⟨h2, h⟩)).symm
            · simp [ho]
        clear hg ho
        by_cases hk4 : k = 4
        · have e5 := eq_yes hk4
          have e6 := e2c hk4
          clear hk4 e2c e2 h4
          go_enter Tryz.func23, Tryz.ntmps23
          go_wp2_with fail
          go_quiet (fail)
          have A3 := Lib.hid ((Gr.drewn w2 nq).adds)
          have B3 := HF.out _ A3.out
          have x0 : (w2.drewN nq).cell? ⟨w.heap.size, 0, none⟩ = some (.int .i64 g) := B3.1.cell 0
          have x1 : (w2.drewN nq).cell? ⟨w.heap.size, 1, none⟩ = some (.int .i64 k) := B3.1.cell 1
          have x2 : (w2.drewN nq).cell? ⟨w.heap.size, 2, none⟩ = some (.int .i64 f) := B3.1.cell 2
          have x3 : (w2.drewN nq).cell? ⟨w.heap.size, 3, none⟩ = some (.int .i64 p) := B3.1.cell 3
          have x4 : (w2.drewN nq).cell? ⟨w.heap.size, 4, none⟩ = some (.int .u32 a) := B3.1.cell 4
          have x5 : (w2.drewN nq).cell? ⟨w.heap.size, 5, none⟩ = some (.int .i64 c) := B3.1.cell 5
          have x6 : (w2.drewN nq).cell? ⟨w.heap.size, 6, none⟩ = some (.int .i64 o) := B3.1.cell 6
          have x7 : (w2.drewN nq).cell? ⟨w.heap.size, 7, none⟩ = some (.int .i64 n) := B3.1.cell 7
          have x8 : (w2.drewN nq).cell? ⟨w.heap.size, 8, none⟩ = some (.int .i64 t) := B3.1.cell 8
          have d0 : (w2.drewN nq).cell? ⟨w.heap.size + 1, 0, none⟩ = some (.int .i64 g') := B3.2.cell 0
          have d1 : (w2.drewN nq).cell? ⟨w.heap.size + 1, 1, none⟩ = some (.int .i64 k') := B3.2.cell 1
          have d2 : (w2.drewN nq).cell? ⟨w.heap.size + 1, 2, none⟩ = some (.int .i64 f') := B3.2.cell 2
          have d3 : (w2.drewN nq).cell? ⟨w.heap.size + 1, 3, none⟩ = some (.int .i64 p') := B3.2.cell 3
          have d4 : (w2.drewN nq).cell? ⟨w.heap.size + 1, 4, none⟩ = some (.int .u32 a') := B3.2.cell 4
          have d5 : (w2.drewN nq).cell? ⟨w.heap.size + 1, 5, none⟩ = some (.int .i64 c') := B3.2.cell 5
          have d6 : (w2.drewN nq).cell? ⟨w.heap.size + 1, 6, none⟩ = some (.int .i64 o') := B3.2.cell 6
          have d7 : (w2.drewN nq).cell? ⟨w.heap.size + 1, 7, none⟩ = some (.int .i64 n') := B3.2.cell 7
          have d8 : (w2.drewN nq).cell? ⟨w.heap.size + 1, 8, none⟩ = some (.int .i64 t') := B3.2.cell 8
          clear B3
          go_wp2_with fail
          all_goals go_ret
          all_goals exact ⟨rfl, Adds.trans HA2.out A3.out⟩
        · have e5 := eq_not hk4
          clear hk4 e2c e2 h4
          go_enter Tryz.func23, Tryz.ntmps23
          go_wp2_with fail
          go_quiet (fail)
          have A3 := Lib.hid ((Gr.drewn w2 nq).adds)
          have B3 := HF.out _ A3.out
          have x0 : (w2.drewN nq).cell? ⟨w.heap.size, 0, none⟩ = some (.int .i64 g) := B3.1.cell 0
          have x1 : (w2.drewN nq).cell? ⟨w.heap.size, 1, none⟩ = some (.int .i64 k) := B3.1.cell 1
          have x2 : (w2.drewN nq).cell? ⟨w.heap.size, 2, none⟩ = some (.int .i64 f) := B3.1.cell 2
          have x3 : (w2.drewN nq).cell? ⟨w.heap.size, 3, none⟩ = some (.int .i64 p) := B3.1.cell 3
          have x4 : (w2.drewN nq).cell? ⟨w.heap.size, 4, none⟩ = some (.int .u32 a) := B3.1.cell 4
          have x5 : (w2.drewN nq).cell? ⟨w.heap.size, 5, none⟩ = some (.int .i64 c) := B3.1.cell 5
          have x6 : (w2.drewN nq).cell? ⟨w.heap.size, 6, none⟩ = some (.int .i64 o) := B3.1.cell 6
          have x7 : (w2.drewN nq).cell? ⟨w.heap.size, 7, none⟩ = some (.int .i64 n) := B3.1.cell 7
          have x8 : (w2.drewN nq).cell? ⟨w.heap.size, 8, none⟩ = some (.int .i64 t) := B3.1.cell 8
          have d0 : (w2.drewN nq).cell? ⟨w.heap.size + 1, 0, none⟩ = some (.int .i64 g') := B3.2.cell 0
          have d1 : (w2.drewN nq).cell? ⟨w.heap.size + 1, 1, none⟩ = some (.int .i64 k') := B3.2.cell 1
          have d2 : (w2.drewN nq).cell? ⟨w.heap.size + 1, 2, none⟩ = some (.int .i64 f') := B3.2.cell 2
          have d3 : (w2.drewN nq).cell? ⟨w.heap.size + 1, 3, none⟩ = some (.int .i64 p') := B3.2.cell 3
          have d4 : (w2.drewN nq).cell? ⟨w.heap.size + 1, 4, none⟩ = some (.int .u32 a') := B3.2.cell 4
          have d5 : (w2.drewN nq).cell? ⟨w.heap.size + 1, 5, none⟩ = some (.int .i64 c') := B3.2.cell 5
          have d6 : (w2.drewN nq).cell? ⟨w.heap.size + 1, 6, none⟩ = some (.int .i64 o') := B3.2.cell 6
          have d7 : (w2.drewN nq).cell? ⟨w.heap.size + 1, 7, none⟩ = some (.int .i64 n') := B3.2.cell 7
          have d8 : (w2.drewN nq).cell? ⟨w.heap.size + 1, 8, none⟩ = some (.int .i64 t') := B3.2.cell 8
          clear B3
          go_wp2_with fail
          all_goals go_ret
          all_goals exact ⟨rfl, Adds.trans HA2.out A3.out⟩
end Go.Proofs.YtbinmgpfkjmijaaGreatDoor
