/- What releases, what conflicts: contracts. (genG1.py wrote this.) -/
import Derived.BigCall
import Derived.BigGuard
import Derived.Shelf.AbstractIn
import Derived.Test.YtbinmgpfkjmijaaGreatDoorEvF1
namespace Go.Proofs.YtbinmgpfkjmijaaGreatDoor
open Go Go.RowKit Go.Shelf

theorem num16 (x : Int) (w : World) : Calls Tryz.prog 11 #[.int .i64 x] w fun e w' => e = .returned (.int .i64 x) ∧ w = w' := by
  go_enter Tryz.func11, Tryz.ntmps11
  go_wp2
  go_ret
  exact ⟨rfl, rfl⟩
theorem rel_any (x : Ev) (w : World) : Calls Tryz.prog 13 #[evV x] w fun e w' => e = .returned (.bool (relE x)) ∧ Gr w w' := by
  obtain ⟨g, k, f, p, a, c, o, n, t⟩ := x
  by_cases h4 : k = 4
  · subst h4
    rw [show relE ⟨g, 4, f, p, a, c, o, n, t⟩ = true by simp [relE]]
    go_enter Tryz.func13, Tryz.ntmps13
    go_wp2
    go_ret
    exact ⟨(by first | rfl | simp [*]), Gr.new _ _⟩
  by_cases h6 : k = 6
  · subst h6
    rw [show relE ⟨g, 6, f, p, a, c, o, n, t⟩ = true by simp [relE]]
    go_enter Tryz.func13, Tryz.ntmps13
    go_wp2
    go_ret
    exact ⟨(by first | rfl | simp [*]), Gr.new _ _⟩
  by_cases h8 : k = 8
  · subst h8
    rw [show relE ⟨g, 8, f, p, a, c, o, n, t⟩ = true by simp [relE]]
    go_enter Tryz.func13, Tryz.ntmps13
    go_wp2
    go_ret
    exact ⟨(by first | rfl | simp [*]), Gr.new _ _⟩
  by_cases h10 : k = 10
  · subst h10
    rw [show relE ⟨g, 10, f, p, a, c, o, n, t⟩ = true by simp [relE]]
    go_enter Tryz.func13, Tryz.ntmps13
    go_wp2
    go_ret
    exact ⟨(by first | rfl | simp [*]), Gr.new _ _⟩
  by_cases h11 : k = 11
  · subst h11
    by_cases hn : n < 0
    · rw [show relE ⟨g, 11, f, p, a, c, o, n, t⟩ = true by simp [relE, hn]]
      go_enter Tryz.func13, Tryz.ntmps13
      go_wp2
      go_ret
      exact ⟨(by first | rfl | simp [*]), Gr.new _ _⟩
    · rw [show relE ⟨g, 11, f, p, a, c, o, n, t⟩ = false by simp [relE, hn]]
      go_enter Tryz.func13, Tryz.ntmps13
      go_wp2
      go_ret
      exact ⟨(by first | rfl | simp [*]), Gr.new _ _⟩
  · rw [show relE ⟨g, k, f, p, a, c, o, n, t⟩ = false by simp [relE, h4, h6, h8, h10, h11]]
    go_enter Tryz.func13, Tryz.ntmps13
    go_wp2
    go_ret
    exact ⟨(by first | rfl | simp [*]), Gr.new _ _⟩
theorem refRel_any (x : Ev) (w : World) : Calls Tryz.prog 14 #[evV x] w fun e w' => e = .returned (.bool (relE x)) ∧ Gr w w' := by
  obtain ⟨g, k, f, p, a, c, o, n, t⟩ := x
  by_cases h4 : k = 4
  · subst h4
    rw [show relE ⟨g, 4, f, p, a, c, o, n, t⟩ = true by simp [relE]]
    go_enter Tryz.func14, Tryz.ntmps14
    go_wp2
    go_ret
    exact ⟨(by first | rfl | simp [*]), Gr.new _ _⟩
  by_cases h6 : k = 6
  · subst h6
    rw [show relE ⟨g, 6, f, p, a, c, o, n, t⟩ = true by simp [relE]]
    go_enter Tryz.func14, Tryz.ntmps14
    go_wp2
    go_ret
    exact ⟨(by first | rfl | simp [*]), Gr.new _ _⟩
  by_cases h8 : k = 8
  · subst h8
    rw [show relE ⟨g, 8, f, p, a, c, o, n, t⟩ = true by simp [relE]]
    go_enter Tryz.func14, Tryz.ntmps14
    go_wp2
    go_ret
    exact ⟨(by first | rfl | simp [*]), Gr.new _ _⟩
  by_cases h10 : k = 10
  · subst h10
    rw [show relE ⟨g, 10, f, p, a, c, o, n, t⟩ = true by simp [relE]]
    go_enter Tryz.func14, Tryz.ntmps14
    go_wp2
    go_ret
    exact ⟨(by first | rfl | simp [*]), Gr.new _ _⟩
  by_cases h11 : k = 11
  · subst h11
    by_cases hn : n < 0
    · rw [show relE ⟨g, 11, f, p, a, c, o, n, t⟩ = true by simp [relE, hn]]
      go_enter Tryz.func14, Tryz.ntmps14
      go_wp2
      go_ret
      exact ⟨(by first | rfl | simp [*]), Gr.new _ _⟩
    · rw [show relE ⟨g, 11, f, p, a, c, o, n, t⟩ = false by simp [relE, hn]]
      go_enter Tryz.func14, Tryz.ntmps14
      go_wp2
      go_ret
      exact ⟨(by first | rfl | simp [*]), Gr.new _ _⟩
  · rw [show relE ⟨g, k, f, p, a, c, o, n, t⟩ = false by simp [relE, h4, h6, h8, h10, h11]]
    go_enter Tryz.func14, Tryz.ntmps14
    go_wp2
    go_ret
    exact ⟨(by first | rfl | simp [*]), Gr.new _ _⟩
theorem touch_any (x : Ev) (w : World) : Calls Tryz.prog 53 #[evV x] w fun e w' => e = .returned (.bool (touchE x)) ∧ Gr w w' := by
  obtain ⟨g, k, f, p, a, c, o, n, t⟩ := x
  by_cases h2 : k = 2
  · subst h2
    rw [show touchE ⟨g, 2, f, p, a, c, o, n, t⟩ = true by simp [touchE]]
    go_enter Tryz.func53, Tryz.ntmps53
    go_wp2
    go_ret
    exact ⟨(by first | rfl | simp [*]), Gr.new _ _⟩
  by_cases h3 : k = 3
  · subst h3
    rw [show touchE ⟨g, 3, f, p, a, c, o, n, t⟩ = true by simp [touchE]]
    go_enter Tryz.func53, Tryz.ntmps53
    go_wp2
    go_ret
    exact ⟨(by first | rfl | simp [*]), Gr.new _ _⟩
  · rw [show touchE ⟨g, k, f, p, a, c, o, n, t⟩ = false by simp [touchE, h2, h3]]
    go_enter Tryz.func53, Tryz.ntmps53
    go_wp2
    go_ret
    exact ⟨(by first | rfl | simp [*]), Gr.new _ _⟩
theorem refTouch_any (x : Ev) (w : World) : Calls Tryz.prog 54 #[evV x] w fun e w' => e = .returned (.bool (touchE x)) ∧ Gr w w' := by
  obtain ⟨g, k, f, p, a, c, o, n, t⟩ := x
  by_cases h2 : k = 2
  · subst h2
    rw [show touchE ⟨g, 2, f, p, a, c, o, n, t⟩ = true by simp [touchE]]
    go_enter Tryz.func54, Tryz.ntmps54
    go_wp2
    go_ret
    exact ⟨(by first | rfl | simp [*]), Gr.new _ _⟩
  by_cases h3 : k = 3
  · subst h3
    rw [show touchE ⟨g, 3, f, p, a, c, o, n, t⟩ = true by simp [touchE]]
    go_enter Tryz.func54, Tryz.ntmps54
    go_wp2
    go_ret
    exact ⟨(by first | rfl | simp [*]), Gr.new _ _⟩
  · rw [show touchE ⟨g, k, f, p, a, c, o, n, t⟩ = false by simp [touchE, h2, h3]]
    go_enter Tryz.func54, Tryz.ntmps54
    go_wp2
    go_ret
    exact ⟨(by first | rfl | simp [*]), Gr.new _ _⟩
set_option maxRecDepth 100000 in
set_option maxHeartbeats 4000000 in
theorem con_any (x y : Ev) (w : World) : Calls Tryz.prog 20 #[evV x, evV y] w fun e w' => e = .returned (.bool (conE x y)) ∧ Adds w w' := by
  obtain ⟨w2, hw2⟩ : ∃ w2, (w.alloc (.cells (evC x).toArray 28)).alloc (.cells (evC y).toArray 28) = w2 := ⟨_, rfl⟩
  have HA2 := Lib.hid (show Adds w w2 by rw [← hw2]; exact ((Gr.new _ _).alloc _).adds)
  have HX2 := Lib.hid (show BkS 28 w2 w.heap.size (evC x) by rw [← hw2]; exact (BkS.new _ w _).adds (Gr.new _ _).adds)
  have HY2 := Lib.hid (show BkS 28 w2 (w.heap.size + 1) (evC y) by rw [← hw2]; exact heap_new1 _ _ _)
  have HTx := Lib.hid (fun W => touch_any x W)
  have HTy := Lib.hid (fun W => touch_any y W)
  obtain ⟨r, hr⟩ : ∃ r, conE x y = r := ⟨_, rfl⟩
  rw [hr]
  unfold conE at hr
  generalize touchE x = tx at HTx hr
  generalize touchE y = ty at HTy hr
  obtain ⟨g, k, f, p, a, c, o, n, t⟩ := x
  obtain ⟨g', k', f', p', a', c', o', n', t'⟩ := y
  have i0 : w2.cell? ⟨w.heap.size, 0, none⟩ = some (.int .i64 g) := HX2.out.cell 0
  have i1 : w2.cell? ⟨w.heap.size, 1, none⟩ = some (.int .i64 k) := HX2.out.cell 1
  have i2 : w2.cell? ⟨w.heap.size, 2, none⟩ = some (.int .i64 f) := HX2.out.cell 2
  have i3 : w2.cell? ⟨w.heap.size, 3, none⟩ = some (.int .i64 p) := HX2.out.cell 3
  have i4 : w2.cell? ⟨w.heap.size, 4, none⟩ = some (.int .u32 a) := HX2.out.cell 4
  have i5 : w2.cell? ⟨w.heap.size, 5, none⟩ = some (.int .i64 c) := HX2.out.cell 5
  have i6 : w2.cell? ⟨w.heap.size, 6, none⟩ = some (.int .i64 o) := HX2.out.cell 6
  have i7 : w2.cell? ⟨w.heap.size, 7, none⟩ = some (.int .i64 n) := HX2.out.cell 7
  have i8 : w2.cell? ⟨w.heap.size, 8, none⟩ = some (.int .i64 t) := HX2.out.cell 8
  have j0 : w2.cell? ⟨w.heap.size + 1, 0, none⟩ = some (.int .i64 g') := HY2.out.cell 0
  have j1 : w2.cell? ⟨w.heap.size + 1, 1, none⟩ = some (.int .i64 k') := HY2.out.cell 1
  have j2 : w2.cell? ⟨w.heap.size + 1, 2, none⟩ = some (.int .i64 f') := HY2.out.cell 2
  have j3 : w2.cell? ⟨w.heap.size + 1, 3, none⟩ = some (.int .i64 p') := HY2.out.cell 3
  have j4 : w2.cell? ⟨w.heap.size + 1, 4, none⟩ = some (.int .u32 a') := HY2.out.cell 4
  have j5 : w2.cell? ⟨w.heap.size + 1, 5, none⟩ = some (.int .i64 c') := HY2.out.cell 5
  have j6 : w2.cell? ⟨w.heap.size + 1, 6, none⟩ = some (.int .i64 o') := HY2.out.cell 6
  have j7 : w2.cell? ⟨w.heap.size + 1, 7, none⟩ = some (.int .i64 n') := HY2.out.cell 7
  have j8 : w2.cell? ⟨w.heap.size + 1, 8, none⟩ = some (.int .i64 t') := HY2.out.cell 8
  have HF := Lib.hid (fun (W : World) (h : Adds w2 W) => (⟨HX2.out.adds h, HY2.out.adds h⟩ : BkS 28 W w.heap.size _ ∧ BkS 28 W (w.heap.size + 1) _))
  cases tx
  · obtain rfl : false = r := hr
    go_enter Tryz.func20, Tryz.ntmps20
    go_wp2_with (first
      | (go_at_call 53; refine (HTx.out w2).mono ?_; rintro e w3 ⟨rfl, q⟩; clear HTx; have A3 := Lib.hid q.adds; have B3 := HF.out w3 q.adds; have c0 : w3.cell? ⟨w.heap.size, 0, none⟩ = some (.int .i64 g) := B3.1.cell 0; have c1 : w3.cell? ⟨w.heap.size, 1, none⟩ = some (.int .i64 k) := B3.1.cell 1; have c2 : w3.cell? ⟨w.heap.size, 2, none⟩ = some (.int .i64 f) := B3.1.cell 2; have c3 : w3.cell? ⟨w.heap.size, 3, none⟩ = some (.int .i64 p) := B3.1.cell 3; have c4 : w3.cell? ⟨w.heap.size, 4, none⟩ = some (.int .u32 a) := B3.1.cell 4; have c5 : w3.cell? ⟨w.heap.size, 5, none⟩ = some (.int .i64 c) := B3.1.cell 5; have c6 : w3.cell? ⟨w.heap.size, 6, none⟩ = some (.int .i64 o) := B3.1.cell 6; have c7 : w3.cell? ⟨w.heap.size, 7, none⟩ = some (.int .i64 n) := B3.1.cell 7; have c8 : w3.cell? ⟨w.heap.size, 8, none⟩ = some (.int .i64 t) := B3.1.cell 8; have d0 : w3.cell? ⟨w.heap.size + 1, 0, none⟩ = some (.int .i64 g') := B3.2.cell 0; have d1 : w3.cell? ⟨w.heap.size + 1, 1, none⟩ = some (.int .i64 k') := B3.2.cell 1; have d2 : w3.cell? ⟨w.heap.size + 1, 2, none⟩ = some (.int .i64 f') := B3.2.cell 2; have d3 : w3.cell? ⟨w.heap.size + 1, 3, none⟩ = some (.int .i64 p') := B3.2.cell 3; have d4 : w3.cell? ⟨w.heap.size + 1, 4, none⟩ = some (.int .u32 a') := B3.2.cell 4; have d5 : w3.cell? ⟨w.heap.size + 1, 5, none⟩ = some (.int .i64 c') := B3.2.cell 5; have d6 : w3.cell? ⟨w.heap.size + 1, 6, none⟩ = some (.int .i64 o') := B3.2.cell 6; have d7 : w3.cell? ⟨w.heap.size + 1, 7, none⟩ = some (.int .i64 n') := B3.2.cell 7; have d8 : w3.cell? ⟨w.heap.size + 1, 8, none⟩ = some (.int .i64 t') := B3.2.cell 8; clear q B3)
      | (go_at_call 53; refine (HTy.out w3).mono ?_; rintro e w4 ⟨rfl, q⟩; clear HTy; have A4 := Lib.hid q.adds; have B4 := HF.out w4 (Adds.trans A3.out q.adds); have x0 : w4.cell? ⟨w.heap.size, 0, none⟩ = some (.int .i64 g) := B4.1.cell 0; have x1 : w4.cell? ⟨w.heap.size, 1, none⟩ = some (.int .i64 k) := B4.1.cell 1; have x2 : w4.cell? ⟨w.heap.size, 2, none⟩ = some (.int .i64 f) := B4.1.cell 2; have x3 : w4.cell? ⟨w.heap.size, 3, none⟩ = some (.int .i64 p) := B4.1.cell 3; have x4 : w4.cell? ⟨w.heap.size, 4, none⟩ = some (.int .u32 a) := B4.1.cell 4; have x5 : w4.cell? ⟨w.heap.size, 5, none⟩ = some (.int .i64 c) := B4.1.cell 5; have x6 : w4.cell? ⟨w.heap.size, 6, none⟩ = some (.int .i64 o) := B4.1.cell 6; have x7 : w4.cell? ⟨w.heap.size, 7, none⟩ = some (.int .i64 n) := B4.1.cell 7; have x8 : w4.cell? ⟨w.heap.size, 8, none⟩ = some (.int .i64 t) := B4.1.cell 8; have y0 : w4.cell? ⟨w.heap.size + 1, 0, none⟩ = some (.int .i64 g') := B4.2.cell 0; have y1 : w4.cell? ⟨w.heap.size + 1, 1, none⟩ = some (.int .i64 k') := B4.2.cell 1; have y2 : w4.cell? ⟨w.heap.size + 1, 2, none⟩ = some (.int .i64 f') := B4.2.cell 2; have y3 : w4.cell? ⟨w.heap.size + 1, 3, none⟩ = some (.int .i64 p') := B4.2.cell 3; have y4 : w4.cell? ⟨w.heap.size + 1, 4, none⟩ = some (.int .u32 a') := B4.2.cell 4; have y5 : w4.cell? ⟨w.heap.size + 1, 5, none⟩ = some (.int .i64 c') := B4.2.cell 5; have y6 : w4.cell? ⟨w.heap.size + 1, 6, none⟩ = some (.int .i64 o') := B4.2.cell 6; have y7 : w4.cell? ⟨w.heap.size + 1, 7, none⟩ = some (.int .i64 n') := B4.2.cell 7; have y8 : w4.cell? ⟨w.heap.size + 1, 8, none⟩ = some (.int .i64 t') := B4.2.cell 8; clear q B4))
    go_ret
    exact ⟨rfl, Adds.trans HA2.out A3.out⟩
  · cases ty
    · obtain rfl : false = r := hr
      go_enter Tryz.func20, Tryz.ntmps20
      go_wp2_with (first
        | (go_at_call 53; refine (HTx.out w2).mono ?_; rintro e w3 ⟨rfl, q⟩; clear HTx; have A3 := Lib.hid q.adds; have B3 := HF.out w3 q.adds; have c0 : w3.cell? ⟨w.heap.size, 0, none⟩ = some (.int .i64 g) := B3.1.cell 0; have c1 : w3.cell? ⟨w.heap.size, 1, none⟩ = some (.int .i64 k) := B3.1.cell 1; have c2 : w3.cell? ⟨w.heap.size, 2, none⟩ = some (.int .i64 f) := B3.1.cell 2; have c3 : w3.cell? ⟨w.heap.size, 3, none⟩ = some (.int .i64 p) := B3.1.cell 3; have c4 : w3.cell? ⟨w.heap.size, 4, none⟩ = some (.int .u32 a) := B3.1.cell 4; have c5 : w3.cell? ⟨w.heap.size, 5, none⟩ = some (.int .i64 c) := B3.1.cell 5; have c6 : w3.cell? ⟨w.heap.size, 6, none⟩ = some (.int .i64 o) := B3.1.cell 6; have c7 : w3.cell? ⟨w.heap.size, 7, none⟩ = some (.int .i64 n) := B3.1.cell 7; have c8 : w3.cell? ⟨w.heap.size, 8, none⟩ = some (.int .i64 t) := B3.1.cell 8; have d0 : w3.cell? ⟨w.heap.size + 1, 0, none⟩ = some (.int .i64 g') := B3.2.cell 0; have d1 : w3.cell? ⟨w.heap.size + 1, 1, none⟩ = some (.int .i64 k') := B3.2.cell 1; have d2 : w3.cell? ⟨w.heap.size + 1, 2, none⟩ = some (.int .i64 f') := B3.2.cell 2; have d3 : w3.cell? ⟨w.heap.size + 1, 3, none⟩ = some (.int .i64 p') := B3.2.cell 3; have d4 : w3.cell? ⟨w.heap.size + 1, 4, none⟩ = some (.int .u32 a') := B3.2.cell 4; have d5 : w3.cell? ⟨w.heap.size + 1, 5, none⟩ = some (.int .i64 c') := B3.2.cell 5; have d6 : w3.cell? ⟨w.heap.size + 1, 6, none⟩ = some (.int .i64 o') := B3.2.cell 6; have d7 : w3.cell? ⟨w.heap.size + 1, 7, none⟩ = some (.int .i64 n') := B3.2.cell 7; have d8 : w3.cell? ⟨w.heap.size + 1, 8, none⟩ = some (.int .i64 t') := B3.2.cell 8; clear q B3)
        | (go_at_call 53; refine (HTy.out w3).mono ?_; rintro e w4 ⟨rfl, q⟩; clear HTy; have A4 := Lib.hid q.adds; have B4 := HF.out w4 (Adds.trans A3.out q.adds); have x0 : w4.cell? ⟨w.heap.size, 0, none⟩ = some (.int .i64 g) := B4.1.cell 0; have x1 : w4.cell? ⟨w.heap.size, 1, none⟩ = some (.int .i64 k) := B4.1.cell 1; have x2 : w4.cell? ⟨w.heap.size, 2, none⟩ = some (.int .i64 f) := B4.1.cell 2; have x3 : w4.cell? ⟨w.heap.size, 3, none⟩ = some (.int .i64 p) := B4.1.cell 3; have x4 : w4.cell? ⟨w.heap.size, 4, none⟩ = some (.int .u32 a) := B4.1.cell 4; have x5 : w4.cell? ⟨w.heap.size, 5, none⟩ = some (.int .i64 c) := B4.1.cell 5; have x6 : w4.cell? ⟨w.heap.size, 6, none⟩ = some (.int .i64 o) := B4.1.cell 6; have x7 : w4.cell? ⟨w.heap.size, 7, none⟩ = some (.int .i64 n) := B4.1.cell 7; have x8 : w4.cell? ⟨w.heap.size, 8, none⟩ = some (.int .i64 t) := B4.1.cell 8; have y0 : w4.cell? ⟨w.heap.size + 1, 0, none⟩ = some (.int .i64 g') := B4.2.cell 0; have y1 : w4.cell? ⟨w.heap.size + 1, 1, none⟩ = some (.int .i64 k') := B4.2.cell 1; have y2 : w4.cell? ⟨w.heap.size + 1, 2, none⟩ = some (.int .i64 f') := B4.2.cell 2; have y3 : w4.cell? ⟨w.heap.size + 1, 3, none⟩ = some (.int .i64 p') := B4.2.cell 3; have y4 : w4.cell? ⟨w.heap.size + 1, 4, none⟩ = some (.int .u32 a') := B4.2.cell 4; have y5 : w4.cell? ⟨w.heap.size + 1, 5, none⟩ = some (.int .i64 c') := B4.2.cell 5; have y6 : w4.cell? ⟨w.heap.size + 1, 6, none⟩ = some (.int .i64 o') := B4.2.cell 6; have y7 : w4.cell? ⟨w.heap.size + 1, 7, none⟩ = some (.int .i64 n') := B4.2.cell 7; have y8 : w4.cell? ⟨w.heap.size + 1, 8, none⟩ = some (.int .i64 t') := B4.2.cell 8; clear q B4))
      go_ret
      exact ⟨rfl, Adds.trans HA2.out (Adds.trans A3.out A4.out)⟩
    · by_cases ha : a = a'
      · have e1 : (a != a') = false := by simpa using ha
        have e2 : (a == a') = true := by simpa using ha
        have e3 : (k == 3 || k' == 3) = r := by rw [← hr]; simp only [ha, decide_true, Bool.true_and]; by_cases h1 : k = 3 <;> by_cases h2 : k' = 3 <;> simp [h1, h2]
        have HE := Lib.hid e3
        clear hr ha e3
        go_enter Tryz.func20, Tryz.ntmps20
        go_wp2_with (first
          | (go_at_call 53; refine (HTx.out w2).mono ?_; rintro e w3 ⟨rfl, q⟩; clear HTx; have A3 := Lib.hid q.adds; have B3 := HF.out w3 q.adds; have c0 : w3.cell? ⟨w.heap.size, 0, none⟩ = some (.int .i64 g) := B3.1.cell 0; have c1 : w3.cell? ⟨w.heap.size, 1, none⟩ = some (.int .i64 k) := B3.1.cell 1; have c2 : w3.cell? ⟨w.heap.size, 2, none⟩ = some (.int .i64 f) := B3.1.cell 2; have c3 : w3.cell? ⟨w.heap.size, 3, none⟩ = some (.int .i64 p) := B3.1.cell 3; have c4 : w3.cell? ⟨w.heap.size, 4, none⟩ = some (.int .u32 a) := B3.1.cell 4; have c5 : w3.cell? ⟨w.heap.size, 5, none⟩ = some (.int .i64 c) := B3.1.cell 5; have c6 : w3.cell? ⟨w.heap.size, 6, none⟩ = some (.int .i64 o) := B3.1.cell 6; have c7 : w3.cell? ⟨w.heap.size, 7, none⟩ = some (.int .i64 n) := B3.1.cell 7; have c8 : w3.cell? ⟨w.heap.size, 8, none⟩ = some (.int .i64 t) := B3.1.cell 8; have d0 : w3.cell? ⟨w.heap.size + 1, 0, none⟩ = some (.int .i64 g') := B3.2.cell 0; have d1 : w3.cell? ⟨w.heap.size + 1, 1, none⟩ = some (.int .i64 k') := B3.2.cell 1; have d2 : w3.cell? ⟨w.heap.size + 1, 2, none⟩ = some (.int .i64 f') := B3.2.cell 2; have d3 : w3.cell? ⟨w.heap.size + 1, 3, none⟩ = some (.int .i64 p') := B3.2.cell 3; have d4 : w3.cell? ⟨w.heap.size + 1, 4, none⟩ = some (.int .u32 a') := B3.2.cell 4; have d5 : w3.cell? ⟨w.heap.size + 1, 5, none⟩ = some (.int .i64 c') := B3.2.cell 5; have d6 : w3.cell? ⟨w.heap.size + 1, 6, none⟩ = some (.int .i64 o') := B3.2.cell 6; have d7 : w3.cell? ⟨w.heap.size + 1, 7, none⟩ = some (.int .i64 n') := B3.2.cell 7; have d8 : w3.cell? ⟨w.heap.size + 1, 8, none⟩ = some (.int .i64 t') := B3.2.cell 8; clear q B3)
          | (go_at_call 53; refine (HTy.out w3).mono ?_; rintro e w4 ⟨rfl, q⟩; clear HTy; have A4 := Lib.hid q.adds; have B4 := HF.out w4 (Adds.trans A3.out q.adds); have x0 : w4.cell? ⟨w.heap.size, 0, none⟩ = some (.int .i64 g) := B4.1.cell 0; have x1 : w4.cell? ⟨w.heap.size, 1, none⟩ = some (.int .i64 k) := B4.1.cell 1; have x2 : w4.cell? ⟨w.heap.size, 2, none⟩ = some (.int .i64 f) := B4.1.cell 2; have x3 : w4.cell? ⟨w.heap.size, 3, none⟩ = some (.int .i64 p) := B4.1.cell 3; have x4 : w4.cell? ⟨w.heap.size, 4, none⟩ = some (.int .u32 a) := B4.1.cell 4; have x5 : w4.cell? ⟨w.heap.size, 5, none⟩ = some (.int .i64 c) := B4.1.cell 5; have x6 : w4.cell? ⟨w.heap.size, 6, none⟩ = some (.int .i64 o) := B4.1.cell 6; have x7 : w4.cell? ⟨w.heap.size, 7, none⟩ = some (.int .i64 n) := B4.1.cell 7; have x8 : w4.cell? ⟨w.heap.size, 8, none⟩ = some (.int .i64 t) := B4.1.cell 8; have y0 : w4.cell? ⟨w.heap.size + 1, 0, none⟩ = some (.int .i64 g') := B4.2.cell 0; have y1 : w4.cell? ⟨w.heap.size + 1, 1, none⟩ = some (.int .i64 k') := B4.2.cell 1; have y2 : w4.cell? ⟨w.heap.size + 1, 2, none⟩ = some (.int .i64 f') := B4.2.cell 2; have y3 : w4.cell? ⟨w.heap.size + 1, 3, none⟩ = some (.int .i64 p') := B4.2.cell 3; have y4 : w4.cell? ⟨w.heap.size + 1, 4, none⟩ = some (.int .u32 a') := B4.2.cell 4; have y5 : w4.cell? ⟨w.heap.size + 1, 5, none⟩ = some (.int .i64 c') := B4.2.cell 5; have y6 : w4.cell? ⟨w.heap.size + 1, 6, none⟩ = some (.int .i64 o') := B4.2.cell 6; have y7 : w4.cell? ⟨w.heap.size + 1, 7, none⟩ = some (.int .i64 n') := B4.2.cell 7; have y8 : w4.cell? ⟨w.heap.size + 1, 8, none⟩ = some (.int .i64 t') := B4.2.cell 8; clear q B4))
        all_goals go_ret
        all_goals exact ⟨by rw [← HE.out]; first | rfl | simp [*], Adds.trans HA2.out (Adds.trans A3.out A4.out)⟩
      · have e1 : (a != a') = true := by simpa using ha
        have e2 : (a == a') = false := by simpa using ha
        obtain rfl : false = r := by rw [← hr]; simp [ha]
        clear hr ha
        go_enter Tryz.func20, Tryz.ntmps20
        go_wp2_with (first
          | (go_at_call 53; refine (HTx.out w2).mono ?_; rintro e w3 ⟨rfl, q⟩; clear HTx; have A3 := Lib.hid q.adds; have B3 := HF.out w3 q.adds; have c0 : w3.cell? ⟨w.heap.size, 0, none⟩ = some (.int .i64 g) := B3.1.cell 0; have c1 : w3.cell? ⟨w.heap.size, 1, none⟩ = some (.int .i64 k) := B3.1.cell 1; have c2 : w3.cell? ⟨w.heap.size, 2, none⟩ = some (.int .i64 f) := B3.1.cell 2; have c3 : w3.cell? ⟨w.heap.size, 3, none⟩ = some (.int .i64 p) := B3.1.cell 3; have c4 : w3.cell? ⟨w.heap.size, 4, none⟩ = some (.int .u32 a) := B3.1.cell 4; have c5 : w3.cell? ⟨w.heap.size, 5, none⟩ = some (.int .i64 c) := B3.1.cell 5; have c6 : w3.cell? ⟨w.heap.size, 6, none⟩ = some (.int .i64 o) := B3.1.cell 6; have c7 : w3.cell? ⟨w.heap.size, 7, none⟩ = some (.int .i64 n) := B3.1.cell 7; have c8 : w3.cell? ⟨w.heap.size, 8, none⟩ = some (.int .i64 t) := B3.1.cell 8; have d0 : w3.cell? ⟨w.heap.size + 1, 0, none⟩ = some (.int .i64 g') := B3.2.cell 0; have d1 : w3.cell? ⟨w.heap.size + 1, 1, none⟩ = some (.int .i64 k') := B3.2.cell 1; have d2 : w3.cell? ⟨w.heap.size + 1, 2, none⟩ = some (.int .i64 f') := B3.2.cell 2; have d3 : w3.cell? ⟨w.heap.size + 1, 3, none⟩ = some (.int .i64 p') := B3.2.cell 3; have d4 : w3.cell? ⟨w.heap.size + 1, 4, none⟩ = some (.int .u32 a') := B3.2.cell 4; have d5 : w3.cell? ⟨w.heap.size + 1, 5, none⟩ = some (.int .i64 c') := B3.2.cell 5; have d6 : w3.cell? ⟨w.heap.size + 1, 6, none⟩ = some (.int .i64 o') := B3.2.cell 6; have d7 : w3.cell? ⟨w.heap.size + 1, 7, none⟩ = some (.int .i64 n') := B3.2.cell 7; have d8 : w3.cell? ⟨w.heap.size + 1, 8, none⟩ = some (.int .i64 t') := B3.2.cell 8; clear q B3)
          | (go_at_call 53; refine (HTy.out w3).mono ?_; rintro e w4 ⟨rfl, q⟩; clear HTy; have A4 := Lib.hid q.adds; have B4 := HF.out w4 (Adds.trans A3.out q.adds); have x0 : w4.cell? ⟨w.heap.size, 0, none⟩ = some (.int .i64 g) := B4.1.cell 0; have x1 : w4.cell? ⟨w.heap.size, 1, none⟩ = some (.int .i64 k) := B4.1.cell 1; have x2 : w4.cell? ⟨w.heap.size, 2, none⟩ = some (.int .i64 f) := B4.1.cell 2; have x3 : w4.cell? ⟨w.heap.size, 3, none⟩ = some (.int .i64 p) := B4.1.cell 3; have x4 : w4.cell? ⟨w.heap.size, 4, none⟩ = some (.int .u32 a) := B4.1.cell 4; have x5 : w4.cell? ⟨w.heap.size, 5, none⟩ = some (.int .i64 c) := B4.1.cell 5; have x6 : w4.cell? ⟨w.heap.size, 6, none⟩ = some (.int .i64 o) := B4.1.cell 6; have x7 : w4.cell? ⟨w.heap.size, 7, none⟩ = some (.int .i64 n) := B4.1.cell 7; have x8 : w4.cell? ⟨w.heap.size, 8, none⟩ = some (.int .i64 t) := B4.1.cell 8; have y0 : w4.cell? ⟨w.heap.size + 1, 0, none⟩ = some (.int .i64 g') := B4.2.cell 0; have y1 : w4.cell? ⟨w.heap.size + 1, 1, none⟩ = some (.int .i64 k') := B4.2.cell 1; have y2 : w4.cell? ⟨w.heap.size + 1, 2, none⟩ = some (.int .i64 f') := B4.2.cell 2; have y3 : w4.cell? ⟨w.heap.size + 1, 3, none⟩ = some (.int .i64 p') := B4.2.cell 3; have y4 : w4.cell? ⟨w.heap.size + 1, 4, none⟩ = some (.int .u32 a') := B4.2.cell 4; have y5 : w4.cell? ⟨w.heap.size + 1, 5, none⟩ = some (.int .i64 c') := B4.2.cell 5; have y6 : w4.cell? ⟨w.heap.size + 1, 6, none⟩ = some (.int .i64 o') := B4.2.cell 6; have y7 : w4.cell? ⟨w.heap.size + 1, 7, none⟩ = some (.int .i64 n') := B4.2.cell 7; have y8 : w4.cell? ⟨w.heap.size + 1, 8, none⟩ = some (.int .i64 t') := B4.2.cell 8; clear q B4))
        go_ret
        exact ⟨rfl, Adds.trans HA2.out (Adds.trans A3.out A4.out)⟩
set_option maxRecDepth 100000 in
set_option maxHeartbeats 4000000 in
theorem refCon_any (x y : Ev) (w : World) : Calls Tryz.prog 21 #[evV x, evV y] w fun e w' => e = .returned (.bool (conE x y)) ∧ Adds w w' := by
  obtain ⟨w2, hw2⟩ : ∃ w2, (w.alloc (.cells (evC x).toArray 28)).alloc (.cells (evC y).toArray 28) = w2 := ⟨_, rfl⟩
  have HA2 := Lib.hid (show Adds w w2 by rw [← hw2]; exact ((Gr.new _ _).alloc _).adds)
  have HX2 := Lib.hid (show BkS 28 w2 w.heap.size (evC x) by rw [← hw2]; exact (BkS.new _ w _).adds (Gr.new _ _).adds)
  have HY2 := Lib.hid (show BkS 28 w2 (w.heap.size + 1) (evC y) by rw [← hw2]; exact heap_new1 _ _ _)
  have HTx := Lib.hid (fun W => refTouch_any x W)
  have HTy := Lib.hid (fun W => refTouch_any y W)
  obtain ⟨r, hr⟩ : ∃ r, conE x y = r := ⟨_, rfl⟩
  rw [hr]
  unfold conE at hr
  generalize touchE x = tx at HTx hr
  generalize touchE y = ty at HTy hr
  obtain ⟨g, k, f, p, a, c, o, n, t⟩ := x
  obtain ⟨g', k', f', p', a', c', o', n', t'⟩ := y
  have i0 : w2.cell? ⟨w.heap.size, 0, none⟩ = some (.int .i64 g) := HX2.out.cell 0
  have i1 : w2.cell? ⟨w.heap.size, 1, none⟩ = some (.int .i64 k) := HX2.out.cell 1
  have i2 : w2.cell? ⟨w.heap.size, 2, none⟩ = some (.int .i64 f) := HX2.out.cell 2
  have i3 : w2.cell? ⟨w.heap.size, 3, none⟩ = some (.int .i64 p) := HX2.out.cell 3
  have i4 : w2.cell? ⟨w.heap.size, 4, none⟩ = some (.int .u32 a) := HX2.out.cell 4
  have i5 : w2.cell? ⟨w.heap.size, 5, none⟩ = some (.int .i64 c) := HX2.out.cell 5
  have i6 : w2.cell? ⟨w.heap.size, 6, none⟩ = some (.int .i64 o) := HX2.out.cell 6
  have i7 : w2.cell? ⟨w.heap.size, 7, none⟩ = some (.int .i64 n) := HX2.out.cell 7
  have i8 : w2.cell? ⟨w.heap.size, 8, none⟩ = some (.int .i64 t) := HX2.out.cell 8
  have j0 : w2.cell? ⟨w.heap.size + 1, 0, none⟩ = some (.int .i64 g') := HY2.out.cell 0
  have j1 : w2.cell? ⟨w.heap.size + 1, 1, none⟩ = some (.int .i64 k') := HY2.out.cell 1
  have j2 : w2.cell? ⟨w.heap.size + 1, 2, none⟩ = some (.int .i64 f') := HY2.out.cell 2
  have j3 : w2.cell? ⟨w.heap.size + 1, 3, none⟩ = some (.int .i64 p') := HY2.out.cell 3
  have j4 : w2.cell? ⟨w.heap.size + 1, 4, none⟩ = some (.int .u32 a') := HY2.out.cell 4
  have j5 : w2.cell? ⟨w.heap.size + 1, 5, none⟩ = some (.int .i64 c') := HY2.out.cell 5
  have j6 : w2.cell? ⟨w.heap.size + 1, 6, none⟩ = some (.int .i64 o') := HY2.out.cell 6
  have j7 : w2.cell? ⟨w.heap.size + 1, 7, none⟩ = some (.int .i64 n') := HY2.out.cell 7
  have j8 : w2.cell? ⟨w.heap.size + 1, 8, none⟩ = some (.int .i64 t') := HY2.out.cell 8
  have HF := Lib.hid (fun (W : World) (h : Adds w2 W) => (⟨HX2.out.adds h, HY2.out.adds h⟩ : BkS 28 W w.heap.size _ ∧ BkS 28 W (w.heap.size + 1) _))
  cases tx
  · obtain rfl : false = r := hr
    go_enter Tryz.func21, Tryz.ntmps21
    go_wp2_with (first
      | (go_at_call 54; refine (HTx.out w2).mono ?_; rintro e w3 ⟨rfl, q⟩; clear HTx; have A3 := Lib.hid q.adds; have B3 := HF.out w3 q.adds; have c0 : w3.cell? ⟨w.heap.size, 0, none⟩ = some (.int .i64 g) := B3.1.cell 0; have c1 : w3.cell? ⟨w.heap.size, 1, none⟩ = some (.int .i64 k) := B3.1.cell 1; have c2 : w3.cell? ⟨w.heap.size, 2, none⟩ = some (.int .i64 f) := B3.1.cell 2; have c3 : w3.cell? ⟨w.heap.size, 3, none⟩ = some (.int .i64 p) := B3.1.cell 3; have c4 : w3.cell? ⟨w.heap.size, 4, none⟩ = some (.int .u32 a) := B3.1.cell 4; have c5 : w3.cell? ⟨w.heap.size, 5, none⟩ = some (.int .i64 c) := B3.1.cell 5; have c6 : w3.cell? ⟨w.heap.size, 6, none⟩ = some (.int .i64 o) := B3.1.cell 6; have c7 : w3.cell? ⟨w.heap.size, 7, none⟩ = some (.int .i64 n) := B3.1.cell 7; have c8 : w3.cell? ⟨w.heap.size, 8, none⟩ = some (.int .i64 t) := B3.1.cell 8; have d0 : w3.cell? ⟨w.heap.size + 1, 0, none⟩ = some (.int .i64 g') := B3.2.cell 0; have d1 : w3.cell? ⟨w.heap.size + 1, 1, none⟩ = some (.int .i64 k') := B3.2.cell 1; have d2 : w3.cell? ⟨w.heap.size + 1, 2, none⟩ = some (.int .i64 f') := B3.2.cell 2; have d3 : w3.cell? ⟨w.heap.size + 1, 3, none⟩ = some (.int .i64 p') := B3.2.cell 3; have d4 : w3.cell? ⟨w.heap.size + 1, 4, none⟩ = some (.int .u32 a') := B3.2.cell 4; have d5 : w3.cell? ⟨w.heap.size + 1, 5, none⟩ = some (.int .i64 c') := B3.2.cell 5; have d6 : w3.cell? ⟨w.heap.size + 1, 6, none⟩ = some (.int .i64 o') := B3.2.cell 6; have d7 : w3.cell? ⟨w.heap.size + 1, 7, none⟩ = some (.int .i64 n') := B3.2.cell 7; have d8 : w3.cell? ⟨w.heap.size + 1, 8, none⟩ = some (.int .i64 t') := B3.2.cell 8; clear q B3)
      | (go_at_call 54; refine (HTy.out w3).mono ?_; rintro e w4 ⟨rfl, q⟩; clear HTy; have A4 := Lib.hid q.adds; have B4 := HF.out w4 (Adds.trans A3.out q.adds); have x0 : w4.cell? ⟨w.heap.size, 0, none⟩ = some (.int .i64 g) := B4.1.cell 0; have x1 : w4.cell? ⟨w.heap.size, 1, none⟩ = some (.int .i64 k) := B4.1.cell 1; have x2 : w4.cell? ⟨w.heap.size, 2, none⟩ = some (.int .i64 f) := B4.1.cell 2; have x3 : w4.cell? ⟨w.heap.size, 3, none⟩ = some (.int .i64 p) := B4.1.cell 3; have x4 : w4.cell? ⟨w.heap.size, 4, none⟩ = some (.int .u32 a) := B4.1.cell 4; have x5 : w4.cell? ⟨w.heap.size, 5, none⟩ = some (.int .i64 c) := B4.1.cell 5; have x6 : w4.cell? ⟨w.heap.size, 6, none⟩ = some (.int .i64 o) := B4.1.cell 6; have x7 : w4.cell? ⟨w.heap.size, 7, none⟩ = some (.int .i64 n) := B4.1.cell 7; have x8 : w4.cell? ⟨w.heap.size, 8, none⟩ = some (.int .i64 t) := B4.1.cell 8; have y0 : w4.cell? ⟨w.heap.size + 1, 0, none⟩ = some (.int .i64 g') := B4.2.cell 0; have y1 : w4.cell? ⟨w.heap.size + 1, 1, none⟩ = some (.int .i64 k') := B4.2.cell 1; have y2 : w4.cell? ⟨w.heap.size + 1, 2, none⟩ = some (.int .i64 f') := B4.2.cell 2; have y3 : w4.cell? ⟨w.heap.size + 1, 3, none⟩ = some (.int .i64 p') := B4.2.cell 3; have y4 : w4.cell? ⟨w.heap.size + 1, 4, none⟩ = some (.int .u32 a') := B4.2.cell 4; have y5 : w4.cell? ⟨w.heap.size + 1, 5, none⟩ = some (.int .i64 c') := B4.2.cell 5; have y6 : w4.cell? ⟨w.heap.size + 1, 6, none⟩ = some (.int .i64 o') := B4.2.cell 6; have y7 : w4.cell? ⟨w.heap.size + 1, 7, none⟩ = some (.int .i64 n') := B4.2.cell 7; have y8 : w4.cell? ⟨w.heap.size + 1, 8, none⟩ = some (.int .i64 t') := B4.2.cell 8; clear q B4))
    go_ret
    exact ⟨rfl, Adds.trans HA2.out A3.out⟩
  · cases ty
    · obtain rfl : false = r := hr
      go_enter Tryz.func21, Tryz.ntmps21
      go_wp2_with (first
        | (go_at_call 54; refine (HTx.out w2).mono ?_; rintro e w3 ⟨rfl, q⟩; clear HTx; have A3 := Lib.hid q.adds; have B3 := HF.out w3 q.adds; have c0 : w3.cell? ⟨w.heap.size, 0, none⟩ = some (.int .i64 g) := B3.1.cell 0; have c1 : w3.cell? ⟨w.heap.size, 1, none⟩ = some (.int .i64 k) := B3.1.cell 1; have c2 : w3.cell? ⟨w.heap.size, 2, none⟩ = some (.int .i64 f) := B3.1.cell 2; have c3 : w3.cell? ⟨w.heap.size, 3, none⟩ = some (.int .i64 p) := B3.1.cell 3; have c4 : w3.cell? ⟨w.heap.size, 4, none⟩ = some (.int .u32 a) := B3.1.cell 4; have c5 : w3.cell? ⟨w.heap.size, 5, none⟩ = some (.int .i64 c) := B3.1.cell 5; have c6 : w3.cell? ⟨w.heap.size, 6, none⟩ = some (.int .i64 o) := B3.1.cell 6; have c7 : w3.cell? ⟨w.heap.size, 7, none⟩ = some (.int .i64 n) := B3.1.cell 7; have c8 : w3.cell? ⟨w.heap.size, 8, none⟩ = some (.int .i64 t) := B3.1.cell 8; have d0 : w3.cell? ⟨w.heap.size + 1, 0, none⟩ = some (.int .i64 g') := B3.2.cell 0; have d1 : w3.cell? ⟨w.heap.size + 1, 1, none⟩ = some (.int .i64 k') := B3.2.cell 1; have d2 : w3.cell? ⟨w.heap.size + 1, 2, none⟩ = some (.int .i64 f') := B3.2.cell 2; have d3 : w3.cell? ⟨w.heap.size + 1, 3, none⟩ = some (.int .i64 p') := B3.2.cell 3; have d4 : w3.cell? ⟨w.heap.size + 1, 4, none⟩ = some (.int .u32 a') := B3.2.cell 4; have d5 : w3.cell? ⟨w.heap.size + 1, 5, none⟩ = some (.int .i64 c') := B3.2.cell 5; have d6 : w3.cell? ⟨w.heap.size + 1, 6, none⟩ = some (.int .i64 o') := B3.2.cell 6; have d7 : w3.cell? ⟨w.heap.size + 1, 7, none⟩ = some (.int .i64 n') := B3.2.cell 7; have d8 : w3.cell? ⟨w.heap.size + 1, 8, none⟩ = some (.int .i64 t') := B3.2.cell 8; clear q B3)
        | (go_at_call 54; refine (HTy.out w3).mono ?_; rintro e w4 ⟨rfl, q⟩; clear HTy; have A4 := Lib.hid q.adds; have B4 := HF.out w4 (Adds.trans A3.out q.adds); have x0 : w4.cell? ⟨w.heap.size, 0, none⟩ = some (.int .i64 g) := B4.1.cell 0; have x1 : w4.cell? ⟨w.heap.size, 1, none⟩ = some (.int .i64 k) := B4.1.cell 1; have x2 : w4.cell? ⟨w.heap.size, 2, none⟩ = some (.int .i64 f) := B4.1.cell 2; have x3 : w4.cell? ⟨w.heap.size, 3, none⟩ = some (.int .i64 p) := B4.1.cell 3; have x4 : w4.cell? ⟨w.heap.size, 4, none⟩ = some (.int .u32 a) := B4.1.cell 4; have x5 : w4.cell? ⟨w.heap.size, 5, none⟩ = some (.int .i64 c) := B4.1.cell 5; have x6 : w4.cell? ⟨w.heap.size, 6, none⟩ = some (.int .i64 o) := B4.1.cell 6; have x7 : w4.cell? ⟨w.heap.size, 7, none⟩ = some (.int .i64 n) := B4.1.cell 7; have x8 : w4.cell? ⟨w.heap.size, 8, none⟩ = some (.int .i64 t) := B4.1.cell 8; have y0 : w4.cell? ⟨w.heap.size + 1, 0, none⟩ = some (.int .i64 g') := B4.2.cell 0; have y1 : w4.cell? ⟨w.heap.size + 1, 1, none⟩ = some (.int .i64 k') := B4.2.cell 1; have y2 : w4.cell? ⟨w.heap.size + 1, 2, none⟩ = some (.int .i64 f') := B4.2.cell 2; have y3 : w4.cell? ⟨w.heap.size + 1, 3, none⟩ = some (.int .i64 p') := B4.2.cell 3; have y4 : w4.cell? ⟨w.heap.size + 1, 4, none⟩ = some (.int .u32 a') := B4.2.cell 4; have y5 : w4.cell? ⟨w.heap.size + 1, 5, none⟩ = some (.int .i64 c') := B4.2.cell 5; have y6 : w4.cell? ⟨w.heap.size + 1, 6, none⟩ = some (.int .i64 o') := B4.2.cell 6; have y7 : w4.cell? ⟨w.heap.size + 1, 7, none⟩ = some (.int .i64 n') := B4.2.cell 7; have y8 : w4.cell? ⟨w.heap.size + 1, 8, none⟩ = some (.int .i64 t') := B4.2.cell 8; clear q B4))
      go_ret
      exact ⟨rfl, Adds.trans HA2.out (Adds.trans A3.out A4.out)⟩
    · by_cases ha : a = a'
      · have e1 : (a != a') = false := by simpa using ha
        have e2 : (a == a') = true := by simpa using ha
        have e3 : (k == 3 || k' == 3) = r := by rw [← hr]; simp only [ha, decide_true, Bool.true_and]; by_cases h1 : k = 3 <;> by_cases h2 : k' = 3 <;> simp [h1, h2]
        have HE := Lib.hid e3
        clear hr ha e3
        go_enter Tryz.func21, Tryz.ntmps21
        go_wp2_with (first
          | (go_at_call 54; refine (HTx.out w2).mono ?_; rintro e w3 ⟨rfl, q⟩; clear HTx; have A3 := Lib.hid q.adds; have B3 := HF.out w3 q.adds; have c0 : w3.cell? ⟨w.heap.size, 0, none⟩ = some (.int .i64 g) := B3.1.cell 0; have c1 : w3.cell? ⟨w.heap.size, 1, none⟩ = some (.int .i64 k) := B3.1.cell 1; have c2 : w3.cell? ⟨w.heap.size, 2, none⟩ = some (.int .i64 f) := B3.1.cell 2; have c3 : w3.cell? ⟨w.heap.size, 3, none⟩ = some (.int .i64 p) := B3.1.cell 3; have c4 : w3.cell? ⟨w.heap.size, 4, none⟩ = some (.int .u32 a) := B3.1.cell 4; have c5 : w3.cell? ⟨w.heap.size, 5, none⟩ = some (.int .i64 c) := B3.1.cell 5; have c6 : w3.cell? ⟨w.heap.size, 6, none⟩ = some (.int .i64 o) := B3.1.cell 6; have c7 : w3.cell? ⟨w.heap.size, 7, none⟩ = some (.int .i64 n) := B3.1.cell 7; have c8 : w3.cell? ⟨w.heap.size, 8, none⟩ = some (.int .i64 t) := B3.1.cell 8; have d0 : w3.cell? ⟨w.heap.size + 1, 0, none⟩ = some (.int .i64 g') := B3.2.cell 0; have d1 : w3.cell? ⟨w.heap.size + 1, 1, none⟩ = some (.int .i64 k') := B3.2.cell 1; have d2 : w3.cell? ⟨w.heap.size + 1, 2, none⟩ = some (.int .i64 f') := B3.2.cell 2; have d3 : w3.cell? ⟨w.heap.size + 1, 3, none⟩ = some (.int .i64 p') := B3.2.cell 3; have d4 : w3.cell? ⟨w.heap.size + 1, 4, none⟩ = some (.int .u32 a') := B3.2.cell 4; have d5 : w3.cell? ⟨w.heap.size + 1, 5, none⟩ = some (.int .i64 c') := B3.2.cell 5; have d6 : w3.cell? ⟨w.heap.size + 1, 6, none⟩ = some (.int .i64 o') := B3.2.cell 6; have d7 : w3.cell? ⟨w.heap.size + 1, 7, none⟩ = some (.int .i64 n') := B3.2.cell 7; have d8 : w3.cell? ⟨w.heap.size + 1, 8, none⟩ = some (.int .i64 t') := B3.2.cell 8; clear q B3)
          | (go_at_call 54; refine (HTy.out w3).mono ?_; rintro e w4 ⟨rfl, q⟩; clear HTy; have A4 := Lib.hid q.adds; have B4 := HF.out w4 (Adds.trans A3.out q.adds); have x0 : w4.cell? ⟨w.heap.size, 0, none⟩ = some (.int .i64 g) := B4.1.cell 0; have x1 : w4.cell? ⟨w.heap.size, 1, none⟩ = some (.int .i64 k) := B4.1.cell 1; have x2 : w4.cell? ⟨w.heap.size, 2, none⟩ = some (.int .i64 f) := B4.1.cell 2; have x3 : w4.cell? ⟨w.heap.size, 3, none⟩ = some (.int .i64 p) := B4.1.cell 3; have x4 : w4.cell? ⟨w.heap.size, 4, none⟩ = some (.int .u32 a) := B4.1.cell 4; have x5 : w4.cell? ⟨w.heap.size, 5, none⟩ = some (.int .i64 c) := B4.1.cell 5; have x6 : w4.cell? ⟨w.heap.size, 6, none⟩ = some (.int .i64 o) := B4.1.cell 6; have x7 : w4.cell? ⟨w.heap.size, 7, none⟩ = some (.int .i64 n) := B4.1.cell 7; have x8 : w4.cell? ⟨w.heap.size, 8, none⟩ = some (.int .i64 t) := B4.1.cell 8; have y0 : w4.cell? ⟨w.heap.size + 1, 0, none⟩ = some (.int .i64 g') := B4.2.cell 0; have y1 : w4.cell? ⟨w.heap.size + 1, 1, none⟩ = some (.int .i64 k') := B4.2.cell 1; have y2 : w4.cell? ⟨w.heap.size + 1, 2, none⟩ = some (.int .i64 f') := B4.2.cell 2; have y3 : w4.cell? ⟨w.heap.size + 1, 3, none⟩ = some (.int .i64 p') := B4.2.cell 3; have y4 : w4.cell? ⟨w.heap.size + 1, 4, none⟩ = some (.int .u32 a') := B4.2.cell 4; have y5 : w4.cell? ⟨w.heap.size + 1, 5, none⟩ = some (.int .i64 c') := B4.2.cell 5; have y6 : w4.cell? ⟨w.heap.size + 1, 6, none⟩ = some (.int .i64 o') := B4.2.cell 6; have y7 : w4.cell? ⟨w.heap.size + 1, 7, none⟩ = some (.int .i64 n') := B4.2.cell 7; have y8 : w4.cell? ⟨w.heap.size + 1, 8, none⟩ = some (.int .i64 t') := B4.2.cell 8; clear q B4))
        all_goals go_ret
        all_goals exact ⟨by rw [← HE.out]; first | rfl | simp [*], Adds.trans HA2.out (Adds.trans A3.out A4.out)⟩
      · have e1 : (a != a') = true := by simpa using ha
        have e2 : (a == a') = false := by simpa using ha
        obtain rfl : false = r := by rw [← hr]; simp [ha]
        clear hr ha
        go_enter Tryz.func21, Tryz.ntmps21
        go_wp2_with (first
          | (go_at_call 54; refine (HTx.out w2).mono ?_; rintro e w3 ⟨rfl, q⟩; clear HTx; have A3 := Lib.hid q.adds; have B3 := HF.out w3 q.adds; have c0 : w3.cell? ⟨w.heap.size, 0, none⟩ = some (.int .i64 g) := B3.1.cell 0; have c1 : w3.cell? ⟨w.heap.size, 1, none⟩ = some (.int .i64 k) := B3.1.cell 1; have c2 : w3.cell? ⟨w.heap.size, 2, none⟩ = some (.int .i64 f) := B3.1.cell 2; have c3 : w3.cell? ⟨w.heap.size, 3, none⟩ = some (.int .i64 p) := B3.1.cell 3; have c4 : w3.cell? ⟨w.heap.size, 4, none⟩ = some (.int .u32 a) := B3.1.cell 4; have c5 : w3.cell? ⟨w.heap.size, 5, none⟩ = some (.int .i64 c) := B3.1.cell 5; have c6 : w3.cell? ⟨w.heap.size, 6, none⟩ = some (.int .i64 o) := B3.1.cell 6; have c7 : w3.cell? ⟨w.heap.size, 7, none⟩ = some (.int .i64 n) := B3.1.cell 7; have c8 : w3.cell? ⟨w.heap.size, 8, none⟩ = some (.int .i64 t) := B3.1.cell 8; have d0 : w3.cell? ⟨w.heap.size + 1, 0, none⟩ = some (.int .i64 g') := B3.2.cell 0; have d1 : w3.cell? ⟨w.heap.size + 1, 1, none⟩ = some (.int .i64 k') := B3.2.cell 1; have d2 : w3.cell? ⟨w.heap.size + 1, 2, none⟩ = some (.int .i64 f') := B3.2.cell 2; have d3 : w3.cell? ⟨w.heap.size + 1, 3, none⟩ = some (.int .i64 p') := B3.2.cell 3; have d4 : w3.cell? ⟨w.heap.size + 1, 4, none⟩ = some (.int .u32 a') := B3.2.cell 4; have d5 : w3.cell? ⟨w.heap.size + 1, 5, none⟩ = some (.int .i64 c') := B3.2.cell 5; have d6 : w3.cell? ⟨w.heap.size + 1, 6, none⟩ = some (.int .i64 o') := B3.2.cell 6; have d7 : w3.cell? ⟨w.heap.size + 1, 7, none⟩ = some (.int .i64 n') := B3.2.cell 7; have d8 : w3.cell? ⟨w.heap.size + 1, 8, none⟩ = some (.int .i64 t') := B3.2.cell 8; clear q B3)
          | (go_at_call 54; refine (HTy.out w3).mono ?_; rintro e w4 ⟨rfl, q⟩; clear HTy; have A4 := Lib.hid q.adds; have B4 := HF.out w4 (Adds.trans A3.out q.adds); have x0 : w4.cell? ⟨w.heap.size, 0, none⟩ = some (.int .i64 g) := B4.1.cell 0; have x1 : w4.cell? ⟨w.heap.size, 1, none⟩ = some (.int .i64 k) := B4.1.cell 1; have x2 : w4.cell? ⟨w.heap.size, 2, none⟩ = some (.int .i64 f) := B4.1.cell 2; have x3 : w4.cell? ⟨w.heap.size, 3, none⟩ = some (.int .i64 p) := B4.1.cell 3; have x4 : w4.cell? ⟨w.heap.size, 4, none⟩ = some (.int .u32 a) := B4.1.cell 4; have x5 : w4.cell? ⟨w.heap.size, 5, none⟩ = some (.int .i64 c) := B4.1.cell 5; have x6 : w4.cell? ⟨w.heap.size, 6, none⟩ = some (.int .i64 o) := B4.1.cell 6; have x7 : w4.cell? ⟨w.heap.size, 7, none⟩ = some (.int .i64 n) := B4.1.cell 7; have x8 : w4.cell? ⟨w.heap.size, 8, none⟩ = some (.int .i64 t) := B4.1.cell 8; have y0 : w4.cell? ⟨w.heap.size + 1, 0, none⟩ = some (.int .i64 g') := B4.2.cell 0; have y1 : w4.cell? ⟨w.heap.size + 1, 1, none⟩ = some (.int .i64 k') := B4.2.cell 1; have y2 : w4.cell? ⟨w.heap.size + 1, 2, none⟩ = some (.int .i64 f') := B4.2.cell 2; have y3 : w4.cell? ⟨w.heap.size + 1, 3, none⟩ = some (.int .i64 p') := B4.2.cell 3; have y4 : w4.cell? ⟨w.heap.size + 1, 4, none⟩ = some (.int .u32 a') := B4.2.cell 4; have y5 : w4.cell? ⟨w.heap.size + 1, 5, none⟩ = some (.int .i64 c') := B4.2.cell 5; have y6 : w4.cell? ⟨w.heap.size + 1, 6, none⟩ = some (.int .i64 o') := B4.2.cell 6; have y7 : w4.cell? ⟨w.heap.size + 1, 7, none⟩ = some (.int .i64 n') := B4.2.cell 7; have y8 : w4.cell? ⟨w.heap.size + 1, 8, none⟩ = some (.int .i64 t') := B4.2.cell 8; clear q B4))
        go_ret
        exact ⟨rfl, Adds.trans HA2.out (Adds.trans A3.out A4.out)⟩
end Go.Proofs.YtbinmgpfkjmijaaGreatDoor
