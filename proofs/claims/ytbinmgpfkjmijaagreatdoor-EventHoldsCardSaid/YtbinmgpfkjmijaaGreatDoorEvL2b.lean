/- The law EventHolds: one way of its first region. (genL2.py wrote this.) -/
import Derived.BigCall
import Derived.BigGuard
import Derived.Deep.RegionLaw
import Derived.Shelf.AbstractIn
import Derived.Test.YtbinmgpfkjmijaaGreatDoorEvL2p
namespace Go.Proofs.YtbinmgpfkjmijaaGreatDoor
open Go Go.RowKit Go.Shelf

set_option maxRecDepth 100000 in
set_option maxHeartbeats 8000000 in
theorem holds16_no_b (x y : Ev) (hx : OkE x) (hy : OkE y) (hc2 : leadE x y = true) (hg : (x.g != y.g) = false) (hn : ¬ (mayE x = true ∧ mayE y = true)) (w : World) (hv : EVars w) : Calls Tryz.prog 7 #[evV x, evV y] w (TrueAdds w) := by
  have hmx : Tryz.prog.follows .mixedOrders = true := by kernel_rfl
  have hnum := num16
  obtain ⟨w2, hw2⟩ : ∃ w2, (w.alloc (.cells (evC x).toArray 28)).alloc (.cells (evC y).toArray 28) = w2 := ⟨_, rfl⟩
  have HA2 := Lib.hid (show Adds w w2 by rw [← hw2]; exact ((Gr.new _ _).alloc _).adds)
  have HX2 := Lib.hid (show BkS 28 w2 w.heap.size (evC x) by rw [← hw2]; exact (BkS.new _ w _).adds (Gr.new _ _).adds)
  have HY2 := Lib.hid (show BkS 28 w2 (w.heap.size + 1) (evC y) by rw [← hw2]; exact heap_new1 _ _ _)
  have HV2 := Lib.hid (fun W (h : Adds w2 W) => hv.adds (Adds.trans HA2.out h))
  have HC1 := Lib.hid (fun W => con_any x y W)
  have HC2 := Lib.hid (fun W => con_any y x W)
  rw [con_sym y x] at HC2
  have HC3 := Lib.hid (fun W => lead_any x x hx hx W)
  rw [lead_self x] at HC3
  have HC4 := Lib.hid (fun W => lead_any x y hx hy W)
  have HC5 := Lib.hid (fun W => (rel_any x W).mono fun _ _ h => (⟨h.1, h.2.adds⟩ : _ ∧ Adds W _))
  generalize conE x y = c1 at HC1 HC2
  rw [hc2] at HC4
  have HGe := Lib.hid hg
  clear HC5
  have HC5 := Lib.hid True.intro
  have HBx := Lib.hid (fun W (h : Adds w2 W) => bytes16_any x hx W (HV2.out W h))
  have HBy := Lib.hid (fun W (h : Adds w2 W) => bytes16_any y hy W (HV2.out W h))
  have HTx := Lib.hid (fun W (h : Adds w2 W) => text16_any x hx W (HV2.out W h))
  have HTy := Lib.hid (fun W (h : Adds w2 W) => text16_any y hy W (HV2.out W h))
  have he := errE_two hn
  generalize errE x = e1 at HBx HTx he
  generalize errE y = e2 at HBy HTy he
  generalize str (txtE x) = tx at HTx
  generalize str (txtE y) = ty at HTy
  clear hx hy hv hc2 hn hg
  obtain ⟨g, k, f, p, a, c, o, n, t⟩ := x
  obtain ⟨g', k', f', p', a', c', o', n', t'⟩ := y
  have HF := Lib.hid (fun (W : World) (h : Adds w2.drew W) => (⟨HX2.out.adds (Adds.trans (Adds.drew _) h), HY2.out.adds (Adds.trans (Adds.drew _) h)⟩ : BkS 28 W w.heap.size _ ∧ BkS 28 W (w.heap.size + 1) _))
  go_enter Tryz.func7, Tryz.ntmps7
  go_wp2
  obtain ⟨n2, hn2⟩ : ∃ n2, w.heap.size = n2 := ⟨_, rfl⟩
  obtain ⟨n3, hn3⟩ : ∃ n3, n2 + 1 = n3 := ⟨_, rfl⟩
  have HXn := HX2
  have HYn := HY2
  rw [hn2] at HF HXn HYn ⊢
  rw [hn3] at HF HYn ⊢
  clear hn2 hn3 hw2
  refine wp_region_loose [] (fun _ _ _ => True) Adds (by kernel_rfl) (by kernel_rfl) (by simp []) Adds.refl (fun _ _ _ h k => Adds.trans h k) (fun _ _ _ _ _ _ => trivial) ?_
  (repeat (refine wpL_step (fun K hK => ?_); first
    | (refine stepL_skip rfl rfl rfl ?_; go_simp; refine hK _ ?_; clear hK K)
    | (refine stepL_call (v := .bool c1) (f := 20) (args := #[evV ⟨g, k, f, p, a, c, o, n, t⟩, evV ⟨g', k', f', p', a', c', o', n', t'⟩]) rfl rfl rfl ?_ (fun w' hw' => HC1.out w') ?_; (· (intro w'; clear hK; go_simp)); go_simp; refine hK _ ?_; clear hK K)
    | (refine stepL_call (v := .bool c1) (f := 20) (args := #[evV ⟨g', k', f', p', a', c', o', n', t'⟩, evV ⟨g, k, f, p, a, c, o, n, t⟩]) rfl rfl rfl ?_ (fun w' hw' => HC2.out w') ?_; (· (intro w'; clear hK; go_simp)); go_simp; refine hK _ ?_; clear hK K)
    | (refine stepL_call (v := .bool true) (f := 22) (args := #[evV ⟨g, k, f, p, a, c, o, n, t⟩, evV ⟨g, k, f, p, a, c, o, n, t⟩]) rfl rfl rfl ?_ (fun w' hw' => HC3.out w') ?_; (· (intro w'; clear hK; go_simp)); go_simp; refine hK _ ?_; clear hK K)
    | (refine stepL_call (v := .bool true) (f := 22) (args := #[evV ⟨g, k, f, p, a, c, o, n, t⟩, evV ⟨g', k', f', p', a', c', o', n', t'⟩]) rfl rfl rfl ?_ (fun w' hw' => HC4.out w') ?_; (· (intro w'; clear hK; go_simp)); go_simp; refine hK _ ?_; clear hK K)
    | (refine stepL_call (v := .bool true) (f := 13) (args := #[evV ⟨g, k, f, p, a, c, o, n, t⟩]) rfl rfl rfl ?_ (fun w' hw' => HC5.out w') ?_; (· (intro w'; clear hK; go_simp)); go_simp; refine hK _ ?_; clear hK K)
    | (refine stepL_ex (v := .bool true) rfl rfl rfl Adds.refl ?_ ?_; (· (intro w' hw'; clear hK; have hge := HGe.out; go_simp)); go_simp; refine hK _ ?_; clear hK K)
    | (refine stepL_ex (v := .bool false) rfl rfl rfl Adds.refl ?_ ?_; (· (intro w' hw'; clear hK; have hge := HGe.out; go_simp)); go_simp; refine hK _ ?_; clear hK K)
    | (refine stepL_ex (v := .agg #[.int .i64 g, .int .i64 k, .int .i64 f, .int .i64 p, .int .u32 a, .int .i64 c, .int .i64 o, .int .i64 n, .int .i64 t]) rfl rfl rfl Adds.refl ?_ ?_; (· (intro w' hw'; clear hK; have h9 := (HF.out w' hw').1; have c0 : w'.cell? ⟨n2, 0, none⟩ = some (.int .i64 g) := h9.cell 0; have c1 : w'.cell? ⟨n2, 1, none⟩ = some (.int .i64 k) := h9.cell 1; have c2 : w'.cell? ⟨n2, 2, none⟩ = some (.int .i64 f) := h9.cell 2; have c3 : w'.cell? ⟨n2, 3, none⟩ = some (.int .i64 p) := h9.cell 3; have c4 : w'.cell? ⟨n2, 4, none⟩ = some (.int .u32 a) := h9.cell 4; have c5 : w'.cell? ⟨n2, 5, none⟩ = some (.int .i64 c) := h9.cell 5; have c6 : w'.cell? ⟨n2, 6, none⟩ = some (.int .i64 o) := h9.cell 6; have c7 : w'.cell? ⟨n2, 7, none⟩ = some (.int .i64 n) := h9.cell 7; have c8 : w'.cell? ⟨n2, 8, none⟩ = some (.int .i64 t) := h9.cell 8; go_simp)); go_simp; refine hK _ ?_; clear hK K)
    | (refine stepL_ex (v := .agg #[.int .i64 g', .int .i64 k', .int .i64 f', .int .i64 p', .int .u32 a', .int .i64 c', .int .i64 o', .int .i64 n', .int .i64 t']) rfl rfl rfl Adds.refl ?_ ?_; (· (intro w' hw'; clear hK; have h9 := (HF.out w' hw').2; have c0 : w'.cell? ⟨n3, 0, none⟩ = some (.int .i64 g') := h9.cell 0; have c1 : w'.cell? ⟨n3, 1, none⟩ = some (.int .i64 k') := h9.cell 1; have c2 : w'.cell? ⟨n3, 2, none⟩ = some (.int .i64 f') := h9.cell 2; have c3 : w'.cell? ⟨n3, 3, none⟩ = some (.int .i64 p') := h9.cell 3; have c4 : w'.cell? ⟨n3, 4, none⟩ = some (.int .u32 a') := h9.cell 4; have c5 : w'.cell? ⟨n3, 5, none⟩ = some (.int .i64 c') := h9.cell 5; have c6 : w'.cell? ⟨n3, 6, none⟩ = some (.int .i64 o') := h9.cell 6; have c7 : w'.cell? ⟨n3, 7, none⟩ = some (.int .i64 n') := h9.cell 7; have c8 : w'.cell? ⟨n3, 8, none⟩ = some (.int .i64 t') := h9.cell 8; go_simp)); go_simp; refine hK _ ?_; clear hK K)
    | (refine stepL_ex (v := .pointer (some ⟨n2, 0, none⟩)) rfl rfl rfl Adds.refl ?_ ?_; (· (intro w' hw'; clear hK; have hl := (HF.out w' hw').1.lt; go_simp)); go_simp; refine hK _ ?_; clear hK K)
    | (refine stepL_ex (v := .pointer (some ⟨n3, 0, none⟩)) rfl rfl rfl Adds.refl ?_ ?_; (· (intro w' hw'; clear hK; have hl := (HF.out w' hw').2.lt; go_simp)); go_simp; refine hK _ ?_; clear hK K)
    | (refine stepL_ex (v := .int .i64 g) rfl rfl rfl Adds.refl ?_ ?_; (· (intro w' hw'; clear hK; have h9 := (HF.out w' hw').1; have c0 : w'.cell? ⟨n2, 0, none⟩ = some (.int .i64 g) := h9.cell 0; go_simp)); go_simp; refine hK _ ?_; clear hK K)
    | (refine stepL_ex (v := .int .i64 g') rfl rfl rfl Adds.refl ?_ ?_; (· (intro w' hw'; clear hK; have h9 := (HF.out w' hw').2; have c0 : w'.cell? ⟨n3, 0, none⟩ = some (.int .i64 g') := h9.cell 0; go_simp)); go_simp; refine hK _ ?_; clear hK K)
    | (refine stepL_ex rfl rfl rfl Adds.refl (fun w' hw' => rfl) ?_; go_simp; refine hK _ ?_; clear hK K)))
  refine wpL_nil ?_
  intro w7 a7
  simp only [forL]
  have A7 := Lib.hid (Adds.trans (Adds.drew w2) a7)
  obtain ⟨h8, h9⟩ := HF.out w7 a7
  have c0 : w7.cell? ⟨n2, 0, none⟩ = some (.int .i64 g) := h8.cell 0
  have c1 : w7.cell? ⟨n2, 1, none⟩ = some (.int .i64 k) := h8.cell 1
  have c2 : w7.cell? ⟨n2, 2, none⟩ = some (.int .i64 f) := h8.cell 2
  have c3 : w7.cell? ⟨n2, 3, none⟩ = some (.int .i64 p) := h8.cell 3
  have c4 : w7.cell? ⟨n2, 4, none⟩ = some (.int .u32 a) := h8.cell 4
  have c5 : w7.cell? ⟨n2, 5, none⟩ = some (.int .i64 c) := h8.cell 5
  have c6 : w7.cell? ⟨n2, 6, none⟩ = some (.int .i64 o) := h8.cell 6
  have c7 : w7.cell? ⟨n2, 7, none⟩ = some (.int .i64 n) := h8.cell 7
  have c8 : w7.cell? ⟨n2, 8, none⟩ = some (.int .i64 t) := h8.cell 8
  have d0 : w7.cell? ⟨n3, 0, none⟩ = some (.int .i64 g') := h9.cell 0
  have d1 : w7.cell? ⟨n3, 1, none⟩ = some (.int .i64 k') := h9.cell 1
  have d2 : w7.cell? ⟨n3, 2, none⟩ = some (.int .i64 f') := h9.cell 2
  have d3 : w7.cell? ⟨n3, 3, none⟩ = some (.int .i64 p') := h9.cell 3
  have d4 : w7.cell? ⟨n3, 4, none⟩ = some (.int .u32 a') := h9.cell 4
  have d5 : w7.cell? ⟨n3, 5, none⟩ = some (.int .i64 c') := h9.cell 5
  have d6 : w7.cell? ⟨n3, 6, none⟩ = some (.int .i64 o') := h9.cell 6
  have d7 : w7.cell? ⟨n3, 7, none⟩ = some (.int .i64 n') := h9.cell 7
  have d8 : w7.cell? ⟨n3, 8, none⟩ = some (.int .i64 t') := h9.cell 8
  clear a7 h8 h9 HC1 HC2 HC3 HC4 HC5
  have HG := Lib.hid (fun (W : World) (h : Adds w7 W) => (⟨HXn.out.adds (Adds.trans A7.out h), HYn.out.adds (Adds.trans A7.out h)⟩ : BkS 28 W n2 _ ∧ BkS 28 W (n3) _))
  rcases he with ⟨rfl, rfl⟩ | ⟨rfl, rfl⟩ | ⟨rfl, rfl⟩
  all_goals
    go_wp2_with (first
      | (go_at_call 16; refine (HBx.out w7 A7.out).mono ?_; rintro e w8 ⟨v3, rfl, a3⟩; clear HBx c0 c1 c2 c3 c4 c5 c6 c7 c8 d0 d1 d2 d3 d4 d5 d6 d7 d8; have A8 := Lib.hid a3; clear a3; obtain ⟨h8, h9⟩ := HG.out w8 (A8.out); have c0 : w8.cell? ⟨n2, 0, none⟩ = some (.int .i64 g) := h8.cell 0; have c1 : w8.cell? ⟨n2, 1, none⟩ = some (.int .i64 k) := h8.cell 1; have c2 : w8.cell? ⟨n2, 2, none⟩ = some (.int .i64 f) := h8.cell 2; have c3 : w8.cell? ⟨n2, 3, none⟩ = some (.int .i64 p) := h8.cell 3; have c4 : w8.cell? ⟨n2, 4, none⟩ = some (.int .u32 a) := h8.cell 4; have c5 : w8.cell? ⟨n2, 5, none⟩ = some (.int .i64 c) := h8.cell 5; have c6 : w8.cell? ⟨n2, 6, none⟩ = some (.int .i64 o) := h8.cell 6; have c7 : w8.cell? ⟨n2, 7, none⟩ = some (.int .i64 n) := h8.cell 7; have c8 : w8.cell? ⟨n2, 8, none⟩ = some (.int .i64 t) := h8.cell 8; have d0 : w8.cell? ⟨n3, 0, none⟩ = some (.int .i64 g') := h9.cell 0; have d1 : w8.cell? ⟨n3, 1, none⟩ = some (.int .i64 k') := h9.cell 1; have d2 : w8.cell? ⟨n3, 2, none⟩ = some (.int .i64 f') := h9.cell 2; have d3 : w8.cell? ⟨n3, 3, none⟩ = some (.int .i64 p') := h9.cell 3; have d4 : w8.cell? ⟨n3, 4, none⟩ = some (.int .u32 a') := h9.cell 4; have d5 : w8.cell? ⟨n3, 5, none⟩ = some (.int .i64 c') := h9.cell 5; have d6 : w8.cell? ⟨n3, 6, none⟩ = some (.int .i64 o') := h9.cell 6; have d7 : w8.cell? ⟨n3, 7, none⟩ = some (.int .i64 n') := h9.cell 7; have d8 : w8.cell? ⟨n3, 8, none⟩ = some (.int .i64 t') := h9.cell 8; clear h8 h9)
      | (go_at_call 16; refine (HBy.out w8 (Adds.trans A7.out A8.out)).mono ?_; rintro e w9 ⟨v4, rfl, a4⟩; clear HBy c0 c1 c2 c3 c4 c5 c6 c7 c8 d0 d1 d2 d3 d4 d5 d6 d7 d8; have A9 := Lib.hid (Adds.trans A8.out a4); clear a4; obtain ⟨h8, h9⟩ := HG.out w9 (A9.out); have c0 : w9.cell? ⟨n2, 0, none⟩ = some (.int .i64 g) := h8.cell 0; have c1 : w9.cell? ⟨n2, 1, none⟩ = some (.int .i64 k) := h8.cell 1; have c2 : w9.cell? ⟨n2, 2, none⟩ = some (.int .i64 f) := h8.cell 2; have c3 : w9.cell? ⟨n2, 3, none⟩ = some (.int .i64 p) := h8.cell 3; have c4 : w9.cell? ⟨n2, 4, none⟩ = some (.int .u32 a) := h8.cell 4; have c5 : w9.cell? ⟨n2, 5, none⟩ = some (.int .i64 c) := h8.cell 5; have c6 : w9.cell? ⟨n2, 6, none⟩ = some (.int .i64 o) := h8.cell 6; have c7 : w9.cell? ⟨n2, 7, none⟩ = some (.int .i64 n) := h8.cell 7; have c8 : w9.cell? ⟨n2, 8, none⟩ = some (.int .i64 t) := h8.cell 8; have d0 : w9.cell? ⟨n3, 0, none⟩ = some (.int .i64 g') := h9.cell 0; have d1 : w9.cell? ⟨n3, 1, none⟩ = some (.int .i64 k') := h9.cell 1; have d2 : w9.cell? ⟨n3, 2, none⟩ = some (.int .i64 f') := h9.cell 2; have d3 : w9.cell? ⟨n3, 3, none⟩ = some (.int .i64 p') := h9.cell 3; have d4 : w9.cell? ⟨n3, 4, none⟩ = some (.int .u32 a') := h9.cell 4; have d5 : w9.cell? ⟨n3, 5, none⟩ = some (.int .i64 c') := h9.cell 5; have d6 : w9.cell? ⟨n3, 6, none⟩ = some (.int .i64 o') := h9.cell 6; have d7 : w9.cell? ⟨n3, 7, none⟩ = some (.int .i64 n') := h9.cell 7; have d8 : w9.cell? ⟨n3, 8, none⟩ = some (.int .i64 t') := h9.cell 8; clear h8 h9)
      | (go_at_call 9; refine (HTx.out w9 (Adds.trans A7.out A9.out)).mono ?_; rintro e w10 ⟨rfl, a5⟩; clear HTx c0 c1 c2 c3 c4 c5 c6 c7 c8 d0 d1 d2 d3 d4 d5 d6 d7 d8; have A10 := Lib.hid (Adds.trans A9.out a5); clear a5; obtain ⟨h8, h9⟩ := HG.out w10 (A10.out); have c0 : w10.cell? ⟨n2, 0, none⟩ = some (.int .i64 g) := h8.cell 0; have c1 : w10.cell? ⟨n2, 1, none⟩ = some (.int .i64 k) := h8.cell 1; have c2 : w10.cell? ⟨n2, 2, none⟩ = some (.int .i64 f) := h8.cell 2; have c3 : w10.cell? ⟨n2, 3, none⟩ = some (.int .i64 p) := h8.cell 3; have c4 : w10.cell? ⟨n2, 4, none⟩ = some (.int .u32 a) := h8.cell 4; have c5 : w10.cell? ⟨n2, 5, none⟩ = some (.int .i64 c) := h8.cell 5; have c6 : w10.cell? ⟨n2, 6, none⟩ = some (.int .i64 o) := h8.cell 6; have c7 : w10.cell? ⟨n2, 7, none⟩ = some (.int .i64 n) := h8.cell 7; have c8 : w10.cell? ⟨n2, 8, none⟩ = some (.int .i64 t) := h8.cell 8; have d0 : w10.cell? ⟨n3, 0, none⟩ = some (.int .i64 g') := h9.cell 0; have d1 : w10.cell? ⟨n3, 1, none⟩ = some (.int .i64 k') := h9.cell 1; have d2 : w10.cell? ⟨n3, 2, none⟩ = some (.int .i64 f') := h9.cell 2; have d3 : w10.cell? ⟨n3, 3, none⟩ = some (.int .i64 p') := h9.cell 3; have d4 : w10.cell? ⟨n3, 4, none⟩ = some (.int .u32 a') := h9.cell 4; have d5 : w10.cell? ⟨n3, 5, none⟩ = some (.int .i64 c') := h9.cell 5; have d6 : w10.cell? ⟨n3, 6, none⟩ = some (.int .i64 o') := h9.cell 6; have d7 : w10.cell? ⟨n3, 7, none⟩ = some (.int .i64 n') := h9.cell 7; have d8 : w10.cell? ⟨n3, 8, none⟩ = some (.int .i64 t') := h9.cell 8; clear h8 h9)
      | (go_at_call 9; refine (HTy.out w10 (Adds.trans A7.out A10.out)).mono ?_; rintro e w11 ⟨rfl, a6⟩; clear HTy c0 c1 c2 c3 c4 c5 c6 c7 c8 d0 d1 d2 d3 d4 d5 d6 d7 d8; have A11 := Lib.hid (Adds.trans A10.out a6); clear a6)
      | (go_at_call 11; refine (hnum _ _).mono ?_; rintro e w20 ⟨rfl, rfl⟩)
      | (go_at_call 15; refine (works16 w11 (HV2.out w11 (Adds.trans A7.out A11.out))).mono ?_; rintro e w12 ⟨rfl, a7⟩; have A12 := Lib.hid (Adds.trans A11.out a7); clear a7))
    go_ret
    exact ⟨rfl, Adds.trans HA2.out (Adds.trans A7.out A12.out)⟩
set_option maxRecDepth 100000 in
set_option maxHeartbeats 8000000 in
theorem holds16_yes_b (x y : Ev) (hx : OkE x) (hy : OkE y) (hc2 : leadE x y = true) (hg : (x.g != y.g) = false) (mx : mayE x = true) (my : mayE y = true) (w : World) (hv : EVars w) : Calls Tryz.prog 7 #[evV x, evV y] w (TrueAdds w) := by
  have hmx : Tryz.prog.follows .mixedOrders = true := by kernel_rfl
  have hnum := num16
  obtain ⟨w2, hw2⟩ : ∃ w2, (w.alloc (.cells (evC x).toArray 28)).alloc (.cells (evC y).toArray 28) = w2 := ⟨_, rfl⟩
  have HA2 := Lib.hid (show Adds w w2 by rw [← hw2]; exact ((Gr.new _ _).alloc _).adds)
  have HX2 := Lib.hid (show BkS 28 w2 w.heap.size (evC x) by rw [← hw2]; exact (BkS.new _ w _).adds (Gr.new _ _).adds)
  have HY2 := Lib.hid (show BkS 28 w2 (w.heap.size + 1) (evC y) by rw [← hw2]; exact heap_new1 _ _ _)
  have HV2 := Lib.hid (fun W (h : Adds w2 W) => hv.adds (Adds.trans HA2.out h))
  have HC1 := Lib.hid (fun W => con_any x y W)
  have HC2 := Lib.hid (fun W => con_any y x W)
  rw [con_sym y x] at HC2
  have HC3 := Lib.hid (fun W => lead_any x x hx hx W)
  rw [lead_self x] at HC3
  have HC4 := Lib.hid (fun W => lead_any x y hx hy W)
  have HC5 := Lib.hid (fun W => (rel_any x W).mono fun _ _ h => (⟨h.1, h.2.adds⟩ : _ ∧ Adds W _))
  generalize conE x y = c1 at HC1 HC2
  rw [hc2] at HC4
  have HGe := Lib.hid hg
  clear HC5
  have HC5 := Lib.hid True.intro
  have HBx := Lib.hid (fun W (h : Adds w2 W) => bytes16_yes x hx mx W (HV2.out W h))
  have HBy := Lib.hid (fun W (h : Adds w2 W) => bytes16_yes y hy my W (HV2.out W h))
  have HTx := Lib.hid (fun W (h : Adds w2 W) => text16_yes x hx mx W (HV2.out W h))
  have HTy := Lib.hid (fun W (h : Adds w2 W) => text16_yes y hy my W (HV2.out W h))
  have hqb := str_eqb16 (bytesE x) (bytesE y) (eqE x y) ⟨fun h => eqE_iff.2 (bytesE_inj hx.adr hy.adr mx my h), fun h => by rw [eqE_iff.1 h]⟩
  have hqt := str_eqb16 (textE x) (textE y) (eqE x y) ⟨fun h => eqE_iff.2 (textE_inj mx my h), fun h => by rw [eqE_iff.1 h]⟩
  have hq := ev_eql x y
  have hne1 : bytesE x ≠ [] := by unfold bytesE; simp
  have hne2 : bytesE y ≠ [] := by unfold bytesE; simp
  obtain ⟨q, hqq⟩ : ∃ q, eqE x y = q := ⟨_, rfl⟩
  rw [hqq] at hqb hqt hq
  clear hqq
  generalize bytesE x = ba at HBx hqb hne1
  generalize bytesE y = bb at HBy hqb hne2
  generalize str (textE x) = ta at HTx hqt
  generalize str (textE y) = tb at HTy hqt
  clear hx hy hv hc2 mx my hg
  obtain ⟨g, k, f, p, a, c, o, n, t⟩ := x
  obtain ⟨g', k', f', p', a', c', o', n', t'⟩ := y
  have HF := Lib.hid (fun (W : World) (h : Adds w2.drew W) => (⟨HX2.out.adds (Adds.trans (Adds.drew _) h), HY2.out.adds (Adds.trans (Adds.drew _) h)⟩ : BkS 28 W w.heap.size _ ∧ BkS 28 W (w.heap.size + 1) _))
  go_enter Tryz.func7, Tryz.ntmps7
  go_wp2
  obtain ⟨n2, hn2⟩ : ∃ n2, w.heap.size = n2 := ⟨_, rfl⟩
  obtain ⟨n3, hn3⟩ : ∃ n3, n2 + 1 = n3 := ⟨_, rfl⟩
  have HXn := HX2
  have HYn := HY2
  rw [hn2] at HF HXn HYn ⊢
  rw [hn3] at HF HYn ⊢
  clear hn2 hn3 hw2
  refine wp_region_loose [] (fun _ _ _ => True) Adds (by kernel_rfl) (by kernel_rfl) (by simp []) Adds.refl (fun _ _ _ h k => Adds.trans h k) (fun _ _ _ _ _ _ => trivial) ?_
  (repeat (refine wpL_step (fun K hK => ?_); first
    | (refine stepL_skip rfl rfl rfl ?_; go_simp; refine hK _ ?_; clear hK K)
    | (refine stepL_call (v := .bool c1) (f := 20) (args := #[evV ⟨g, k, f, p, a, c, o, n, t⟩, evV ⟨g', k', f', p', a', c', o', n', t'⟩]) rfl rfl rfl ?_ (fun w' hw' => HC1.out w') ?_; (· (intro w'; clear hK; go_simp)); go_simp; refine hK _ ?_; clear hK K)
    | (refine stepL_call (v := .bool c1) (f := 20) (args := #[evV ⟨g', k', f', p', a', c', o', n', t'⟩, evV ⟨g, k, f, p, a, c, o, n, t⟩]) rfl rfl rfl ?_ (fun w' hw' => HC2.out w') ?_; (· (intro w'; clear hK; go_simp)); go_simp; refine hK _ ?_; clear hK K)
    | (refine stepL_call (v := .bool true) (f := 22) (args := #[evV ⟨g, k, f, p, a, c, o, n, t⟩, evV ⟨g, k, f, p, a, c, o, n, t⟩]) rfl rfl rfl ?_ (fun w' hw' => HC3.out w') ?_; (· (intro w'; clear hK; go_simp)); go_simp; refine hK _ ?_; clear hK K)
    | (refine stepL_call (v := .bool true) (f := 22) (args := #[evV ⟨g, k, f, p, a, c, o, n, t⟩, evV ⟨g', k', f', p', a', c', o', n', t'⟩]) rfl rfl rfl ?_ (fun w' hw' => HC4.out w') ?_; (· (intro w'; clear hK; go_simp)); go_simp; refine hK _ ?_; clear hK K)
    | (refine stepL_call (v := .bool true) (f := 13) (args := #[evV ⟨g, k, f, p, a, c, o, n, t⟩]) rfl rfl rfl ?_ (fun w' hw' => HC5.out w') ?_; (· (intro w'; clear hK; go_simp)); go_simp; refine hK _ ?_; clear hK K)
    | (refine stepL_ex (v := .bool true) rfl rfl rfl Adds.refl ?_ ?_; (· (intro w' hw'; clear hK; have hge := HGe.out; go_simp)); go_simp; refine hK _ ?_; clear hK K)
    | (refine stepL_ex (v := .bool false) rfl rfl rfl Adds.refl ?_ ?_; (· (intro w' hw'; clear hK; have hge := HGe.out; go_simp)); go_simp; refine hK _ ?_; clear hK K)
    | (refine stepL_ex (v := .agg #[.int .i64 g, .int .i64 k, .int .i64 f, .int .i64 p, .int .u32 a, .int .i64 c, .int .i64 o, .int .i64 n, .int .i64 t]) rfl rfl rfl Adds.refl ?_ ?_; (· (intro w' hw'; clear hK; have h9 := (HF.out w' hw').1; have c0 : w'.cell? ⟨n2, 0, none⟩ = some (.int .i64 g) := h9.cell 0; have c1 : w'.cell? ⟨n2, 1, none⟩ = some (.int .i64 k) := h9.cell 1; have c2 : w'.cell? ⟨n2, 2, none⟩ = some (.int .i64 f) := h9.cell 2; have c3 : w'.cell? ⟨n2, 3, none⟩ = some (.int .i64 p) := h9.cell 3; have c4 : w'.cell? ⟨n2, 4, none⟩ = some (.int .u32 a) := h9.cell 4; have c5 : w'.cell? ⟨n2, 5, none⟩ = some (.int .i64 c) := h9.cell 5; have c6 : w'.cell? ⟨n2, 6, none⟩ = some (.int .i64 o) := h9.cell 6; have c7 : w'.cell? ⟨n2, 7, none⟩ = some (.int .i64 n) := h9.cell 7; have c8 : w'.cell? ⟨n2, 8, none⟩ = some (.int .i64 t) := h9.cell 8; go_simp)); go_simp; refine hK _ ?_; clear hK K)
    | (refine stepL_ex (v := .agg #[.int .i64 g', .int .i64 k', .int .i64 f', .int .i64 p', .int .u32 a', .int .i64 c', .int .i64 o', .int .i64 n', .int .i64 t']) rfl rfl rfl Adds.refl ?_ ?_; (· (intro w' hw'; clear hK; have h9 := (HF.out w' hw').2; have c0 : w'.cell? ⟨n3, 0, none⟩ = some (.int .i64 g') := h9.cell 0; have c1 : w'.cell? ⟨n3, 1, none⟩ = some (.int .i64 k') := h9.cell 1; have c2 : w'.cell? ⟨n3, 2, none⟩ = some (.int .i64 f') := h9.cell 2; have c3 : w'.cell? ⟨n3, 3, none⟩ = some (.int .i64 p') := h9.cell 3; have c4 : w'.cell? ⟨n3, 4, none⟩ = some (.int .u32 a') := h9.cell 4; have c5 : w'.cell? ⟨n3, 5, none⟩ = some (.int .i64 c') := h9.cell 5; have c6 : w'.cell? ⟨n3, 6, none⟩ = some (.int .i64 o') := h9.cell 6; have c7 : w'.cell? ⟨n3, 7, none⟩ = some (.int .i64 n') := h9.cell 7; have c8 : w'.cell? ⟨n3, 8, none⟩ = some (.int .i64 t') := h9.cell 8; go_simp)); go_simp; refine hK _ ?_; clear hK K)
    | (refine stepL_ex (v := .pointer (some ⟨n2, 0, none⟩)) rfl rfl rfl Adds.refl ?_ ?_; (· (intro w' hw'; clear hK; have hl := (HF.out w' hw').1.lt; go_simp)); go_simp; refine hK _ ?_; clear hK K)
    | (refine stepL_ex (v := .pointer (some ⟨n3, 0, none⟩)) rfl rfl rfl Adds.refl ?_ ?_; (· (intro w' hw'; clear hK; have hl := (HF.out w' hw').2.lt; go_simp)); go_simp; refine hK _ ?_; clear hK K)
    | (refine stepL_ex (v := .int .i64 g) rfl rfl rfl Adds.refl ?_ ?_; (· (intro w' hw'; clear hK; have h9 := (HF.out w' hw').1; have c0 : w'.cell? ⟨n2, 0, none⟩ = some (.int .i64 g) := h9.cell 0; go_simp)); go_simp; refine hK _ ?_; clear hK K)
    | (refine stepL_ex (v := .int .i64 g') rfl rfl rfl Adds.refl ?_ ?_; (· (intro w' hw'; clear hK; have h9 := (HF.out w' hw').2; have c0 : w'.cell? ⟨n3, 0, none⟩ = some (.int .i64 g') := h9.cell 0; go_simp)); go_simp; refine hK _ ?_; clear hK K)
    | (refine stepL_ex rfl rfl rfl Adds.refl (fun w' hw' => rfl) ?_; go_simp; refine hK _ ?_; clear hK K)))
  refine wpL_nil ?_
  intro w7 a7
  simp only [forL]
  have A7 := Lib.hid (Adds.trans (Adds.drew w2) a7)
  obtain ⟨h8, h9⟩ := HF.out w7 a7
  have c0 : w7.cell? ⟨n2, 0, none⟩ = some (.int .i64 g) := h8.cell 0
  have c1 : w7.cell? ⟨n2, 1, none⟩ = some (.int .i64 k) := h8.cell 1
  have c2 : w7.cell? ⟨n2, 2, none⟩ = some (.int .i64 f) := h8.cell 2
  have c3 : w7.cell? ⟨n2, 3, none⟩ = some (.int .i64 p) := h8.cell 3
  have c4 : w7.cell? ⟨n2, 4, none⟩ = some (.int .u32 a) := h8.cell 4
  have c5 : w7.cell? ⟨n2, 5, none⟩ = some (.int .i64 c) := h8.cell 5
  have c6 : w7.cell? ⟨n2, 6, none⟩ = some (.int .i64 o) := h8.cell 6
  have c7 : w7.cell? ⟨n2, 7, none⟩ = some (.int .i64 n) := h8.cell 7
  have c8 : w7.cell? ⟨n2, 8, none⟩ = some (.int .i64 t) := h8.cell 8
  have d0 : w7.cell? ⟨n3, 0, none⟩ = some (.int .i64 g') := h9.cell 0
  have d1 : w7.cell? ⟨n3, 1, none⟩ = some (.int .i64 k') := h9.cell 1
  have d2 : w7.cell? ⟨n3, 2, none⟩ = some (.int .i64 f') := h9.cell 2
  have d3 : w7.cell? ⟨n3, 3, none⟩ = some (.int .i64 p') := h9.cell 3
  have d4 : w7.cell? ⟨n3, 4, none⟩ = some (.int .u32 a') := h9.cell 4
  have d5 : w7.cell? ⟨n3, 5, none⟩ = some (.int .i64 c') := h9.cell 5
  have d6 : w7.cell? ⟨n3, 6, none⟩ = some (.int .i64 o') := h9.cell 6
  have d7 : w7.cell? ⟨n3, 7, none⟩ = some (.int .i64 n') := h9.cell 7
  have d8 : w7.cell? ⟨n3, 8, none⟩ = some (.int .i64 t') := h9.cell 8
  clear a7 h8 h9 HC1 HC2 HC3 HC4 HC5
  have HG := Lib.hid (fun (W : World) (h : Adds w7 W) => (⟨HXn.out.adds (Adds.trans A7.out h), HYn.out.adds (Adds.trans A7.out h)⟩ : BkS 28 W n2 _ ∧ BkS 28 W (n3) _))
  have HNe := Lib.hid (And.intro hne1 hne2)
  have HQs := Lib.hid (And.intro hqb (And.intro hqt hq))
  clear hne1 hne2 hqb hqt hq
  go_wp2_with (first
    | (go_at_call 16; refine (HBx.out w7 A7.out).mono ?_; rintro e w8 ⟨v3, rfl, o3, a3⟩; clear HBx c0 c1 c2 c3 c4 c5 c6 c7 c8 d0 d1 d2 d3 d4 d5 d6 d7 d8; obtain ⟨ga, capa, rfl, _, _⟩ := o3.form HNe.out.1; have O3 := Lib.hid o3.bytes; have A8 := Lib.hid a3; clear a3 o3; obtain ⟨h8, h9⟩ := HG.out w8 (A8.out); have c0 : w8.cell? ⟨n2, 0, none⟩ = some (.int .i64 g) := h8.cell 0; have c1 : w8.cell? ⟨n2, 1, none⟩ = some (.int .i64 k) := h8.cell 1; have c2 : w8.cell? ⟨n2, 2, none⟩ = some (.int .i64 f) := h8.cell 2; have c3 : w8.cell? ⟨n2, 3, none⟩ = some (.int .i64 p) := h8.cell 3; have c4 : w8.cell? ⟨n2, 4, none⟩ = some (.int .u32 a) := h8.cell 4; have c5 : w8.cell? ⟨n2, 5, none⟩ = some (.int .i64 c) := h8.cell 5; have c6 : w8.cell? ⟨n2, 6, none⟩ = some (.int .i64 o) := h8.cell 6; have c7 : w8.cell? ⟨n2, 7, none⟩ = some (.int .i64 n) := h8.cell 7; have c8 : w8.cell? ⟨n2, 8, none⟩ = some (.int .i64 t) := h8.cell 8; have d0 : w8.cell? ⟨n3, 0, none⟩ = some (.int .i64 g') := h9.cell 0; have d1 : w8.cell? ⟨n3, 1, none⟩ = some (.int .i64 k') := h9.cell 1; have d2 : w8.cell? ⟨n3, 2, none⟩ = some (.int .i64 f') := h9.cell 2; have d3 : w8.cell? ⟨n3, 3, none⟩ = some (.int .i64 p') := h9.cell 3; have d4 : w8.cell? ⟨n3, 4, none⟩ = some (.int .u32 a') := h9.cell 4; have d5 : w8.cell? ⟨n3, 5, none⟩ = some (.int .i64 c') := h9.cell 5; have d6 : w8.cell? ⟨n3, 6, none⟩ = some (.int .i64 o') := h9.cell 6; have d7 : w8.cell? ⟨n3, 7, none⟩ = some (.int .i64 n') := h9.cell 7; have d8 : w8.cell? ⟨n3, 8, none⟩ = some (.int .i64 t') := h9.cell 8; clear h8 h9)
    | (go_at_call 16; refine (HBy.out w8 (Adds.trans A7.out A8.out)).mono ?_; rintro e w9 ⟨v4, rfl, o4, a4⟩; clear HBy c0 c1 c2 c3 c4 c5 c6 c7 c8 d0 d1 d2 d3 d4 d5 d6 d7 d8; obtain ⟨gb, capb, rfl, _, _⟩ := o4.form HNe.out.2; have O4 := Lib.hid (And.intro (O3.out.adds a4) o4.bytes); have A9 := Lib.hid (Adds.trans A8.out a4); clear a4 o4; obtain ⟨h8, h9⟩ := HG.out w9 (A9.out); have c0 : w9.cell? ⟨n2, 0, none⟩ = some (.int .i64 g) := h8.cell 0; have c1 : w9.cell? ⟨n2, 1, none⟩ = some (.int .i64 k) := h8.cell 1; have c2 : w9.cell? ⟨n2, 2, none⟩ = some (.int .i64 f) := h8.cell 2; have c3 : w9.cell? ⟨n2, 3, none⟩ = some (.int .i64 p) := h8.cell 3; have c4 : w9.cell? ⟨n2, 4, none⟩ = some (.int .u32 a) := h8.cell 4; have c5 : w9.cell? ⟨n2, 5, none⟩ = some (.int .i64 c) := h8.cell 5; have c6 : w9.cell? ⟨n2, 6, none⟩ = some (.int .i64 o) := h8.cell 6; have c7 : w9.cell? ⟨n2, 7, none⟩ = some (.int .i64 n) := h8.cell 7; have c8 : w9.cell? ⟨n2, 8, none⟩ = some (.int .i64 t) := h8.cell 8; have d0 : w9.cell? ⟨n3, 0, none⟩ = some (.int .i64 g') := h9.cell 0; have d1 : w9.cell? ⟨n3, 1, none⟩ = some (.int .i64 k') := h9.cell 1; have d2 : w9.cell? ⟨n3, 2, none⟩ = some (.int .i64 f') := h9.cell 2; have d3 : w9.cell? ⟨n3, 3, none⟩ = some (.int .i64 p') := h9.cell 3; have d4 : w9.cell? ⟨n3, 4, none⟩ = some (.int .u32 a') := h9.cell 4; have d5 : w9.cell? ⟨n3, 5, none⟩ = some (.int .i64 c') := h9.cell 5; have d6 : w9.cell? ⟨n3, 6, none⟩ = some (.int .i64 o') := h9.cell 6; have d7 : w9.cell? ⟨n3, 7, none⟩ = some (.int .i64 n') := h9.cell 7; have d8 : w9.cell? ⟨n3, 8, none⟩ = some (.int .i64 t') := h9.cell 8; clear h8 h9)
    | (go_at_call 9; refine (HTx.out w9 (Adds.trans A7.out A9.out)).mono ?_; rintro e w10 ⟨rfl, a5⟩; clear HTx c0 c1 c2 c3 c4 c5 c6 c7 c8 d0 d1 d2 d3 d4 d5 d6 d7 d8; have A910 := Lib.hid a5; have A10 := Lib.hid (Adds.trans A9.out a5); clear a5; obtain ⟨h8, h9⟩ := HG.out w10 (A10.out); have c0 : w10.cell? ⟨n2, 0, none⟩ = some (.int .i64 g) := h8.cell 0; have c1 : w10.cell? ⟨n2, 1, none⟩ = some (.int .i64 k) := h8.cell 1; have c2 : w10.cell? ⟨n2, 2, none⟩ = some (.int .i64 f) := h8.cell 2; have c3 : w10.cell? ⟨n2, 3, none⟩ = some (.int .i64 p) := h8.cell 3; have c4 : w10.cell? ⟨n2, 4, none⟩ = some (.int .u32 a) := h8.cell 4; have c5 : w10.cell? ⟨n2, 5, none⟩ = some (.int .i64 c) := h8.cell 5; have c6 : w10.cell? ⟨n2, 6, none⟩ = some (.int .i64 o) := h8.cell 6; have c7 : w10.cell? ⟨n2, 7, none⟩ = some (.int .i64 n) := h8.cell 7; have c8 : w10.cell? ⟨n2, 8, none⟩ = some (.int .i64 t) := h8.cell 8; have d0 : w10.cell? ⟨n3, 0, none⟩ = some (.int .i64 g') := h9.cell 0; have d1 : w10.cell? ⟨n3, 1, none⟩ = some (.int .i64 k') := h9.cell 1; have d2 : w10.cell? ⟨n3, 2, none⟩ = some (.int .i64 f') := h9.cell 2; have d3 : w10.cell? ⟨n3, 3, none⟩ = some (.int .i64 p') := h9.cell 3; have d4 : w10.cell? ⟨n3, 4, none⟩ = some (.int .u32 a') := h9.cell 4; have d5 : w10.cell? ⟨n3, 5, none⟩ = some (.int .i64 c') := h9.cell 5; have d6 : w10.cell? ⟨n3, 6, none⟩ = some (.int .i64 o') := h9.cell 6; have d7 : w10.cell? ⟨n3, 7, none⟩ = some (.int .i64 n') := h9.cell 7; have d8 : w10.cell? ⟨n3, 8, none⟩ = some (.int .i64 t') := h9.cell 8; clear h8 h9)
    | (go_at_call 9; refine (HTy.out w10 (Adds.trans A7.out A10.out)).mono ?_; rintro e w11 ⟨rfl, a6⟩; clear HTy c0 c1 c2 c3 c4 c5 c6 c7 c8 d0 d1 d2 d3 d4 d5 d6 d7 d8; have A911 := Lib.hid (Adds.trans A910.out a6); have A11 := Lib.hid (Adds.trans A10.out a6); clear a6)
    | (go_at_call 11; refine (hnum _ _).mono ?_; rintro e w20 ⟨rfl, rfl⟩))
  obtain ⟨la, hla⟩ : ∃ n, ba.length = n := ⟨_, rfl⟩
  obtain ⟨lb, hlb⟩ : ∃ n, bb.length = n := ⟨_, rfl⟩
  obtain ⟨sa, hsa⟩ : ∃ s, str ba = s := ⟨_, rfl⟩
  obtain ⟨sb, hsb⟩ : ∃ s, str bb = s := ⟨_, rfl⟩
  have S1 := Lib.hid (show ∀ w', Adds w11.drew w' → (convert 37 9 (.slice (some ⟨ga, 0, none⟩) la capa)).run Tryz.prog w' = .ok (.string sa) w' from fun w' h => by rw [← hsa, ← hla]; exact strAt (O4.out.1.adds (Adds.trans A911.out (Adds.trans (Adds.drew _) h))))
  have S2 := Lib.hid (show ∀ w', Adds w11.drew w' → (convert 37 9 (.slice (some ⟨gb, 0, none⟩) lb capb)).run Tryz.prog w' = .ok (.string sb) w' from fun w' h => by rw [← hsb, ← hlb]; exact strAt (O4.out.2.adds (Adds.trans A911.out (Adds.trans (Adds.drew _) h))))
  have HD := Lib.hid (fun w' (h : Adds w11.drew w') => HG.out w' (Adds.trans A11.out (Adds.trans (Adds.drew _) h)))
  have HWk := Lib.hid (fun w' (h : Adds w11.drew w') => works16 w' (HV2.out w' (Adds.trans A7.out (Adds.trans A11.out (Adds.trans (Adds.drew _) h)))))
  obtain ⟨hqb, hqt, hq⟩ := HQs.out
  simp only [evV, evC] at hq
  rw [hsa, hsb] at hqb
  rw [hla, hlb]
  clear hla hlb HQs O4 O3 HNe HF HG
  refine wp_region_loose [] (fun _ _ _ => True) Adds (by kernel_rfl) (by kernel_rfl) (by simp []) Adds.refl (fun _ _ _ h k => Adds.trans h k) (fun _ _ _ _ _ _ => trivial) ?_
  (repeat (refine wpL_step (fun K hK => ?_); first
    | (refine stepL_skip rfl rfl rfl ?_; go_simp; refine hK _ ?_; clear hK K)
    | (refine stepL_ex (v := .string sa) rfl rfl rfl Adds.refl ?_ ?_; (· (intro w' hw'; clear hK; have hS := S1.out w' hw'; go_simp)); go_simp; refine hK _ ?_; clear hK K)
    | (refine stepL_ex (v := .string sb) rfl rfl rfl Adds.refl ?_ ?_; (· (intro w' hw'; clear hK; have hS := S2.out w' hw'; go_simp)); go_simp; refine hK _ ?_; clear hK K)
    | (refine stepL_ex (v := .bool true) rfl rfl rfl Adds.refl ?_ ?_; (· (intro w' hw'; clear hK; skip; go_simp)); go_simp; refine hK _ ?_; clear hK K)
    | (refine stepL_ex (v := .bool q) rfl rfl rfl Adds.refl ?_ ?_; (· (intro w' hw'; clear hK; skip; go_simp)); go_simp; refine hK _ ?_; clear hK K)
    | (refine stepL_ex (v := .agg #[.int .i64 g, .int .i64 k, .int .i64 f, .int .i64 p, .int .u32 a, .int .i64 c, .int .i64 o, .int .i64 n, .int .i64 t]) rfl rfl rfl Adds.refl ?_ ?_; (· (intro w' hw'; clear hK; have h9 := (HD.out w' hw').1; have c0 : w'.cell? ⟨n2, 0, none⟩ = some (.int .i64 g) := h9.cell 0; have c1 : w'.cell? ⟨n2, 1, none⟩ = some (.int .i64 k) := h9.cell 1; have c2 : w'.cell? ⟨n2, 2, none⟩ = some (.int .i64 f) := h9.cell 2; have c3 : w'.cell? ⟨n2, 3, none⟩ = some (.int .i64 p) := h9.cell 3; have c4 : w'.cell? ⟨n2, 4, none⟩ = some (.int .u32 a) := h9.cell 4; have c5 : w'.cell? ⟨n2, 5, none⟩ = some (.int .i64 c) := h9.cell 5; have c6 : w'.cell? ⟨n2, 6, none⟩ = some (.int .i64 o) := h9.cell 6; have c7 : w'.cell? ⟨n2, 7, none⟩ = some (.int .i64 n) := h9.cell 7; have c8 : w'.cell? ⟨n2, 8, none⟩ = some (.int .i64 t) := h9.cell 8; go_simp)); go_simp; refine hK _ ?_; clear hK K)
    | (refine stepL_ex (v := .agg #[.int .i64 g', .int .i64 k', .int .i64 f', .int .i64 p', .int .u32 a', .int .i64 c', .int .i64 o', .int .i64 n', .int .i64 t']) rfl rfl rfl Adds.refl ?_ ?_; (· (intro w' hw'; clear hK; have h9 := (HD.out w' hw').2; have c0 : w'.cell? ⟨n3, 0, none⟩ = some (.int .i64 g') := h9.cell 0; have c1 : w'.cell? ⟨n3, 1, none⟩ = some (.int .i64 k') := h9.cell 1; have c2 : w'.cell? ⟨n3, 2, none⟩ = some (.int .i64 f') := h9.cell 2; have c3 : w'.cell? ⟨n3, 3, none⟩ = some (.int .i64 p') := h9.cell 3; have c4 : w'.cell? ⟨n3, 4, none⟩ = some (.int .u32 a') := h9.cell 4; have c5 : w'.cell? ⟨n3, 5, none⟩ = some (.int .i64 c') := h9.cell 5; have c6 : w'.cell? ⟨n3, 6, none⟩ = some (.int .i64 o') := h9.cell 6; have c7 : w'.cell? ⟨n3, 7, none⟩ = some (.int .i64 n') := h9.cell 7; have c8 : w'.cell? ⟨n3, 8, none⟩ = some (.int .i64 t') := h9.cell 8; go_simp)); go_simp; refine hK _ ?_; clear hK K)
    | (refine stepL_call (v := .bool true) (f := 15) (args := #[]) rfl rfl rfl ?_ (fun w' hw' => HWk.out w' hw') ?_; (· (intro w'; clear hK; go_simp)); go_simp; refine hK _ ?_; clear hK K)
    | (refine stepL_ex rfl rfl rfl Adds.refl (fun w' hw' => rfl) ?_; go_simp; refine hK _ ?_; clear hK K)))
  refine wpL_nil ?_
  intro w14 a14
  simp only [forL]
  have A14 := Lib.hid (Adds.trans (Adds.drew w11) a14)
  clear a14
  go_wp2_with fail
  go_ret
  exact ⟨rfl, Adds.trans HA2.out (Adds.trans A7.out (Adds.trans A11.out A14.out))⟩
end Go.Proofs.YtbinmgpfkjmijaaGreatDoor
