/- The law EventLeads, walked. (genL1.py wrote this.) -/
import Derived.BigCall
import Derived.BigGuard
import Derived.Deep.RegionLaw
import Derived.Shelf.AbstractIn
import Derived.Test.YtbinmgpfkjmijaaGreatDoorEvWk
namespace Go.Proofs.YtbinmgpfkjmijaaGreatDoor
open Go Go.RowKit Go.Shelf

set_option maxRecDepth 100000 in
set_option maxHeartbeats 8000000 in
theorem law_leads16 (x y : Ev) (hx : OkE x) (hy : OkE y) (w : World) (hv : EVars w) : Calls Tryz.prog 5 #[evV x, evV y] w (TrueAdds w) := by
  obtain ⟨w2, hw2⟩ : ∃ w2, (w.alloc (.cells (evC x).toArray 28)).alloc (.cells (evC y).toArray 28) = w2 := ⟨_, rfl⟩
  have HA2 := Lib.hid (show Adds w w2 by rw [← hw2]; exact ((Gr.new _ _).alloc _).adds)
  have HX2 := Lib.hid (show BkS 28 w2 w.heap.size (evC x) by rw [← hw2]; exact (BkS.new _ w _).adds (Gr.new _ _).adds)
  have HY2 := Lib.hid (show BkS 28 w2 (w.heap.size + 1) (evC y) by rw [← hw2]; exact heap_new1 _ _ _)
  have HWk := Lib.hid (fun W (h : Adds w2.drew W) => works16 W (hv.adds (Adds.trans HA2.out (Adds.trans (Adds.drew _) h))))
  have HC1 := Lib.hid (fun W => con_any x y W)
  have HC2 := Lib.hid (fun W => refCon_any x y W)
  have HC3 := Lib.hid (fun W => lead_any x y hx hy W)
  have HC4 := Lib.hid (fun W => refLead_any x y W)
  have HC5 := Lib.hid (fun W => lead_any y x hy hx W)
  have HC6 := Lib.hid (fun W => refLead_any y x W)
  generalize conE x y = c1 at HC1 HC2
  generalize leadE x y = c2 at HC3 HC4
  generalize leadE y x = c3 at HC5 HC6
  clear hv hx hy
  obtain ⟨g, k, f, p, a, c, o, n, t⟩ := x
  obtain ⟨g', k', f', p', a', c', o', n', t'⟩ := y
  have HF := Lib.hid (fun (W : World) (h : Adds w2.drew W) => (⟨HX2.out.adds (Adds.trans (Adds.drew _) h), HY2.out.adds (Adds.trans (Adds.drew _) h)⟩ : BkS 28 W w.heap.size _ ∧ BkS 28 W (w.heap.size + 1) _))
  go_enter Tryz.func5, Tryz.ntmps5
  go_wp2
  obtain ⟨n2, hn2⟩ : ∃ n2, w.heap.size = n2 := ⟨_, rfl⟩
  obtain ⟨n3, hn3⟩ : ∃ n3, n2 + 1 = n3 := ⟨_, rfl⟩
  rw [hn2] at HF ⊢
  rw [hn3] at HF ⊢
  clear hn2 hn3 hw2
  refine wp_region_loose [] (fun _ _ _ => True) Adds (by kernel_rfl) (by kernel_rfl) (by simp []) Adds.refl (fun _ _ _ h k => Adds.trans h k) (fun _ _ _ _ _ _ => trivial) ?_
  (repeat (refine wpL_step (fun K hK => ?_); first
    | (refine stepL_skip rfl rfl rfl ?_; go_simp; refine hK _ ?_; clear hK K)
    | (refine stepL_call (v := .bool c1) (f := 20) (args := #[evV ⟨g, k, f, p, a, c, o, n, t⟩, evV ⟨g', k', f', p', a', c', o', n', t'⟩]) rfl rfl rfl ?_ (fun w' hw' => HC1.out w') ?_; (· (intro w'; clear hK; go_simp)); go_simp; refine hK _ ?_; clear hK K)
    | (refine stepL_call (v := .bool c1) (f := 21) (args := #[evV ⟨g, k, f, p, a, c, o, n, t⟩, evV ⟨g', k', f', p', a', c', o', n', t'⟩]) rfl rfl rfl ?_ (fun w' hw' => HC2.out w') ?_; (· (intro w'; clear hK; go_simp)); go_simp; refine hK _ ?_; clear hK K)
    | (refine stepL_call (v := .bool c2) (f := 22) (args := #[evV ⟨g, k, f, p, a, c, o, n, t⟩, evV ⟨g', k', f', p', a', c', o', n', t'⟩]) rfl rfl rfl ?_ (fun w' hw' => HC3.out w') ?_; (· (intro w'; clear hK; go_simp)); go_simp; refine hK _ ?_; clear hK K)
    | (refine stepL_call (v := .bool c2) (f := 23) (args := #[evV ⟨g, k, f, p, a, c, o, n, t⟩, evV ⟨g', k', f', p', a', c', o', n', t'⟩]) rfl rfl rfl ?_ (fun w' hw' => HC4.out w') ?_; (· (intro w'; clear hK; go_simp)); go_simp; refine hK _ ?_; clear hK K)
    | (refine stepL_call (v := .bool c3) (f := 22) (args := #[evV ⟨g', k', f', p', a', c', o', n', t'⟩, evV ⟨g, k, f, p, a, c, o, n, t⟩]) rfl rfl rfl ?_ (fun w' hw' => HC5.out w') ?_; (· (intro w'; clear hK; go_simp)); go_simp; refine hK _ ?_; clear hK K)
    | (refine stepL_call (v := .bool c3) (f := 23) (args := #[evV ⟨g', k', f', p', a', c', o', n', t'⟩, evV ⟨g, k, f, p, a, c, o, n, t⟩]) rfl rfl rfl ?_ (fun w' hw' => HC6.out w') ?_; (· (intro w'; clear hK; go_simp)); go_simp; refine hK _ ?_; clear hK K)
    | (refine stepL_call (v := .bool true) (f := 15) (args := #[]) rfl rfl rfl ?_ (fun w' hw' => HWk.out w' hw') ?_; (· (intro w'; clear hK; go_simp)); go_simp; refine hK _ ?_; clear hK K)
    | (refine stepL_ex (v := .bool true) rfl rfl rfl Adds.refl ?_ ?_; (· (intro w' hw'; clear hK; skip; go_simp)); go_simp; refine hK _ ?_; clear hK K)
    | (refine stepL_ex (v := .agg #[.int .i64 g, .int .i64 k, .int .i64 f, .int .i64 p, .int .u32 a, .int .i64 c, .int .i64 o, .int .i64 n, .int .i64 t]) rfl rfl rfl Adds.refl ?_ ?_; (· (intro w' hw'; clear hK; have h9 := (HF.out w' hw').1; have c0 : w'.cell? ⟨n2, 0, none⟩ = some (.int .i64 g) := h9.cell 0; have c1 : w'.cell? ⟨n2, 1, none⟩ = some (.int .i64 k) := h9.cell 1; have c2 : w'.cell? ⟨n2, 2, none⟩ = some (.int .i64 f) := h9.cell 2; have c3 : w'.cell? ⟨n2, 3, none⟩ = some (.int .i64 p) := h9.cell 3; have c4 : w'.cell? ⟨n2, 4, none⟩ = some (.int .u32 a) := h9.cell 4; have c5 : w'.cell? ⟨n2, 5, none⟩ = some (.int .i64 c) := h9.cell 5; have c6 : w'.cell? ⟨n2, 6, none⟩ = some (.int .i64 o) := h9.cell 6; have c7 : w'.cell? ⟨n2, 7, none⟩ = some (.int .i64 n) := h9.cell 7; have c8 : w'.cell? ⟨n2, 8, none⟩ = some (.int .i64 t) := h9.cell 8; go_simp)); go_simp; refine hK _ ?_; clear hK K)
    | (refine stepL_ex (v := .agg #[.int .i64 g', .int .i64 k', .int .i64 f', .int .i64 p', .int .u32 a', .int .i64 c', .int .i64 o', .int .i64 n', .int .i64 t']) rfl rfl rfl Adds.refl ?_ ?_; (· (intro w' hw'; clear hK; have h9 := (HF.out w' hw').2; have c0 : w'.cell? ⟨n3, 0, none⟩ = some (.int .i64 g') := h9.cell 0; have c1 : w'.cell? ⟨n3, 1, none⟩ = some (.int .i64 k') := h9.cell 1; have c2 : w'.cell? ⟨n3, 2, none⟩ = some (.int .i64 f') := h9.cell 2; have c3 : w'.cell? ⟨n3, 3, none⟩ = some (.int .i64 p') := h9.cell 3; have c4 : w'.cell? ⟨n3, 4, none⟩ = some (.int .u32 a') := h9.cell 4; have c5 : w'.cell? ⟨n3, 5, none⟩ = some (.int .i64 c') := h9.cell 5; have c6 : w'.cell? ⟨n3, 6, none⟩ = some (.int .i64 o') := h9.cell 6; have c7 : w'.cell? ⟨n3, 7, none⟩ = some (.int .i64 n') := h9.cell 7; have c8 : w'.cell? ⟨n3, 8, none⟩ = some (.int .i64 t') := h9.cell 8; go_simp)); go_simp; refine hK _ ?_; clear hK K)
    | (refine stepL_ex rfl rfl rfl Adds.refl (fun w' hw' => rfl) ?_; go_simp; refine hK _ ?_; clear hK K)))
  refine wpL_nil ?_
  intro w7 a7
  simp only [forL]
  have A7 := Lib.hid (Adds.trans HA2.out (Adds.trans (Adds.drew _) a7))
  clear a7
  go_wp2
  go_ret
  exact ⟨rfl, A7.out⟩
end Go.Proofs.YtbinmgpfkjmijaaGreatDoor
