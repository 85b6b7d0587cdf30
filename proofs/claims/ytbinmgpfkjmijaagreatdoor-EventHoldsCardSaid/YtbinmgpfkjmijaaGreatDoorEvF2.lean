/- Which events may be: contracts. (genF2.py wrote this.) -/
import Derived.BigCall
import Derived.BigGuard
import Derived.Deep.RegionLaw
import Derived.Shelf.AbstractIn
import Derived.Test.YtbinmgpfkjmijaaGreatDoorBB
import Derived.Test.YtbinmgpfkjmijaaGreatDoorSF2
import Derived.Test.YtbinmgpfkjmijaaGreatDoorEvEq
import Derived.Test.YtbinmgpfkjmijaaGreatDoorEvLook
namespace Go.Proofs.YtbinmgpfkjmijaaGreatDoor
open Go Go.RowKit Go.Shelf Go.Lib

/-- Parts that an event may name. -/
def okL (l : List Nat) : Prop := (∀ p ∈ l, p < 6) ∧ l.length ≤ 2
theorem okL_kind (k : Nat) : okL (partsE k) := by
  unfold okL partsE
  split <;> exact ⟨by decide, by decide⟩
theorem bareE_take {l : List Nat} {x : Ev} {k : Nat} (h : k < l.length) : bareE (l.take (k + 1)) x = putE (l.getD k 0) (bareE (l.take k) x) 0 := by
  unfold bareE
  rw [List.take_succ_eq_append_getElem h, List.foldl_append]
  simp [List.getD_eq_getElem?_getD, h]
theorem mayQ_take {l : List Nat} {x : Ev} {k : Nat} (h1 : ∀ j, j < k → mayQ (l.getD j 0) x = true) (h2 : mayQ (l.getD k 0) x = true) : ∀ j, j < k + 1 → mayQ (l.getD j 0) x = true := fun j hj => by
  by_cases e : j = k
  · subst e; exact h2
  · exact h1 j (by omega)
theorem allQ_iff {l : List Nat} {x : Ev} : (l.all fun p => mayQ p x) = true ↔ ∀ j, j < l.length → mayQ (l.getD j 0) x = true := by
  rw [List.all_eq_true]
  constructor
  · intro h j hj
    exact h _ (by simp [List.getD_eq_getElem?_getD, hj])
  · intro h p hp
    obtain ⟨j, hj, rfl⟩ := List.getElem_of_mem hp
    have := h j hj
    simpa [List.getD_eq_getElem?_getD, hj] using this
theorem memQ {l : List Nat} {k : Nat} (h : k < l.length) : l.getD k 0 ∈ l := by simp [List.getD_eq_getElem?_getD, h]
theorem holdsE_no {l : List Nat} {x : Ev} {k : Nat} (h : k < l.length) (hz : mayQ (l.getD k 0) x = false) : holdsE l x = false := by
  unfold holdsE
  rw [show (l.all fun p => mayQ p x) = false from ?_]
  · simp
  · rw [← Bool.not_eq_true, allQ_iff]
    intro h2
    rw [h2 k h] at hz
    cases hz
theorem enter_getQ (p : Nat) (h : p < 6) (v : Value) (w : World) : (callFunc (getF p) #[v]).run Tryz.prog w = .ok (.enter (getF p) #[v]) w := by
  match p, h with
  | 0, _ => exact enters_of Tryz.func66 (by kernel_rfl) rfl _ _
  | 1, _ => exact enters_of Tryz.func109 (by kernel_rfl) rfl _ _
  | 2, _ => exact enters_of Tryz.func115 (by kernel_rfl) rfl _ _
  | 3, _ => exact enters_of Tryz.func112 (by kernel_rfl) rfl _ _
  | 4, _ => exact enters_of Tryz.func118 (by kernel_rfl) rfl _ _
  | 5, _ => exact enters_of Tryz.func121 (by kernel_rfl) rfl _ _
theorem enter_putQ (p : Nat) (h : p < 6) (v u : Value) (w : World) : (callFunc (putF p) #[v, u]).run Tryz.prog w = .ok (.enter (putF p) #[v, u]) w := by
  match p, h with
  | 0, _ => exact enters_of Tryz.func67 (by kernel_rfl) rfl _ _
  | 1, _ => exact enters_of Tryz.func110 (by kernel_rfl) rfl _ _
  | 2, _ => exact enters_of Tryz.func116 (by kernel_rfl) rfl _ _
  | 3, _ => exact enters_of Tryz.func113 (by kernel_rfl) rfl _ _
  | 4, _ => exact enters_of Tryz.func119 (by kernel_rfl) rfl _ _
  | 5, _ => exact enters_of Tryz.func122 (by kernel_rfl) rfl _ _
theorem enter_mayQ (p : Nat) (h : p < 6) (v : Value) (w : World) : (callFunc (mayF p) #[v]).run Tryz.prog w = .ok (.enter (mayF p) #[v]) w := by
  match p, h with
  | 0, _ => exact enters_of Tryz.func68 (by kernel_rfl) rfl _ _
  | 1, _ => exact enters_of Tryz.func111 (by kernel_rfl) rfl _ _
  | 2, _ => exact enters_of Tryz.func117 (by kernel_rfl) rfl _ _
  | 3, _ => exact enters_of Tryz.func114 (by kernel_rfl) rfl _ _
  | 4, _ => exact enters_of Tryz.func120 (by kernel_rfl) rfl _ _
  | 5, _ => exact enters_of Tryz.func123 (by kernel_rfl) rfl _ _
theorem enter_wordQ (p : Nat) (h : p < 6) (v : Value) (w : World) : (callFunc (wordF p) #[v]).run Tryz.prog w = .ok (.enter (wordF p) #[v]) w := by
  match p, h with
  | 0, _ => exact enters_of Tryz.func69 (by kernel_rfl) rfl _ _
  | 1, _ => exact enters_of Tryz.func69 (by kernel_rfl) rfl _ _
  | 2, _ => exact enters_of Tryz.func69 (by kernel_rfl) rfl _ _
  | 3, _ => exact enters_of Tryz.func69 (by kernel_rfl) rfl _ _
  | 4, _ => exact enters_of Tryz.func69 (by kernel_rfl) rfl _ _
  | 5, _ => exact enters_of Tryz.func124 (by kernel_rfl) rfl _ _
theorem mkG (w : World) : Calls Tryz.prog 35 #[] w fun e w' => e = .returned (.agg #[.int .i64 2, .func (.func 66) #[] #[], .func (.func 67) #[] #[], .func (.func 68) #[] #[], .func (.func 69) #[] #[]]) ∧ Adds w w' := (mk_goroutine w).mono fun _ _ h => ⟨h.1, h.2.adds⟩
set_option maxRecDepth 100000 in
set_option maxHeartbeats 4000000 in
theorem holds_no_g (l : List Nat) (v : Value) (x : Ev) (hg : mayQ 0 x = false) (w : World) : Calls Tryz.prog 62 #[evV x, v] w fun e w' => e = .returned (.bool (holdsE l x)) ∧ Adds w w' := by
  have hr : holdsE l x = false := by unfold holdsE; rw [hg]; rfl
  rw [hr]
  clear hr
  obtain ⟨w1, hw1⟩ : ∃ w1, w.alloc (.cells (evC x).toArray 28) = w1 := ⟨_, rfl⟩
  have HA1 := Lib.hid (show Adds w w1 by rw [← hw1]; exact (Gr.new _ _).adds)
  have HB1 := Lib.hid (show BkS 28 w1 w.heap.size (evC x) by rw [← hw1]; exact BkS.new _ _ _)
  have HSz := Lib.hid (show w1.heap.size = w.heap.size + 1 by rw [← hw1]; simp)
  have HG := Lib.hid mkG
  have HM := Lib.hid (fun W => (may_goroutine x W).mono fun _ _ h => (⟨h.1, h.2.adds⟩ : _ ∧ Adds W _))
  rw [hg] at HM
  clear hg
  obtain ⟨g, k, f, p, a, c, o, n, t⟩ := x
  have HFl := Lib.hid (fun w' : World => (show (Instr.field 70 (.agg #[.int .i64 2, .func (.func 66) #[] #[], .func (.func 67) #[] #[], .func (.func 68) #[] #[], .func (.func 69) #[] #[]]) 3).run Tryz.prog w' = .ok (.func (.func 68) #[] #[]) w' by kernel_rfl))
  go_enter Tryz.func62, Tryz.ntmps62
  go_wp2_with fail
  obtain ⟨n1, hn1⟩ : ∃ n1, w.heap.size = n1 := ⟨_, rfl⟩
  rw [hn1] at HB1 ⊢
  clear hn1 hw1
  refine wp_region_loose [] (fun _ _ _ => True) Adds (by kernel_rfl) (by kernel_rfl) (by simp []) Adds.refl (fun _ _ _ h k => Adds.trans h k) (fun _ _ _ _ _ _ => trivial) ?_
  (repeat (refine wpL_step (fun K hK => ?_); first
  | (refine stepL_skip rfl rfl rfl ?_; go_simp; refine hK _ ?_; clear hK K)
  | (refine stepL_call (v := .agg #[.int .i64 2, .func (.func 66) #[] #[], .func (.func 67) #[] #[], .func (.func 68) #[] #[], .func (.func 69) #[] #[]]) (f := 35) (args := #[]) rfl rfl rfl ?_ (fun w' hw' => HG.out w') ?_; (· (intro w'; clear hK; go_simp)); go_simp; refine hK _ ?_; clear hK K)
  | (refine stepL_ex (v := .func (.func 68) #[] #[]) rfl rfl rfl Adds.refl ?_ ?_; (· (intro w' hw'; clear hK; have hf := HFl.out w'; go_simp)); go_simp; refine hK _ ?_; clear hK K)
  | (refine stepL_ex (v := .bool true) rfl rfl rfl Adds.refl ?_ ?_; (· (intro w' hw'; clear hK; skip; go_simp)); go_simp; refine hK _ ?_; clear hK K)
  | (refine stepL_ex (v := .bool false) rfl rfl rfl Adds.refl ?_ ?_; (· (intro w' hw'; clear hK; skip; go_simp)); go_simp; refine hK _ ?_; clear hK K)
  | (refine stepL_ex rfl rfl rfl Adds.refl (fun w' hw' => rfl) ?_; go_simp; refine hK _ ?_; clear hK K)
  | (refine stepL_ex (v := .agg #[.int .i64 g, .int .i64 k, .int .i64 f, .int .i64 p, .int .u32 a, .int .i64 c, .int .i64 o, .int .i64 n, .int .i64 t]) rfl rfl rfl Adds.refl ?_ ?_; (· (intro w' hw'; clear hK; have HBq := HB1.out.adds (Adds.trans (Adds.drew _) hw'); have c0 : w'.cell? ⟨n1, 0, none⟩ = some (.int .i64 g) := HBq.cell 0; have c1 : w'.cell? ⟨n1, 1, none⟩ = some (.int .i64 k) := HBq.cell 1; have c2 : w'.cell? ⟨n1, 2, none⟩ = some (.int .i64 f) := HBq.cell 2; have c3 : w'.cell? ⟨n1, 3, none⟩ = some (.int .i64 p) := HBq.cell 3; have c4 : w'.cell? ⟨n1, 4, none⟩ = some (.int .u32 a) := HBq.cell 4; have c5 : w'.cell? ⟨n1, 5, none⟩ = some (.int .i64 c) := HBq.cell 5; have c6 : w'.cell? ⟨n1, 6, none⟩ = some (.int .i64 o) := HBq.cell 6; have c7 : w'.cell? ⟨n1, 7, none⟩ = some (.int .i64 n) := HBq.cell 7; have c8 : w'.cell? ⟨n1, 8, none⟩ = some (.int .i64 t) := HBq.cell 8; go_simp)); go_simp; refine hK _ ?_; clear hK K)
  | (refine stepL_call (v := .bool false) (f := 68) (args := #[.agg #[.int .i64 g, .int .i64 k, .int .i64 f, .int .i64 p, .int .u32 a, .int .i64 c, .int .i64 o, .int .i64 n, .int .i64 t]]) rfl rfl rfl ?_ (fun w' hw' => HM.out w') ?_; (· (intro w'; clear hK; go_simp)); go_simp; refine hK _ ?_; clear hK K)
  | (refine stepL_ex (v := .pointer (some ⟨n1, 2, none⟩)) rfl rfl rfl Adds.refl ?_ ?_; (· (intro w' hw'; clear hK; have hl := (HB1.out.adds (Adds.trans (Adds.drew _) hw')).lt; go_simp)); go_simp; refine hK _ ?_; clear hK K)
  | (refine stepL_ex (v := .agg #[.int .i64 f, .int .i64 p]) rfl rfl rfl Adds.refl ?_ ?_; (· (intro w' hw'; clear hK; have HBq := HB1.out.adds (Adds.trans (Adds.drew _) hw'); have c2 : w'.cell? ⟨n1, 2, none⟩ = some (.int .i64 f) := HBq.cell 2; have c3 : w'.cell? ⟨n1, 3, none⟩ = some (.int .i64 p) := HBq.cell 3; go_simp)); go_simp; refine hK _ ?_; clear hK K)))
  refine wpL_nil ?_
  intro w7 a7
  simp only [forL]
  have A7 := Lib.hid (Adds.trans HA1.out (Adds.trans (Adds.drew _) a7))
  clear a7
  go_wp2
  go_ret
  exact ⟨rfl, A7.out⟩
set_option maxRecDepth 100000 in
set_option maxHeartbeats 4000000 in
theorem holds_no_s (l : List Nat) (v : Value) (x : Ev) (hg : mayQ 0 x = true) (hs : rightS (x.f, x.p) = false) (w : World) : Calls Tryz.prog 62 #[evV x, v] w fun e w' => e = .returned (.bool (holdsE l x)) ∧ Adds w w' := by
  have hr : holdsE l x = false := by unfold holdsE; rw [hg, hs]; rfl
  rw [hr]
  clear hr
  obtain ⟨w1, hw1⟩ : ∃ w1, w.alloc (.cells (evC x).toArray 28) = w1 := ⟨_, rfl⟩
  have HA1 := Lib.hid (show Adds w w1 by rw [← hw1]; exact (Gr.new _ _).adds)
  have HB1 := Lib.hid (show BkS 28 w1 w.heap.size (evC x) by rw [← hw1]; exact BkS.new _ _ _)
  have HSz := Lib.hid (show w1.heap.size = w.heap.size + 1 by rw [← hw1]; simp)
  have HG := Lib.hid mkG
  have HM := Lib.hid (fun W => (may_goroutine x W).mono fun _ _ h => (⟨h.1, h.2.adds⟩ : _ ∧ Adds W _))
  have HK := Lib.hid (fun W => (check_any (x.f, x.p) W).mono fun _ _ h => (⟨h.1, h.2.adds⟩ : _ ∧ Adds W _))
  rw [show chkE (x.f, x.p) = 2 by unfold chkE; rw [hs]; rfl] at HK
  clear hs
  rw [hg] at HM
  clear hg
  obtain ⟨g, k, f, p, a, c, o, n, t⟩ := x
  have HFl := Lib.hid (fun w' : World => (show (Instr.field 70 (.agg #[.int .i64 2, .func (.func 66) #[] #[], .func (.func 67) #[] #[], .func (.func 68) #[] #[], .func (.func 69) #[] #[]]) 3).run Tryz.prog w' = .ok (.func (.func 68) #[] #[]) w' by kernel_rfl))
  go_enter Tryz.func62, Tryz.ntmps62
  go_wp2_with fail
  obtain ⟨n1, hn1⟩ : ∃ n1, w.heap.size = n1 := ⟨_, rfl⟩
  rw [hn1] at HB1 ⊢
  clear hn1 hw1
  refine wp_region_loose [] (fun _ _ _ => True) Adds (by kernel_rfl) (by kernel_rfl) (by simp []) Adds.refl (fun _ _ _ h k => Adds.trans h k) (fun _ _ _ _ _ _ => trivial) ?_
  (repeat (refine wpL_step (fun K hK => ?_); first
  | (refine stepL_skip rfl rfl rfl ?_; go_simp; refine hK _ ?_; clear hK K)
  | (refine stepL_call (v := .agg #[.int .i64 2, .func (.func 66) #[] #[], .func (.func 67) #[] #[], .func (.func 68) #[] #[], .func (.func 69) #[] #[]]) (f := 35) (args := #[]) rfl rfl rfl ?_ (fun w' hw' => HG.out w') ?_; (· (intro w'; clear hK; go_simp)); go_simp; refine hK _ ?_; clear hK K)
  | (refine stepL_ex (v := .func (.func 68) #[] #[]) rfl rfl rfl Adds.refl ?_ ?_; (· (intro w' hw'; clear hK; have hf := HFl.out w'; go_simp)); go_simp; refine hK _ ?_; clear hK K)
  | (refine stepL_ex (v := .bool true) rfl rfl rfl Adds.refl ?_ ?_; (· (intro w' hw'; clear hK; skip; go_simp)); go_simp; refine hK _ ?_; clear hK K)
  | (refine stepL_ex (v := .bool false) rfl rfl rfl Adds.refl ?_ ?_; (· (intro w' hw'; clear hK; skip; go_simp)); go_simp; refine hK _ ?_; clear hK K)
  | (refine stepL_ex rfl rfl rfl Adds.refl (fun w' hw' => rfl) ?_; go_simp; refine hK _ ?_; clear hK K)
  | (refine stepL_ex (v := .agg #[.int .i64 g, .int .i64 k, .int .i64 f, .int .i64 p, .int .u32 a, .int .i64 c, .int .i64 o, .int .i64 n, .int .i64 t]) rfl rfl rfl Adds.refl ?_ ?_; (· (intro w' hw'; clear hK; have HBq := HB1.out.adds (Adds.trans (Adds.drew _) hw'); have c0 : w'.cell? ⟨n1, 0, none⟩ = some (.int .i64 g) := HBq.cell 0; have c1 : w'.cell? ⟨n1, 1, none⟩ = some (.int .i64 k) := HBq.cell 1; have c2 : w'.cell? ⟨n1, 2, none⟩ = some (.int .i64 f) := HBq.cell 2; have c3 : w'.cell? ⟨n1, 3, none⟩ = some (.int .i64 p) := HBq.cell 3; have c4 : w'.cell? ⟨n1, 4, none⟩ = some (.int .u32 a) := HBq.cell 4; have c5 : w'.cell? ⟨n1, 5, none⟩ = some (.int .i64 c) := HBq.cell 5; have c6 : w'.cell? ⟨n1, 6, none⟩ = some (.int .i64 o) := HBq.cell 6; have c7 : w'.cell? ⟨n1, 7, none⟩ = some (.int .i64 n) := HBq.cell 7; have c8 : w'.cell? ⟨n1, 8, none⟩ = some (.int .i64 t) := HBq.cell 8; go_simp)); go_simp; refine hK _ ?_; clear hK K)
  | (refine stepL_call (v := .bool true) (f := 68) (args := #[.agg #[.int .i64 g, .int .i64 k, .int .i64 f, .int .i64 p, .int .u32 a, .int .i64 c, .int .i64 o, .int .i64 n, .int .i64 t]]) rfl rfl rfl ?_ (fun w' hw' => HM.out w') ?_; (· (intro w'; clear hK; go_simp)); go_simp; refine hK _ ?_; clear hK K)
  | (refine stepL_ex (v := .pointer (some ⟨n1, 2, none⟩)) rfl rfl rfl Adds.refl ?_ ?_; (· (intro w' hw'; clear hK; have hl := (HB1.out.adds (Adds.trans (Adds.drew _) hw')).lt; go_simp)); go_simp; refine hK _ ?_; clear hK K)
  | (refine stepL_ex (v := .agg #[.int .i64 f, .int .i64 p]) rfl rfl rfl Adds.refl ?_ ?_; (· (intro w' hw'; clear hK; have HBq := HB1.out.adds (Adds.trans (Adds.drew _) hw'); have c2 : w'.cell? ⟨n1, 2, none⟩ = some (.int .i64 f) := HBq.cell 2; have c3 : w'.cell? ⟨n1, 3, none⟩ = some (.int .i64 p) := HBq.cell 3; go_simp)); go_simp; refine hK _ ?_; clear hK K)
  | (refine stepL_call (v := .int .i64 2) (f := 63) (args := #[.agg #[.int .i64 f, .int .i64 p]]) rfl rfl rfl ?_ (fun w' hw' => HK.out w') ?_; (· (intro w'; clear hK; go_simp)); go_simp; refine hK _ ?_; clear hK K)))
  refine wpL_nil ?_
  intro w7 a7
  simp only [forL]
  have A7 := Lib.hid (Adds.trans HA1.out (Adds.trans (Adds.drew _) a7))
  clear a7
  go_wp2
  go_ret
  exact ⟨rfl, A7.out⟩
end Go.Proofs.YtbinmgpfkjmijaaGreatDoor
