/- Merged: IF4. -/
import Derived.Test.YtdkgehhlikaocaaGreatY1
namespace Go.Proofs.YtdkgehhlikaocaaGreat
open Go Go.RowKit Go.Shelf Go.Lib

set_option maxRecDepth 100000 in
theorem named_any (s : Sh) (g : Nat) (w : World) (h : BkS 174 w g (flatI (all4 s))) :
    Calls Tryz.prog 142 #[.slice (some ⟨g, 0, none⟩) 4 4] w fun e w' => e = .returned (.slice (some ⟨g, 0, none⟩) (partsOf s).length 4) ∧ RowP w' g (partsOf s) ∧ TnS g w w' := by
  have HD := Lib.hid (deleteF_any s g w h)
  clear h
  generalize partsOf s = ps at HD ⊢
  go_enter Tryz.func142, Tryz.ntmps142
  go_wp2_with (go_at_call 151; refine HD.out.mono ?_; rintro e w2 ⟨rfl, h1, h2⟩; have H := Lib.hid (And.intro h1 h2); clear h1 h2)
  go_ret
  exact ⟨rfl, H.out.1, H.out.2⟩
def PartsPost (s : Sh) (w : World) (e : Ending) (w' : World) : Prop := ∃ g, e = .returned (.slice (some ⟨g, 0, none⟩) (partsOf s).length 4) ∧ w.heap.size ≤ g ∧ RowP w' g (partsOf s) ∧ Adds w w'
set_option maxRecDepth 100000 in
set_option maxHeartbeats 2000000 in
theorem parts_0 (a : Nat) (w : World) : Calls Tryz.prog 119 #[shapeV (a + 1, 0, 0, 0)] w (PartsPost (a + 1, 0, 0, 0) w) := by
  have HN := fun (W : World) (k : Nat) (hk : k = W.heap.size) => named_any (a + 1, 0, 0, 0) k (W.alloc (.cells (flatI (all4 (a + 1, 0, 0, 0))).toArray 174)) (hk ▸ BkS.new _ _ _)
  unfold PartsPost
  generalize partsOf (a + 1, 0, 0, 0) = ps at HN ⊢
  simp only [flatI, all4, List.flatMap_cons, List.flatMap_nil, List.cons_append, List.nil_append, List.append_nil, ptC, widN, getF, putF, slotV, fnV] at HN
  simp only [shapeV, slotV, fnV]
  generalize isF a = fa at HN ⊢
  have HNN := Lib.hid HN
  clear HN
  go_enter Tryz.func119, Tryz.ntmps119
  go_wp2_with (go_at_call 142; refine (HNN.out _ _ (by simp)).mono ?_; rintro e w2 ⟨rfl, h1, h2⟩; have H := Lib.hid (And.intro h1 h2); clear h1 h2)
  go_ret
  exact ⟨w.heap.size + 1, by simp, by omega, by simpa using H.out.1, TnS.own ((Gr.new w _).alloc _).adds (by simp) H.out.2⟩
set_option maxRecDepth 100000 in
set_option maxHeartbeats 2000000 in
theorem parts_1 (a b : Nat) (w : World) : Calls Tryz.prog 119 #[shapeV (a + 1, b + 1, 0, 0)] w (PartsPost (a + 1, b + 1, 0, 0) w) := by
  have HN := fun (W : World) (k : Nat) (hk : k = W.heap.size) => named_any (a + 1, b + 1, 0, 0) k (W.alloc (.cells (flatI (all4 (a + 1, b + 1, 0, 0))).toArray 174)) (hk ▸ BkS.new _ _ _)
  unfold PartsPost
  generalize partsOf (a + 1, b + 1, 0, 0) = ps at HN ⊢
  simp only [flatI, all4, List.flatMap_cons, List.flatMap_nil, List.cons_append, List.nil_append, List.append_nil, ptC, widN, getF, putF, slotV, fnV] at HN
  simp only [shapeV, slotV, fnV]
  generalize isF a = fa at HN ⊢
  generalize isF b = fb at HN ⊢
  have HNN := Lib.hid HN
  clear HN
  go_enter Tryz.func119, Tryz.ntmps119
  go_wp2_with (go_at_call 142; refine (HNN.out _ _ (by simp)).mono ?_; rintro e w2 ⟨rfl, h1, h2⟩; have H := Lib.hid (And.intro h1 h2); clear h1 h2)
  go_ret
  exact ⟨w.heap.size + 1, by simp, by omega, by simpa using H.out.1, TnS.own ((Gr.new w _).alloc _).adds (by simp) H.out.2⟩
set_option maxRecDepth 100000 in
set_option maxHeartbeats 2000000 in
theorem parts_2 (a d : Nat) (w : World) : Calls Tryz.prog 119 #[shapeV (a + 1, 0, 0, d + 1)] w (PartsPost (a + 1, 0, 0, d + 1) w) := by
  have HN := fun (W : World) (k : Nat) (hk : k = W.heap.size) => named_any (a + 1, 0, 0, d + 1) k (W.alloc (.cells (flatI (all4 (a + 1, 0, 0, d + 1))).toArray 174)) (hk ▸ BkS.new _ _ _)
  unfold PartsPost
  generalize partsOf (a + 1, 0, 0, d + 1) = ps at HN ⊢
  simp only [flatI, all4, List.flatMap_cons, List.flatMap_nil, List.cons_append, List.nil_append, List.append_nil, ptC, widN, getF, putF, slotV, fnV] at HN
  simp only [shapeV, slotV, fnV]
  generalize isF a = fa at HN ⊢
  generalize isF d = fd at HN ⊢
  have HNN := Lib.hid HN
  clear HN
  go_enter Tryz.func119, Tryz.ntmps119
  go_wp2_with (go_at_call 142; refine (HNN.out _ _ (by simp)).mono ?_; rintro e w2 ⟨rfl, h1, h2⟩; have H := Lib.hid (And.intro h1 h2); clear h1 h2)
  go_ret
  exact ⟨w.heap.size + 1, by simp, by omega, by simpa using H.out.1, TnS.own ((Gr.new w _).alloc _).adds (by simp) H.out.2⟩
set_option maxRecDepth 100000 in
set_option maxHeartbeats 2000000 in
theorem parts_3 (a b c d : Nat) (w : World) : Calls Tryz.prog 119 #[shapeV (a + 1, b + 1, c + 1, d + 1)] w (PartsPost (a + 1, b + 1, c + 1, d + 1) w) := by
  have HN := fun (W : World) (k : Nat) (hk : k = W.heap.size) => named_any (a + 1, b + 1, c + 1, d + 1) k (W.alloc (.cells (flatI (all4 (a + 1, b + 1, c + 1, d + 1))).toArray 174)) (hk ▸ BkS.new _ _ _)
  unfold PartsPost
  generalize partsOf (a + 1, b + 1, c + 1, d + 1) = ps at HN ⊢
  simp only [flatI, all4, List.flatMap_cons, List.flatMap_nil, List.cons_append, List.nil_append, List.append_nil, ptC, widN, getF, putF, slotV, fnV] at HN
  simp only [shapeV, slotV, fnV]
  generalize isF a = fa at HN ⊢
  generalize isF b = fb at HN ⊢
  generalize isF c = fc at HN ⊢
  generalize isF d = fd at HN ⊢
  have HNN := Lib.hid HN
  clear HN
  go_enter Tryz.func119, Tryz.ntmps119
  go_wp2_with (go_at_call 142; refine (HNN.out _ _ (by simp)).mono ?_; rintro e w2 ⟨rfl, h1, h2⟩; have H := Lib.hid (And.intro h1 h2); clear h1 h2)
  go_ret
  exact ⟨w.heap.size + 1, by simp, by omega, by simpa using H.out.1, TnS.own ((Gr.new w _).alloc _).adds (by simp) H.out.2⟩
set_option maxRecDepth 100000 in
set_option maxHeartbeats 2000000 in
theorem parts_4 (d : Nat) (w : World) : Calls Tryz.prog 119 #[shapeV (0, 0, 0, d + 1)] w (PartsPost (0, 0, 0, d + 1) w) := by
  have HN := fun (W : World) (k : Nat) (hk : k = W.heap.size) => named_any (0, 0, 0, d + 1) k (W.alloc (.cells (flatI (all4 (0, 0, 0, d + 1))).toArray 174)) (hk ▸ BkS.new _ _ _)
  unfold PartsPost
  generalize partsOf (0, 0, 0, d + 1) = ps at HN ⊢
  simp only [flatI, all4, List.flatMap_cons, List.flatMap_nil, List.cons_append, List.nil_append, List.append_nil, ptC, widN, getF, putF, slotV, fnV] at HN
  simp only [shapeV, slotV, fnV]
  generalize isF d = fd at HN ⊢
  have HNN := Lib.hid HN
  clear HN
  go_enter Tryz.func119, Tryz.ntmps119
  go_wp2_with (go_at_call 142; refine (HNN.out _ _ (by simp)).mono ?_; rintro e w2 ⟨rfl, h1, h2⟩; have H := Lib.hid (And.intro h1 h2); clear h1 h2)
  go_ret
  exact ⟨w.heap.size + 1, by simp, by omega, by simpa using H.out.1, TnS.own ((Gr.new w _).alloc _).adds (by simp) H.out.2⟩
set_option maxRecDepth 100000 in
set_option maxHeartbeats 2000000 in
theorem parts_5 (b c d : Nat) (w : World) : Calls Tryz.prog 119 #[shapeV (0, b + 1, c + 1, d + 1)] w (PartsPost (0, b + 1, c + 1, d + 1) w) := by
  have HN := fun (W : World) (k : Nat) (hk : k = W.heap.size) => named_any (0, b + 1, c + 1, d + 1) k (W.alloc (.cells (flatI (all4 (0, b + 1, c + 1, d + 1))).toArray 174)) (hk ▸ BkS.new _ _ _)
  unfold PartsPost
  generalize partsOf (0, b + 1, c + 1, d + 1) = ps at HN ⊢
  simp only [flatI, all4, List.flatMap_cons, List.flatMap_nil, List.cons_append, List.nil_append, List.append_nil, ptC, widN, getF, putF, slotV, fnV] at HN
  simp only [shapeV, slotV, fnV]
  generalize isF b = fb at HN ⊢
  generalize isF c = fc at HN ⊢
  generalize isF d = fd at HN ⊢
  have HNN := Lib.hid HN
  clear HN
  go_enter Tryz.func119, Tryz.ntmps119
  go_wp2_with (go_at_call 142; refine (HNN.out _ _ (by simp)).mono ?_; rintro e w2 ⟨rfl, h1, h2⟩; have H := Lib.hid (And.intro h1 h2); clear h1 h2)
  go_ret
  exact ⟨w.heap.size + 1, by simp, by omega, by simpa using H.out.1, TnS.own ((Gr.new w _).alloc _).adds (by simp) H.out.2⟩
set_option maxRecDepth 100000 in
set_option maxHeartbeats 2000000 in
theorem parts_6 (w : World) : Calls Tryz.prog 119 #[shapeV (0, 0, 0, 0)] w (PartsPost (0, 0, 0, 0) w) := by
  have HN := fun (W : World) (k : Nat) (hk : k = W.heap.size) => named_any (0, 0, 0, 0) k (W.alloc (.cells (flatI (all4 (0, 0, 0, 0))).toArray 174)) (hk ▸ BkS.new _ _ _)
  unfold PartsPost
  generalize partsOf (0, 0, 0, 0) = ps at HN ⊢
  simp only [flatI, all4, List.flatMap_cons, List.flatMap_nil, List.cons_append, List.nil_append, List.append_nil, ptC, widN, getF, putF, slotV, fnV] at HN
  simp only [shapeV, slotV]
  have HNN := Lib.hid HN
  clear HN
  go_enter Tryz.func119, Tryz.ntmps119
  go_wp2_with (go_at_call 142; refine (HNN.out _ _ (by simp)).mono ?_; rintro e w2 ⟨rfl, h1, h2⟩; have H := Lib.hid (And.intro h1 h2); clear h1 h2)
  go_ret
  exact ⟨w.heap.size + 1, by simp, by omega, by simpa using H.out.1, TnS.own ((Gr.new w _).alloc _).adds (by simp) H.out.2⟩
theorem parts_op (k : Nat) (h1 : 1 ≤ k) (h2 : k ≤ 19) (w : World) : Calls Tryz.prog 119 #[shapeV (shOf k)] w (PartsPost (shOf k) w) := by
  match k, h1, h2 with
  | 1, _, _ => exact parts_2 0 2 w
  | 2, _, _ => exact parts_1 0 0 w
  | 3, _, _ => exact parts_3 0 0 0 3 w
  | 4, _, _ => exact parts_4 4 w
  | 5, _, _ => exact parts_2 0 4 w
  | 6, _, _ => exact parts_1 0 0 w
  | 7, _, _ => exact parts_1 0 0 w
  | 8, _, _ => exact parts_3 0 0 1 5 w
  | 9, _, _ => exact parts_0 0 w
  | 10, _, _ => exact parts_5 0 1 5 w
  | 11, _, _ => exact parts_0 0 w
  | 12, _, _ => exact parts_0 0 w
  | 13, _, _ => exact parts_0 0 w
  | 14, _, _ => exact parts_0 0 w
  | 15, _, _ => exact parts_0 0 w
  | 16, _, _ => exact parts_0 0 w
  | 17, _, _ => exact parts_1 0 0 w
  | 18, _, _ => exact parts_0 0 w
  | 19, _, _ => exact parts_6 w
  | k + 20, _, h => exact absurd h (by omega)
/-- The parts of an Op, as the program has them. -/
def ptN (k : Nat) : List Pt := (partsN k).map fun p => (p.2 + 1, p.1)
theorem partsOf_op (k : Nat) (h1 : 1 ≤ k) (h2 : k ≤ 19) : partsOf (shOf k) = ptN k := by
  match k, h1, h2 with
  | 1, _, _ => rfl
  | 2, _, _ => rfl
  | 3, _, _ => rfl
  | 4, _, _ => rfl
  | 5, _, _ => rfl
  | 6, _, _ => rfl
  | 7, _, _ => rfl
  | 8, _, _ => rfl
  | 9, _, _ => rfl
  | 10, _, _ => rfl
  | 11, _, _ => rfl
  | 12, _, _ => rfl
  | 13, _, _ => rfl
  | 14, _, _ => rfl
  | 15, _, _ => rfl
  | 16, _, _ => rfl
  | 17, _, _ => rfl
  | 18, _, _ => rfl
  | 19, _, _ => rfl
  | k + 20, _, h => exact absurd h (by omega)
end Go.Proofs.YtdkgehhlikaocaaGreat
