/- Pages that are the same; memories that are the same: their contracts. -/
import Derived.DeepKeys
import Derived.Shelf.SlicesQ.Load
import Derived.Sort.QuietIn
import Derived.Test.YtleihmmkonakhaaDoorMK4
namespace Go.Proofs.YtleihmmkonakhaaDoor
open Go Go.RowKit Go.Shelf Go.Maps

def wordsA (f : Nat → Nat) : Array Value := ((List.range 4096).map fun i => u32V (f i)).toArray
theorem part_u32 (xs : Array Value) (i x : Nat) (h : xs[i]? = some (u32V x)) (w : World) : (part 29 xs i).run Tryd.prog w = .ok (u32V x) w := by
  simp [part, isAgg, run_underlying Tryd.underlying29, h, Result.andThen]
theorem eqItems_u32 (d : Nat) (xs ys : Array Value) (f g : Nat → Nat) (w : World) : ∀ is : List Nat, (∀ i ∈ is, xs[i]? = some (u32V (f i)) ∧ ys[i]? = some (u32V (g i))) →
    (Op.eqItems (d + 1) 29 1 xs ys is).run Tryd.prog w = .ok (is.all fun i => decide (f i = g i)) w
  | [], _ => by simp [Op.eqItems]
  | i :: is, h => by
    obtain ⟨h1, h2⟩ := h i (by simp)
    have p1 := part_u32 xs i (f i) h1 w
    have p2 := part_u32 ys i (g i) h2 w
    have p3 : (Op.equalIn (d + 1) 29 (u32V (f i)) (u32V (g i))).run Tryd.prog w = .ok (decide (f i = g i)) w := by
      have h3 := run_equalIn_int (P := Tryd.prog) w d 29 .u32 .u32 ((f i : Nat) : Int) ((g i : Nat) : Int) Tryd.underlying29
      have h4 : (((f i : Nat) : Int) == ((g i : Nat) : Int)) = decide (f i = g i) := by
        by_cases e : f i = g i
        · simp [e]
        · have h5 : ¬ ((f i : Nat) : Int) = ((g i : Nat) : Int) := by omega
          rw [decide_eq_false e]
          exact beq_eq_false_iff_ne.2 h5
      rw [h4] at h3
      exact h3
    have ih := eqItems_u32 d xs ys f g w is (fun j hj => h j (by simp [hj]))
    simp only [Op.eqItems, Nat.mul_one, Sem.run_bind, p1, p2, p3, Result.andThen_ok, List.all_cons]
    by_cases e : f i = g i
    · simp [e, ih]
    · simp [e]
def sameF (f g : Nat → Nat) : Bool := (List.range 4096).all fun i => decide (f i = g i)
theorem sameF_iff (f g : Nat → Nat) : sameF f g = true ↔ ∀ i, i < 4096 → f i = g i := by
  unfold sameF
  rw [List.all_eq_true]
  simp
theorem wordsA_at (f : Nat → Nat) (i : Nat) (h : i < 4096) : (wordsA f)[i]? = some (u32V (f i)) := by
  unfold wordsA
  simp [h]
theorem eql_words (f g : Nat → Nat) (w : World) : (binOp .eql 74 (.agg (wordsA f)) (.agg (wordsA g))).run Tryd.prog w = .ok (.bool (sameF f g)) w := by
  obtain ⟨i0, hi⟩ := info_of_underlying (P := Tryd.prog) Tryd.underlying29
  have hc : Tryd.prog.cellsOf 29 = 1 := by kernel_rfl
  rw [run_eql_struct w, run_equalIn_array w 9999 (wordsA f) (wordsA g) Tryd.underlying74 hi, hc,
    eqItems_u32 9998 (wordsA f) (wordsA g) f g w (List.range 4096) (fun i hi => ⟨wordsA_at f i (by simpa using hi), wordsA_at g i (by simpa using hi)⟩)]
  rfl
theorem words_list (f : Nat → Nat) (n : Nat) : ((List.range n).map fun i => u32V (f i)).length = n := by simp
theorem load_words {w : World} {c : Nat} {f : Nat → Nat} {n : Nat} (h : PBlk w c f n) : (loadCellsFrom ⟨c, 0, none⟩ 0 4096 #[]).run Tryd.prog w = .ok (wordsA f) w := by
  refine run_loadCellsFrom_list Tryd.prog w ⟨c, 0, none⟩ ((List.range 4096).map fun i => u32V (f i)) 4096 (words_list f 4096) fun j v hj => ?_
  have hlt : j < 4096 := by
    have := (List.getElem?_eq_some_iff.1 hj).1
    rwa [words_list] at this
  have e : (⟨c, 0, none⟩ : Addr).add j = ⟨c, j, none⟩ := by unfold Addr.add; split <;> simp_all
  rw [e, h.cell j hlt]
  simpa [hlt, u32V] using hj

theorem loadVar_words {w : World} {c : Nat} {f : Nat → Nat} {n : Nat} (h : PBlk w c f n) : (loadVar 74 ⟨c, 0, none⟩).run Tryd.prog w = .ok (.agg (wordsA f)) w := by
  have hagg : (isAgg 74).run Tryd.prog w = .ok true w := by
    unfold isAgg
    rw [Sem.run_bind, run_underlying Tryd.underlying74 w]
    rfl
  have hl := load_words h
  cases hq : Tryd.prog.info? 74 with
  | none => have := info_words; rw [hq] at this; cases this
  | some i =>
    have hs : i.size = 4096 := by have := info_words; rw [hq] at this; simpa using this
    simp [loadVar, Sem.run_bind, hagg, sizeOf, typeInfo, hq, hs, loadCells, hl]
theorem exec_load_agg {P : Program} {o : Oper} {ev : Operand → Value} {w : World} (t : TypeId) (x : Operand) (ho : o.op = .load t x) (a : Addr) (A : Array Value) (hx : ev x = .pointer (some a)) (hl : (loadVar t a).run P w = .ok (.agg A) w) :
    (execOp ev o).run P w = .ok (.value (.agg A)) w := by
  unfold execOp
  simp only [ho, hx, Instr.loadAt, Instr.sureAddr, Sem.run_bind, Sem.run_pure, Result.andThen_ok, hl]
theorem exec_eql_agg {P : Program} {o : Oper} {ev : Operand → Value} {w : World} (t : TypeId) (x y : Operand) (u : TypeId) (ho : o.op = .binOp .eql t x y u) (A B : Array Value) (r : Bool) (hm : P.eqGuardType P.depth t = false)
    (he : (binOp .eql t (.agg A) (.agg B)).run P w = .ok (.bool r) w) (hx : ev x = .agg A) (hy : ev y = .agg B) : (execOp ev o).run P w = .ok (.value (.bool r)) w := by
  have hg := run_eqGuard_agg (P := P) w .eql t x y A B hm
  simp [execOp, ho, hx, hy, he, hg, Result.andThen]
theorem guard_words : Tryd.prog.eqGuardType Tryd.prog.depth 74 = false := by kernel_rfl

set_option maxRecDepth 100000 in
set_option maxHeartbeats 2000000 in
theorem same_any (c d : Nat) (f g : Nat → Nat) (n m : Nat) (w : World) (h1 : PBlk w c f n) (h2 : PBlk w d g m) :
    Calls Tryd.prog 31 #[.pointer (some ⟨c, 0, none⟩), .pointer (some ⟨d, 0, none⟩)] w fun e w' => e = .returned (.bool (sameF f g)) ∧ Adds w w' := by
  have L1 := Lib.hid (fun (W : World) (hW : W.heap = w.heap) => loadVar_words (w := W) (c := c) (f := f) (n := n) (h1.same (by rw [hW])))
  have L2 := Lib.hid (fun (W : World) (hW : W.heap = w.heap) => loadVar_words (w := W) (c := d) (f := g) (n := m) (h2.same (by rw [hW])))
  have HE := Lib.hid (eql_words f g)
  obtain ⟨A, hA⟩ : ∃ A, wordsA f = A := ⟨_, rfl⟩
  obtain ⟨B, hB⟩ : ∃ B, wordsA g = B := ⟨_, rfl⟩
  obtain ⟨r, hr⟩ : ∃ r, sameF f g = r := ⟨_, rfl⟩
  rw [hA] at L1 HE
  rw [hB] at L2 HE
  rw [hr] at HE ⊢
  clear h1 h2 hA hB hr
  go_enter Tryd.func31, Tryd.ntmps31
  go_wp2_with fail
  refine wp_region_loose [] (fun _ _ _ => True) (fun a b => b.heap = a.heap ∧ Adds a b) (by kernel_rfl) (by kernel_rfl) (by simp) (fun w => ⟨rfl, Adds.refl w⟩) (fun _ _ _ h k => ⟨k.1.trans h.1, h.2.trans k.2⟩) (fun _ _ _ _ _ _ => trivial) ?_
  repeat (refine wpL_step (fun K hK => ?_); first
    | (refine stepL_ex (v := .agg A) rfl rfl rfl (fun w => ⟨rfl, Adds.refl w⟩) (fun w' hw' => exec_load_agg _ _ rfl ⟨c, 0, none⟩ A rfl (L1.out w' hw'.1)) ?_; go_simp; refine hK _ ?_; clear hK K)
    | (refine stepL_ex (v := .agg B) rfl rfl rfl (fun w => ⟨rfl, Adds.refl w⟩) (fun w' hw' => exec_load_agg _ _ rfl ⟨d, 0, none⟩ B rfl (L2.out w' hw'.1)) ?_; go_simp; refine hK _ ?_; clear hK K)
    | (refine stepL_ex (v := .bool r) rfl rfl rfl (fun w => ⟨rfl, Adds.refl w⟩) (fun w' hw' => exec_eql_agg _ _ _ _ rfl A B r guard_words (HE.out _) rfl rfl) ?_; go_simp; refine hK _ ?_; clear hK K)
    | (refine stepL_ex rfl rfl rfl (fun w => ⟨rfl, Adds.refl w⟩) (fun w' hw' => rfl) ?_; go_simp; refine hK _ ?_; clear hK K))
  refine wpL_nil ?_
  intro w10 a10
  simp only [forL]
  have A10 := Lib.hid ((Adds.drew w).trans a10.2); clear a10
  go_wp2_with fail
  go_ret
  exact ⟨rfl, A10.out⟩
end Go.Proofs.YtleihmmkonakhaaDoor
