/- Counts compared; loaded whole. -/
import Derived.Laws.StructEq
import Derived.ChangeKeysEq
import Derived.Deep.MidRow
import Derived.Test.YtedllkahalfjgaaYF1
namespace Go.Proofs.Ytedllkahalfjgaa
open Go Go.RowKit
attribute [local go_sem] Oper.semAt_some

theorem cN64 : Try.prog.cellsOf 2 = 1 := by kernel_rfl
theorem eqItems_ints (d : Nat) (w : World) (xs ys : List Int) : ∀ is : List Nat, (∀ i ∈ is, i < xs.length ∧ i < ys.length) →
    (Op.eqItems (d + 1) 2 1 (xs.map intQ).toArray (ys.map intQ).toArray is).run Try.prog w = .ok (is.all fun i => xs.getD i 0 == ys.getD i 0) w
  | [], _ => by simp [Op.eqItems]
  | i :: is, h => by
    obtain ⟨h1, h2⟩ := h i (by simp)
    have ih := eqItems_ints d w xs ys is (fun j hj => h j (by simp [hj]))
    have u := Try.underlying2
    have px : (part 2 (xs.map intQ).toArray (i * 1)).run Try.prog w = .ok (intQ (xs.getD i 0)) w := by
      simp [part, isAgg, run_underlying u, List.getD_eq_getElem?_getD, h1]
    have py : (part 2 (ys.map intQ).toArray (i * 1)).run Try.prog w = .ok (intQ (ys.getD i 0)) w := by
      simp [part, isAgg, run_underlying u, List.getD_eq_getElem?_getD, h2]
    have pe : (Op.equalIn (d + 1) 2 (intQ (xs.getD i 0)) (intQ (ys.getD i 0))).run Try.prog w = .ok (xs.getD i 0 == ys.getD i 0) w := run_equalIn_int w d 2 .i64 .i64 _ _ u
    simp only [Op.eqItems, Sem.run_bind, px, py, pe, Result.andThen_ok, List.all_cons]
    cases hb : (xs.getD i 0 == ys.getD i 0)
    · simp
    · simpa using ih
set_option maxRecDepth 100000 in
theorem equalIn_arr (d : Nat) (w : World) (xs ys : List Int) (hx : xs.length = 64) (hy : ys.length = 64) :
    (Op.equalIn (d + 2) 113 (.agg (xs.map intQ).toArray) (.agg (ys.map intQ).toArray)).run Try.prog w = .ok (decide (xs = ys)) w := by
  obtain ⟨i0, hi, _⟩ := info_parts (show (Try.prog.info? 2).map (fun i => (i.zero, i.size, i.bytes)) = some (some (.int .i64 0), 1, 8) by kernel_rfl)
  rw [run_equalIn_array w (d + 1) (e := 2) (n := 64) _ _ (by kernel_rfl) hi, cN64, eqItems_ints d w xs ys _ (fun i hi => by simp at hi; omega)]
  congr 1
  rw [Bool.eq_iff_iff]
  simp only [List.all_eq_true, List.mem_range, beq_iff_eq, decide_eq_true_eq]
  constructor
  · intro h
    apply List.ext_getElem (by omega)
    intro i h1 h2
    have := h i (by omega)
    simpa [List.getD_eq_getElem?_getD, h1, h2] using this
  · rintro rfl i _
    rfl
def eqQ (l l' : List Int) : Bool := decide (l = l')
set_option maxRecDepth 100000 in
theorem equalIn_cnt (n : Nat) (w : World) (l l' : List Int) (h : l.length ≤ 64) (h' : l'.length ≤ 64) :
    (Op.equalIn (n + 3) 115 (.agg (cntC l).toArray) (.agg (cntC l').toArray)).run Try.prog w = .ok (decide (l = l')) w := by
  have hS : Try.prog.underlying 115 = some (.struct (Try.prog.fieldsOf 115)) := by kernel_rfl
  have hp : Try.prog.stoodInHeld 115 = false := by kernel_rfl
  rw [show n + 3 = (n + 2) + 1 from rfl, run_equalIn_agg w (n + 2) 115 _ _ hS hp]
  simp only [Program.fieldsOf, Try.underlying115]
  go_simp
  have e1 : ∀ {x : List Int}, x.length ≤ 64 → (cntC x).take 64 = ((x ++ List.replicate (64 - x.length) 0).map intQ) := fun {x} hx => by
    unfold cntC
    rw [List.take_append_of_le_length (by rw [arrQ_len hx]; omega), List.take_of_length_le (by rw [arrQ_len hx]; omega)]
    rfl
  rw [e1 h, e1 h', equalIn_arr n w _ _ (by simp; omega) (by simp; omega), cntC_many h, cntC_many h']
  simp only [Result.andThen_ok]
  by_cases he : l = l'
  · subst he
    simp
    rw [run_equalIn_int w (n + 1) 3 .i64 .i64 _ _ Try.underlying3]
    simp
  · rw [decide_eq_false he]
    by_cases h2 : l ++ List.replicate (64 - l.length) 0 = l' ++ List.replicate (64 - l'.length) 0
    · have h3 : ¬ (l.length : Int) = (l'.length : Int) := fun h3 => he (List.append_inj_left h2 (by omega))
      rw [decide_eq_true h2]
      simp
      rw [run_equalIn_int w (n + 1) 3 .i64 .i64 _ _ Try.underlying3]
      simp [h3]
    · rw [decide_eq_false h2]
      simp
theorem cnt_eql (l l' : List Int) (w : World) (h : l.length ≤ 64) (h' : l'.length ≤ 64) : (binOp .eql 115 (.agg (cntC l).toArray) (.agg (cntC l').toArray)).run Try.prog w = .ok (.bool (decide (l = l'))) w := by
  rw [run_eql_struct, show (10000 : Nat) = 9997 + 3 from rfl, equalIn_cnt 9997 w l l' h h']
  rfl
theorem load_cnt {w : World} {b : Nat} {l : List Int} (h : BkS 115 w b (cntC l)) (hl : l.length ≤ 64) : (loadVar 115 ⟨b, 0, none⟩).run Try.prog w = .ok (.agg (cntC l).toArray) w :=
  run_loadVar_row (P := Try.prog) w b 115 115 _ (0, 0) _ h Try.underlying115 rfl (by rw [List.size_toArray, cntC_len hl]; kernel_rfl)
end Go.Proofs.Ytedllkahalfjgaa
