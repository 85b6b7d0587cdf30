/- Events compared. -/
import Derived.Laws.StructEq
import Derived.Test.YtbinmgpfkjmijaaGreatDoorEvF1
namespace Go.Proofs.YtbinmgpfkjmijaaGreatDoor
open Go Go.RowKit Go.Shelf
attribute [local go_sem] Oper.semAt_some

theorem run_eql_struct16 {P : Program} (t : TypeId) (x y : Array Value) (w : World) : (binOp .eql t (.agg x) (.agg y)).run P w = ((Op.equalIn 10000 t (.agg x) (.agg y)).run P w).andThen fun b w' => .ok (.bool b) w' := by
  simp [binOp, Op.equal, Op.maxDepth]
theorem run_neq_struct16 {P : Program} (t : TypeId) (x y : Array Value) (w : World) : (binOp .neq t (.agg x) (.agg y)).run P w = ((Op.equalIn 10000 t (.agg x) (.agg y)).run P w).andThen fun b w' => .ok (.bool (!b)) w' := by
  simp [binOp, Op.equal, Op.maxDepth]
theorem site_eqIn (n : Nat) (x y x' y' : Int) (w : World) : (Op.equalIn (n + 2) 24 (.agg #[.int .i64 x, .int .i64 y]) (.agg #[.int .i64 x', .int .i64 y'])).run Tryz.prog w = .ok (decide (x = x') && decide (y = y')) w := by
  have u3 := Tryz.underlying3
  have a3 := Tryz.isAgg3
  have z3 := Tryz.sizeOf3
  have hS : Tryz.prog.underlying 24 = some (.struct (Tryz.prog.fieldsOf 24)) := by kernel_rfl
  have hp : Tryz.prog.stoodInHeld 24 = false := by kernel_rfl
  rw [show n + 2 = (n + 1) + 1 from rfl, run_equalIn_agg w (n + 1) 24 _ _ hS hp]
  simp only [Program.fieldsOf, Tryz.underlying24]
  go_simp
  by_cases h1 : x = x' <;> by_cases h2 : y = y' <;> simp [h1, h2]
set_option maxRecDepth 100000 in
theorem ev_eqIn (n : Nat) (x y : Ev) (w : World) : (Op.equalIn (n + 3) 28 (evV x) (evV y)).run Tryz.prog w = .ok (eqE x y) w := by
  obtain ⟨g, k, f, p, a, c, o, m, t⟩ := x
  obtain ⟨g', k', f', p', a', c', o', m', t'⟩ := y
  have u3 := Tryz.underlying3
  have a3 := Tryz.isAgg3
  have z3 := Tryz.sizeOf3
  have u4 := Tryz.underlying22
  have a4 := Tryz.isAgg22
  have z4 := Tryz.sizeOf22
  have u5 := Tryz.underlying25
  have a5 := Tryz.isAgg25
  have z5 := Tryz.sizeOf25
  have u6 := Tryz.underlying2
  have a6 := Tryz.isAgg2
  have z6 := Tryz.sizeOf2
  have u7 := Tryz.underlying26
  have a7 := Tryz.isAgg26
  have z7 := Tryz.sizeOf26
  have a8 := Tryz.isAgg24
  have z8 := Tryz.sizeOf24
  have hsi := site_eqIn n f p f' p'
  have hS : Tryz.prog.underlying 28 = some (.struct (Tryz.prog.fieldsOf 28)) := by kernel_rfl
  have hp : Tryz.prog.stoodInHeld 28 = false := by kernel_rfl
  rw [show n + 3 = (n + 2) + 1 from rfl, run_equalIn_agg w (n + 2) 28 _ _ hS hp]
  simp only [Program.fieldsOf, Tryz.underlying28]
  go_simp
  unfold eqE
  by_cases h0 : ¬ g = g'
  · simp [h0]
  have h0 := Decidable.not_not.1 h0
  subst h0
  by_cases h1 : ¬ k = k'
  · simp [h1]
  have h1 := Decidable.not_not.1 h1
  subst h1
  by_cases h2 : ¬ f = f'
  · simp [h2]
  have h2 := Decidable.not_not.1 h2
  subst h2
  by_cases h3 : ¬ p = p'
  · simp [h3]
  have h3 := Decidable.not_not.1 h3
  subst h3
  by_cases h4 : ¬ a = a'
  · simp [h4]
  have h4 := Decidable.not_not.1 h4
  subst h4
  by_cases h5 : ¬ c = c'
  · simp [h5]
  have h5 := Decidable.not_not.1 h5
  subst h5
  by_cases h6 : ¬ o = o'
  · simp [h6]
  have h6 := Decidable.not_not.1 h6
  subst h6
  by_cases h7 : ¬ m = m'
  · simp [h7]
  have h7 := Decidable.not_not.1 h7
  subst h7
  by_cases h8 : ¬ t = t'
  · simp [h8]
  have h8 := Decidable.not_not.1 h8
  subst h8
  simp
theorem ev_eql (x y : Ev) (w : World) : (binOp .eql 28 (evV x) (evV y)).run Tryz.prog w = .ok (.bool (eqE x y)) w := by
  rw [run_eql_struct16, show (10000 : Nat) = 9997 + 3 from rfl, ev_eqIn]
  rfl
theorem ev_neq (x y : Ev) (w : World) : (binOp .neq 28 (evV x) (evV y)).run Tryz.prog w = .ok (.bool (!eqE x y)) w := by
  rw [run_neq_struct16, show (10000 : Nat) = 9997 + 3 from rfl, ev_eqIn]
  rfl
end Go.Proofs.YtbinmgpfkjmijaaGreatDoor
