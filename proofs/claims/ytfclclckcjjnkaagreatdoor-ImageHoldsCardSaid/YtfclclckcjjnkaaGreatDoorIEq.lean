/- Instructions compared. -/
import Derived.Laws.StructEq
import Derived.Test.YtfclclckcjjnkaaGreatDoorIF1
namespace Go.Proofs.YtfclclckcjjnkaaGreatDoor
open Go Go.RowKit Go.Shelf
attribute [local go_sem] Oper.semAt_some

theorem run_eql_struct8 {P : Program} (t : TypeId) (x y : Array Value) (w : World) : (binOp .eql t (.agg x) (.agg y)).run P w = ((Op.equalIn 10000 t (.agg x) (.agg y)).run P w).andThen fun b w' => .ok (.bool b) w' := by
  simp [binOp, Op.equal, Op.maxDepth]
theorem run_neq_struct8 {P : Program} (t : TypeId) (x y : Array Value) (w : World) : (binOp .neq t (.agg x) (.agg y)).run P w = ((Op.equalIn 10000 t (.agg x) (.agg y)).run P w).andThen fun b w' => .ok (.bool (!b)) w' := by
  simp [binOp, Op.equal, Op.maxDepth]
set_option maxRecDepth 100000 in
theorem ins_eqIn (n : Nat) (x y : In) (w : World) : (Op.equalIn (n + 2) 82 (insV x) (insV y)).run Tryz.prog w = .ok (decide (x = y)) w := by
  obtain ⟨a, b, c, d, e⟩ := x
  obtain ⟨a', b', c', d', e'⟩ := y
  have u3 := Tryz.underlying3
  have a3 := Tryz.isAgg3
  have z3 := Tryz.sizeOf3
  have u4 := Tryz.underlying79
  have a4 := Tryz.isAgg79
  have z4 := Tryz.sizeOf79
  have u5 := Tryz.underlying80
  have a5 := Tryz.isAgg80
  have z5 := Tryz.sizeOf80
  have hS : Tryz.prog.underlying 82 = some (.struct (Tryz.prog.fieldsOf 82)) := by kernel_rfl
  have hp : Tryz.prog.stoodInHeld 82 = false := by kernel_rfl
  rw [show n + 2 = (n + 1) + 1 from rfl, run_equalIn_agg w (n + 1) 82 _ _ hS hp]
  simp only [Program.fieldsOf, Tryz.underlying82]
  go_simp
  by_cases h1 : a = a' <;> by_cases h2 : b = b' <;> by_cases h3 : c = c' <;> by_cases h4 : d = d' <;> by_cases h5 : e = e' <;> simp [h1, h2, h3, h4, h5]
def eqI (a b : In) : Bool := decide (a = b)
theorem eqI_iff {a b : In} : eqI a b = true ↔ a = b := by unfold eqI; simp
theorem ins_eql (x y : In) (w : World) : (binOp .eql 82 (insV x) (insV y)).run Tryz.prog w = .ok (.bool (eqI x y)) w := by
  rw [run_eql_struct8, show (10000 : Nat) = 9998 + 2 from rfl, ins_eqIn]
  rfl
theorem ins_neq (x y : In) (w : World) : (binOp .neq 82 (insV x) (insV y)).run Tryz.prog w = .ok (.bool (!eqI x y)) w := by
  rw [run_neq_struct8, show (10000 : Nat) = 9998 + 2 from rfl, ins_eqIn]
  rfl
end Go.Proofs.YtfclclckcjjnkaaGreatDoor
