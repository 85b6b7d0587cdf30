/- Sites and pairs compared. -/
import Derived.Laws.StructEq
import Derived.Test.YtoeoeeomnbggkaaGreatDoorSF9
namespace Go.Proofs.YtoeoeeomnbggkaaGreatDoor
open Go Go.RowKit Go.Shelf
attribute [local go_sem] Oper.semAt_some

set_option maxRecDepth 100000 in
theorem site_eqIn (n : Nat) (a b c d : Int) (w : World) : (Op.equalIn (n + 2) 30 (.agg #[.int .i64 a, .int .i64 b]) (.agg #[.int .i64 c, .int .i64 d])).run Tryz.prog w = .ok (a == c && b == d) w := by
  have u3 := Tryz.underlying3
  have a3 := Tryz.isAgg3
  have z3 := Tryz.sizeOf3
  have hS : Tryz.prog.underlying 30 = some (.struct (Tryz.prog.fieldsOf 30)) := by kernel_rfl
  have hp : Tryz.prog.stoodInHeld 30 = false := by kernel_rfl
  rw [show n + 2 = (n + 1) + 1 from rfl, run_equalIn_agg w (n + 1) 30 _ _ hS hp]
  simp only [Program.fieldsOf, Tryz.underlying30]
  go_simp
  by_cases h1 : a = c <;> by_cases h2 : b = d <;> simp [h1, h2]
set_option maxRecDepth 100000 in
theorem pair_eqIn (n : Nat) (x y : Pr) (w : World) : (Op.equalIn (n + 3) 32 (prV x) (prV y)).run Tryz.prog w = .ok (decide (x = y)) w := by
  obtain ⟨⟨a, b⟩, ⟨c, d⟩⟩ := x
  obtain ⟨⟨a', b'⟩, ⟨c', d'⟩⟩ := y
  have u3 := Tryz.underlying30
  have a3 := Tryz.isAgg30
  have z3 := Tryz.sizeOf30
  have hq := site_eqIn n
  have hS : Tryz.prog.underlying 32 = some (.struct (Tryz.prog.fieldsOf 32)) := by kernel_rfl
  have hp : Tryz.prog.stoodInHeld 32 = false := by kernel_rfl
  rw [show n + 3 = (n + 2) + 1 from rfl, run_equalIn_agg w (n + 2) 32 _ _ hS hp]
  simp only [Program.fieldsOf, Tryz.underlying32]
  go_simp
  by_cases h1 : a = a' <;> by_cases h2 : b = b' <;> by_cases h3 : c = c' <;> by_cases h4 : d = d' <;> simp [h1, h2, h3, h4]
def eqS (a b : Si) : Bool := decide (a = b)
def eqP (a b : Pr) : Bool := decide (a = b)
theorem eqS_iff {a b : Si} : eqS a b = true ↔ a = b := by unfold eqS; simp
theorem eqP_iff {a b : Pr} : eqP a b = true ↔ a = b := by unfold eqP; simp
theorem site_eql (a b c d : Int) (w : World) : (binOp .eql 30 (.agg #[.int .i64 a, .int .i64 b]) (.agg #[.int .i64 c, .int .i64 d])).run Tryz.prog w = .ok (.bool (eqS (a, b) (c, d))) w := by
  rw [run_eql_struct, show (10000 : Nat) = 9998 + 2 from rfl, site_eqIn]
  unfold eqS
  by_cases h1 : a = c <;> by_cases h2 : b = d <;> simp [h1, h2]
theorem site_neq (a b c d : Int) (w : World) : (binOp .neq 30 (.agg #[.int .i64 a, .int .i64 b]) (.agg #[.int .i64 c, .int .i64 d])).run Tryz.prog w = .ok (.bool (!eqS (a, b) (c, d))) w := by
  rw [run_neq_struct, show (10000 : Nat) = 9998 + 2 from rfl, site_eqIn]
  unfold eqS
  by_cases h1 : a = c <;> by_cases h2 : b = d <;> simp [h1, h2]
theorem pair_eql (a b c d a' b' c' d' : Int) (w : World) : (binOp .eql 32 (.agg #[.int .i64 a, .int .i64 b, .int .i64 c, .int .i64 d]) (.agg #[.int .i64 a', .int .i64 b', .int .i64 c', .int .i64 d'])).run Tryz.prog w = .ok (.bool (eqP ((a, b), (c, d)) ((a', b'), (c', d')))) w := by
  rw [run_eql_struct, show (10000 : Nat) = 9997 + 3 from rfl]
  have := pair_eqIn 9997 ((a, b), (c, d)) ((a', b'), (c', d')) w
  rw [this]
  rfl
theorem pair_neq (a b c d a' b' c' d' : Int) (w : World) : (binOp .neq 32 (.agg #[.int .i64 a, .int .i64 b, .int .i64 c, .int .i64 d]) (.agg #[.int .i64 a', .int .i64 b', .int .i64 c', .int .i64 d'])).run Tryz.prog w = .ok (.bool (!eqP ((a, b), (c, d)) ((a', b'), (c', d')))) w := by
  rw [run_neq_struct, show (10000 : Nat) = 9997 + 3 from rfl]
  have := pair_eqIn 9997 ((a, b), (c, d)) ((a', b'), (c', d')) w
  rw [this]
  rfl
end Go.Proofs.YtoeoeeomnbggkaaGreatDoor
