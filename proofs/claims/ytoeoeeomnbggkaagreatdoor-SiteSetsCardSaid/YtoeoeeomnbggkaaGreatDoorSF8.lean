/- A site read of bytes: its contract. -/
import Derived.Test.YtoeoeeomnbggkaaGreatDoorSF5
namespace Go.Proofs.YtoeoeeomnbggkaaGreatDoor
open Go Go.RowKit Go.Shelf

theorem readB_0 {l : List UInt8} (h : l.length < 3) : readB l = ((0, 0), 110) := by unfold readB; rw [if_pos h]
theorem readB_1 {l : List UInt8} (h : 3 ≤ l.length) (hr : rightS (siteB l) = true) : readB l = (siteB l, 0) := by unfold readB; rw [if_neg (by omega), if_pos hr]
theorem readB_2 {l : List UInt8} (h : 3 ≤ l.length) (hr : ¬ rightS (siteB l) = true) : readB l = ((0, 0), 170) := by unfold readB; rw [if_neg (by omega), if_neg hr]
def rbV (l : List UInt8) : Value := .tuple #[siV (readB l).1, .int .i64 (readB l).2]

def RdB (l : List UInt8) (z : Int) (l' : List UInt8) (n0 n1 : Int) : Prop :=
  (z = 0 ∧ l' = l) ∨ (z = 1 ∧ 1 ≤ l.length ∧ n0 = ((unB (l.take 1) : Nat) : Int) ∧ l' = l.drop 1) ∨ (z = 2 ∧ 3 ≤ l.length ∧ n0 = (siteB l).1 ∧ n1 = (siteB l).2)

end Go.Proofs.YtoeoeeomnbggkaaGreatDoor
