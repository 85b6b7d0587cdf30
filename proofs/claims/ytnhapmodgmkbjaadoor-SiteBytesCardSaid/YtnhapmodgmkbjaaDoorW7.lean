/- Contracts of Number, the program's and the document's. -/
import Derived.Test.YtnhapmodgmkbjaaDoorApp
namespace Go.Proofs.YtnhapmodgmkbjaaDoor
open Go.RowKit

theorem number_fin {w wr w1 : World} {v : Value} {pre : List UInt8} {m n : Nat} (hp : pre ++ numB m = numB n) (hm : m < 128) (ho : OwnB w1 w.heap.size v (pre ++ [UInt8.ofNat m])) (h1 : Below w.heap.size w wr) (h2 : Below w.heap.size wr w1) :
    GivesB (numB n) (fun v => v) w (.returned v) w1 := by
  rw [← hp, numB_lt hm]
  exact ⟨v, rfl, ho, h1.trans h2⟩
theorem number_step {pre : List UInt8} {m n : Nat} (hp : pre ++ numB m = numB n) (hm : ¬ m < 128) : (pre ++ [UInt8.ofNat (m % 128 + 128)]) ++ numB (m / 128) = numB n := by
  rw [← hp, numB_ge hm, List.append_assoc, List.singleton_append]
theorem number_room {pre : List UInt8} {m n : Nat} (hp : pre ++ numB m = numB n) (hl : (numB n).length ≤ 10) : pre.length + 1 ≤ 10 := by
  have h2 := numB_pos m
  rw [← hp, List.length_append] at hl
  omega

theorem lit1 (w : World) (z : Int) (b : UInt8) (hz : z = b.toNat) : OwnB (w.alloc (.cells #[.int .u8 z] 5)) w.heap.size (.slice (some ⟨w.heap.size, 0, none⟩) 1 1) [b] := by
  subst hz
  exact OwnB.lit w [b] (by simp [maxLen])
theorem below_alloc (w : World) (o : Obj) : Below w.heap.size w (w.alloc o) := (Below.refl _ _).alloc (Nat.le_refl _) _
end Go.Proofs.YtnhapmodgmkbjaaDoor
