/- Contracts of ReadFixed and ReadNumber, the program's. -/
import Derived.Test.YtoeoeeomnbggkaaGreatDoorW5
namespace Go.Proofs.YtoeoeeomnbggkaaGreatDoor
open Go.RowKit

theorem adds_alloc (w : World) (o : Obj) : Adds w (w.alloc o) := (Below.refl _ _).alloc (Nat.le_refl _) _
theorem Widths.adds {w w' : World} (h : Widths w) (ha : Adds w w') : Widths w' := h.below ha

end Go.Proofs.YtoeoeeomnbggkaaGreatDoor
