/- The library's contracts that package site calls, in this program's own numbers and words: a number as a text and back, a text cut. -/
import Derived.Test.YtbinmgpfkjmijaaGreatDoorEvShelf
import Derived.Test.YtbinmgpfkjmijaaGreatDoorSF2
import Derived.Test.YtbinmgpfkjmijaaGreatDoorBA
import Derived.Lib.AppendIntMem
import Derived.Lib.ItoaLen
import Derived.Laws.IdiomStrings
namespace Go.Proofs.YtbinmgpfkjmijaaGreatDoor
open Go Go.RowKit Go.Shelf

/-- What the variables hold. -/
structure SVars (w : World) : Prop where
  tab : Lib.TabIs Tryz.prog w "internal/strconv.uint64pow10" .u64 Lib.pow10Tab
  wid : Widths w
theorem SVars.below {w w' : World} (h : SVars w) (hb : Below w.heap.size w w') : SVars w' := by
  obtain ⟨h1, h5⟩ := h
  exact ⟨Lib.tabBelow_of_tabIs h1 w' hb, h5.below hb⟩
theorem SVars.gr {w w' : World} (h : SVars w) (hb : Gr w w') : SVars w' := h.below hb.adds

theorem str_list (l : List UInt8) : (str l).data.toList = l := rfl
theorem str_size (l : List UInt8) : (str l).size = l.length := by rw [Lib.size_eq, str_list]
theorem itoa7_any (i : Nat) (hi : i < 9223372036854775808) (w : World) (hv : SVars w) :
    Calls Tryz.prog 37 #[.int .i64 i] w fun e w' => e = .returned (.string (str (Lib.decDigits i))) ∧ Gr w w' :=
  (Any.strconv_Itoa Tryz.laysItoa (i : Int) (by omega) (by omega) w hv.tab).mono fun _ w' ⟨h1, k, os, h2⟩ => by
    subst h2
    refine ⟨?_, ⟨k, os, rfl⟩⟩
    rw [h1, Lib.itoa_nonneg]; rfl
end Go.Proofs.YtbinmgpfkjmijaaGreatDoor
