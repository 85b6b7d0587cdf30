/- The law EventHolds. -/
import Derived.Test.YtbinmgpfkjmijaaGreatDoorEvL2a
import Derived.Test.YtbinmgpfkjmijaaGreatDoorEvL2b
import Derived.Test.YtbinmgpfkjmijaaGreatDoorEvL2c
namespace Go.Proofs.YtbinmgpfkjmijaaGreatDoor
open Go Go.RowKit

theorem law_holds16 (x y : Ev) (hx : OkE x) (hy : OkE y) (w : World) (hv : EVars w) : Calls Tryz.prog 7 #[evV x, evV y] w (TrueAdds w) := by
  by_cases h : mayE x = true ∧ mayE y = true
  · cases hc : leadE x y
    · exact holds16_yes_a x y hx hy hc h.1 h.2 w hv
    · cases hg : (x.g != y.g)
      · exact holds16_yes_b x y hx hy hc hg h.1 h.2 w hv
      · exact holds16_yes_c x y hx hy hc hg (lead_rel hc hg) h.1 h.2 w hv
  · cases hc : leadE x y
    · exact holds16_no_a x y hx hy hc h w hv
    · cases hg : (x.g != y.g)
      · exact holds16_no_b x y hx hy hc hg h w hv
      · exact holds16_no_c x y hx hy hc hg (lead_rel hc hg) h w hv
end Go.Proofs.YtbinmgpfkjmijaaGreatDoor
