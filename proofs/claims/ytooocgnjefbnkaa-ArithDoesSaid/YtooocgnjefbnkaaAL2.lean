/- The law ArithDoes, walked. -/
import Derived.Test.YtooocgnjefbnkaaAW
import Derived.Test.YtooocgnjefbnkaaAR2
namespace Go.Proofs.Ytooocgnjefbnkaa
open Go Go.RowKit

set_option maxRecDepth 100000 in
set_option maxHeartbeats 4000000 in
theorem law_does5 (x : Int) (hx : (Lit.int .i64 x).wf = true) (a b : Nat) (ha : a < 4294967296) (hb : b < 4294967296) (w : World) :
    Calls Try.prog 3 #[.int .i64 x, .int .u32 a, .int .u32 b] w (TrueAdds5 w) := by
  have C1 := Lib.hid (do_any x hx a b ha hb w)
  have C2 := Lib.hid (fun W => refDo_any x a b ha hb W)
  have C3 := Lib.hid (fun W => signed_any a ha W)
  have C4 := Lib.hid (fun W => refSigned_any a ha W)
  unfold RefPost at C2
  generalize doX x a b = r at C1 C2
  obtain ⟨n, er⟩ := r
  generalize signN a = sg at C3 C4
  simp only at C1 C2
  clear hx ha hb
  go_enter Try.func3, Try.ntmps3
  go_wp2_with (first
    | (go_at_call 6; refine C1.out.mono ?_; rintro e w1 ⟨rfl, h1⟩; have A := Lib.hid h1; clear h1)
    | (go_at_call 7; refine (C2.out _).mono ?_; rintro e w' ⟨rfl, rfl⟩)
    | (go_at_call 9; refine (C3.out _).mono ?_; rintro e w' ⟨rfl, rfl⟩)
    | (go_at_call 10; refine (C4.out _).mono ?_; rintro e w' ⟨rfl, rfl⟩)
    | (go_at_call 8; refine (num5_any _ _).mono ?_; rintro e w' ⟨rfl, rfl⟩)
    | (go_at_call 11; refine (works5_any _).mono ?_; rintro e w2 ⟨rfl, h1⟩; have A2 := Lib.hid (A.out.trans h1); clear h1))
  go_ret
  exact ⟨rfl, A2.out⟩
end Go.Proofs.Ytooocgnjefbnkaa
