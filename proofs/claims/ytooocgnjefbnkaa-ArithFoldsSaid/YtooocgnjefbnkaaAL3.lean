/- The law ArithFolds, walked. -/
import Derived.Test.YtooocgnjefbnkaaAW
import Derived.Test.YtooocgnjefbnkaaAR2
namespace Go.Proofs.Ytooocgnjefbnkaa
open Go Go.RowKit

set_option maxRecDepth 100000 in
set_option maxHeartbeats 4000000 in
theorem law_folds5 (x : Int) (hx : (Lit.int .i64 x).wf = true) (a : Nat) (ha : a < 4294967296) {nb : Nat} (v : Value) (l : List UInt32) (w : World) (hv : Cells32 nb w v l) :
    Calls Try.prog 4 #[.int .i64 x, .int .u32 a, v] w (TrueAdds5 w) := by
  have C1 := Lib.hid (fold_any x hx a ha v l w hv)
  have C2 := Lib.hid (fun W (h : Adds w W) => refFold_any x a ha v l W (cells32_adds hv h))
  unfold RefFoldPost at C2
  unfold FoldPost at C1
  generalize foldX x a l = r at C1 C2
  obtain ⟨n, m, er⟩ := r
  obtain ⟨ao, cap, rfl, hc1, hc2, _⟩ := hv
  unfold maxLen at hc2
  simp only at C1 C2
  clear hx ha
  by_cases hl : 100 < l.length
  · go_enter Try.func4, Try.ntmps4
    go_wp2_with (go_at_call 11; refine (works5_any _).mono ?_; rintro e w2 ⟨rfl, h1⟩; have A2 := Lib.hid h1; clear h1)
    go_ret
    exact ⟨rfl, A2.out⟩
  · go_enter Try.func4, Try.ntmps4
    go_wp2_with (first
      | (go_at_call 12; refine C1.out.mono ?_; rintro e w1 ⟨rfl, h1⟩; have A := Lib.hid h1; clear h1)
      | (go_at_call 13; refine (C2.out _ A.out).mono ?_; rintro e w' ⟨rfl, rfl⟩)
      | (go_at_call 8; refine (num5_any _ _).mono ?_; rintro e w' ⟨rfl, rfl⟩)
      | (go_at_call 11; refine (works5_any _).mono ?_; rintro e w2 ⟨rfl, h1⟩; have A2 := Lib.hid (A.out.trans h1); clear h1))
    go_ret
    exact ⟨rfl, A2.out⟩
end Go.Proofs.Ytooocgnjefbnkaa
