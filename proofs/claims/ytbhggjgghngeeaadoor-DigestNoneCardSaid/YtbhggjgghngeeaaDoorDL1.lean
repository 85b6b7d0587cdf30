/- The laws DigestNone and DigestHolds, walked. -/
import Derived.Test.YtbhggjgghngeeaaDoorDWorks
import Derived.Test.YtbhggjgghngeeaaDoorW7
namespace Go.Proofs.YtbhggjgghngeeaaDoor
open Go Go.RowKit

theorem noDig_nil (w : World) : NoDig w (.pointer none) := .inl rfl
theorem noDig_zero {w : World} {b : Nat} (h : Blk w b (digK 0 0 0)) : NoDig w (.pointer (some ⟨b, 0, none⟩)) := .inr ⟨b, rfl, h⟩

set_option maxRecDepth 100000 in
set_option maxHeartbeats 4000000 in
theorem law_none {nb : Nat} (n : Int) (v : Value) (l : List UInt8) (z : Bool) (w : World) (hv : Bytes nb w v l) (hw : Widths w) :
    Calls Tryd.prog 7 #[.int .u64 n, v, .bool z] w (TrueAdds w) := by
  obtain ⟨ao, cap, rfl, h1, h2, h3⟩ := id hv
  have HV := Lib.hid hv; clear hv h3
  have HW := Lib.hid hw; clear hw
  unfold maxLen at h2
  by_cases hlen : 40 < l.length
  · have HK := Lib.hid (works2_any w HW.out)
    go_enter Tryd.func7, Tryd.ntmps7
    go_wp2_with (go_at_call 12; refine HK.out.mono ?_; rintro e w1 ⟨rfl, a1⟩; have A1 := Lib.hid a1; clear a1)
    go_ret
    exact ⟨rfl, A1.out⟩
  · cases z
    · have HK := Lib.hid (fun W (hW : Adds w W) => works2_any W (HW.out.below hW))
      go_enter Tryd.func7, Tryd.ntmps7
      go_wp2_with (first
        | (go_at_call 17; refine (num2_any _ _).mono ?_; rintro e w' ⟨rfl, rfl⟩)
        | (go_at_call 18; refine (write_no _ _ _ (noDig_nil _)).mono ?_; rintro e w' ⟨rfl, rfl⟩)
        | (go_at_call 20; refine (number_no _ _ _ _ (noDig_nil _)).mono ?_; rintro e w' ⟨rfl, rfl⟩)
        | (go_at_call 22; refine (sum_no _ _ (noDig_nil _)).mono ?_; rintro e w' ⟨rfl, rfl⟩)
        | (go_at_call 23; refine (len_no _ _ (noDig_nil _)).mono ?_; rintro e w' ⟨rfl, rfl⟩)
        | (go_at_call 21; refine (copy_no _ _ (noDig_nil _)).mono ?_; rintro e w' ⟨rfl, rfl⟩)
        | (go_at_call 12; refine (HK.out _ (by exact adds_new _ _)).mono ?_; rintro e w1 ⟨rfl, a1⟩; have A1 := Lib.hid ((adds_new _ _).trans a1); clear a1))
      go_ret
      exact ⟨rfl, A1.out⟩
    · have HB := Lib.hid (Blk.new w (digK 0 0 0))
      have HA := Lib.hid (adds_new w (.cells (digK 0 0 0).toArray 54))
      have HN := Lib.hid (fun o => noDig_zero (HB.out.adds (adds_new _ o)))
      have HK := Lib.hid (fun W (hW : Adds w W) => works2_any W (HW.out.below hW))
      go_enter Tryd.func7, Tryd.ntmps7
      go_wp2_with (first
        | ((with_reducible refine wpList_build0 rfl rfl _ build_zero ?_))
        | ((with_reducible refine wpList_box rfl rfl (digK 0 0 0) ?_ ?_); (· exact rfl))
        | (go_at_call 17; refine (num2_any _ _).mono ?_; rintro e w' ⟨rfl, rfl⟩)
        | (go_at_call 18; refine (write_no _ _ _ (HN.out _)).mono ?_; rintro e w' ⟨rfl, rfl⟩)
        | (go_at_call 20; refine (number_no _ _ _ _ (HN.out _)).mono ?_; rintro e w' ⟨rfl, rfl⟩)
        | (go_at_call 22; refine (sum_no _ _ (HN.out _)).mono ?_; rintro e w' ⟨rfl, rfl⟩)
        | (go_at_call 23; refine (len_no _ _ (HN.out _)).mono ?_; rintro e w' ⟨rfl, rfl⟩)
        | (go_at_call 21; refine (copy_no _ _ (HN.out _)).mono ?_; rintro e w' ⟨rfl, rfl⟩)
        | (go_at_call 12; refine (HK.out _ (by exact HA.out.trans (adds_new _ _))).mono ?_; rintro e w1 ⟨rfl, a1⟩; have A1 := Lib.hid ((HA.out.trans (adds_new _ _)).trans a1); clear a1))
      go_ret
      exact ⟨rfl, A1.out⟩
end Go.Proofs.YtbhggjgghngeeaaDoor
