/- The law VectorHolds, walked: all of it. -/
import Derived.Test.YtcimppggemdidaaDoorVL4no2
import Derived.Test.YtcimppggemdidaaDoorVL4no130
import Derived.Test.YtcimppggemdidaaDoorVL4yes
namespace Go.Proofs.YtcimppggemdidaaDoor
open Go Go.RowKit

set_option maxRecDepth 100000 in
set_option maxHeartbeats 8000000 in
theorem law_vholds {nb : Nat} (u v x : Value) (a b c : List UInt64) (i : Int) (hi : (Lit.int .i64 i).wf = true) (w : World) (hu : Words nb w u a) (hv : Words nb w v b) (hx : Words nb w x c) (hw : How w) :
    Calls Tryd.prog 9 #[.agg #[u, v, x], .int .i64 i] w (TrueAdds w) := by
  by_cases hl : a.length ≤ 40 ∧ b.length ≤ 40 ∧ c.length ≤ 40
  · by_cases hr : 0 ≤ i ∧ i ≤ 70
    · rcases tick_ex a i 281474976710655 with ⟨z, hz⟩ | ⟨k, hk⟩
      · have hz2 : z = 2 ∨ z = 130 := by
          rcases hz with ⟨_, h⟩ | ⟨_, _, _, _, h⟩
          · exact .inl h
          · exact h
        rcases hz2 with rfl | rfl
        · exact law_vholds_no2 u v x a b c i hi hz w hu hv hx hw hl.1 hl.2.1 hl.2.2 hr.1 hr.2
        · exact law_vholds_no130 u v x a b c i hi hz w hu hv hx hw hl.1 hl.2.1 hl.2.2 hr.1 hr.2
      · exact law_vholds_yes u v x a b c i hi k hk w hu hv hx hw hl.1 hl.2.1 hl.2.2 hr.1 hr.2
    · have HF := Lib.hid (few_any _ [a, b, c] _ (listsW_arr w u v x a b c hu hv hx))
      rw [few_three hl.1 hl.2.1 hl.2.2] at HF
      have HW := Lib.hid (fun W (h : Adds w W) => works4_any W (hw.adds h)); clear hw
      obtain ⟨ao, capa, rfl, _⟩ := hu
      obtain ⟨bo, capb, rfl, _⟩ := hv
      obtain ⟨co, capc, rfl, _⟩ := hx
      have AX := Lib.hid (Adds.new w (.cells #[.slice ao a.length capa, .slice bo b.length capb, .slice co c.length capc] 67))
      clear hl
      by_cases h0 : i < 0
      · clear hr
        go_enter Tryd.func9, Tryd.ntmps9
        go_wp2_with (first
          | (go_at_call 23; refine HF.out.mono ?_; rintro e w' ⟨rfl, rfl⟩)
          | (go_at_call 24; refine (HW.out _ AX.out).mono ?_; rintro e w1 ⟨rfl, a1⟩; have AX := Lib.hid (AX.out.trans a1); clear a1))
        go_ret
        exact ⟨rfl, AX.out⟩
      · have h7 : 70 < i := by omega
        clear hr
        go_enter Tryd.func9, Tryd.ntmps9
        go_wp2_with (first
          | (go_at_call 23; refine HF.out.mono ?_; rintro e w' ⟨rfl, rfl⟩)
          | (go_at_call 24; refine (HW.out _ AX.out).mono ?_; rintro e w1 ⟨rfl, a1⟩; have AX := Lib.hid (AX.out.trans a1); clear a1))
        go_ret
        exact ⟨rfl, AX.out⟩
  · have HF := Lib.hid (few_any _ [a, b, c] _ (listsW_arr w u v x a b c hu hv hx))
    rw [few_three_not hl] at HF
    have HW := Lib.hid (fun W (h : Adds w W) => works4_any W (hw.adds h)); clear hw
    obtain ⟨ao, capa, rfl, _⟩ := hu
    obtain ⟨bo, capb, rfl, _⟩ := hv
    obtain ⟨co, capc, rfl, _⟩ := hx
    have AX := Lib.hid (Adds.new w (.cells #[.slice ao a.length capa, .slice bo b.length capb, .slice co c.length capc] 67))
    clear hl
    go_enter Tryd.func9, Tryd.ntmps9
    go_wp2_with (first
      | (go_at_call 23; refine HF.out.mono ?_; rintro e w' ⟨rfl, rfl⟩)
      | (go_at_call 24; refine (HW.out _ AX.out).mono ?_; rintro e w1 ⟨rfl, a1⟩; have AX := Lib.hid (AX.out.trans a1); clear a1))
    go_ret
    exact ⟨rfl, AX.out⟩
end Go.Proofs.YtcimppggemdidaaDoor
