/- Has of a set of pairs: its contract. -/
import Derived.Deep.RegionLaw
import Derived.BigQuiet
import Derived.Test.YtnhapmodgmkbjaaGreatDoorSI1
namespace Go.Proofs.YtnhapmodgmkbjaaGreatDoor
open Go Go.RowKit Go.Shelf Go.Sort Go.Maps

set_option maxRecDepth 100000 in
set_option maxHeartbeats 2000000 in
theorem has_none (v : Value) (x : Pr) (w : World) (h : NoSet w v) :
    Calls Tryz.prog 11 #[v, prV x] w fun e w' => e = .returned (.bool false) ∧ Gr w w' := by
  have hmx : Tryz.prog.follows .mixedOrders = true := by kernel_rfl
  obtain ⟨wb, hwb⟩ : ∃ wb, w.alloc (.cells (prC x).toArray 32) = wb := ⟨_, rfl⟩
  have HG := Lib.hid (show Gr w wb by rw [← hwb]; exact Gr.new _ _)
  have hh := fun (n : Nat) (os : Array Obj) => show Calls Tryz.prog 19 #[v] (grow (wb.drewN n) os) (fun e w' => e = .returned (.bool true) ∧ Gr (grow (wb.drewN n) os) w') from (isNoneS_no v _ (h.adds (HG.out.trans (Gr.grown wb n os)).adds)).mono fun _ _ ⟨h1, h2⟩ => ⟨h1, h2 ▸ Gr.refl _⟩
  clear h
  obtain ⟨⟨f, p⟩, ⟨g, q⟩⟩ := x
  go_enter Tryz.func11, Tryz.ntmps11
  go_wp2_with fail
  first | rw [hwb] | skip
  clear hwb
  go_quiet_grown ((go_at_call 19; exact Calls.grown_of (hh _ _)))
  have HW6 := Lib.hid (HG.out.trans (Gr.grown wb nq osq))
  go_simp
  go_wp2_with fail
  go_ret
  exact ⟨rfl, HW6.out⟩
end Go.Proofs.YtnhapmodgmkbjaaGreatDoor
