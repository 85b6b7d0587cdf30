/- Contracts of package epoch: Text. -/
import Derived.Test.YtlbloehhmpnkgaaDoorKText
namespace Go.Proofs.YtlbloehhmpnkgaaDoor
open Go Go.RowKit

theorem line_new (w : World) : LineAt w.heap.size (w.alloc (.cells #[.slice none 0 0] 99)) [] := by
  refine ⟨.slice none 0 0, by simp, by simp, OwnB.nil _ _, by simp⟩
theorem txt_eIC (e : Nat) : Lib.decDigits (eI e) ++ 64 :: Lib.decDigits (eC e) = txtE e := rfl
set_option maxHeartbeats 1000000 in
theorem text_any (e : Nat) (he : e < 18446744073709551616) (w : World) (hv : EpVars w) :
    Calls Tryd.prog 32 #[.int .u64 e] w fun x w' => x = .returned (.string (str (txtE e))) ∧ Below w.heap.size w w' := by
  have HL := Lib.hid (line_new w)
  have HA := Lib.hid (adds_b w (.cells #[.slice none 0 0] 99))
  have HP := Lib.hid (parts_any e (w.alloc (.cells #[.slice none 0 0] 99)))
  have HT := Lib.hid (Lib.tabBelow_of_tabIs hv.tab)
  have hii : eI e < 18446744073709551616 := by have := eI_lt he; omega
  have hcc : eC e < 18446744073709551616 := by have := eC_lt e; omega
  have HK := Lib.hid (fun w1 (hb : Below w.heap.size w w1) (hl : LineAt w.heap.size w1 []) => tell_any w.heap.size (eI e) (eC e) hii hcc w1 hl fun w' h => HT.out w' (hb.trans h))
  rw [txt_eIC] at HK
  obtain ⟨a, c, ha, hc⟩ := gets e
  rw [← ha, ← hc] at HP HK
  clear ha hc hii hcc he hv
  go_enter Tryd.func32, Tryd.ntmps32
  go_wp2_with (first
    | (go_at_call 54; refine HP.out.mono ?_; rintro e w1 ⟨rfl, b1⟩; have L1 := Lib.hid (HL.out.adds b1); have A1 := Lib.hid (HA.out.trans (b1.mono HA.out.size)); clear b1)
    | (go_at_call 59; refine (HK.out _ A1.out L1.out).mono ?_; rintro e w2 ⟨rfl, h2, b2⟩; have A2 := Lib.hid (A1.out.trans b2); obtain ⟨v2, hc2, _, ho2, _⟩ := h2; have hcv := ho2.bytes.str 99 9 5 Tryd.underlying99 Tryd.underlying5 Tryd.underlying9; obtain ⟨ao, k, cap, rfl⟩ := own_slice ho2; clear ho2 b2))
  go_ret
  exact ⟨rfl, A2.out⟩
end Go.Proofs.YtlbloehhmpnkgaaDoor
