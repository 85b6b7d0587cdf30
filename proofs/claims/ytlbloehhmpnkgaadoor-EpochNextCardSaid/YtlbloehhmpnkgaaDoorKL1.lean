/- The law EpochPacks, walked. -/
import Derived.Test.YtlbloehhmpnkgaaDoorKWorks
namespace Go.Proofs.YtlbloehhmpnkgaaDoor
open Go Go.RowKit

/-- Pack, in one: the epoch, or none. -/
def pkE (x : Int) (c : Nat) (y z : Int) : Prop := (∃ i : Nat, x = i ∧ i < 65536 ∧ c < 281474976710656 ∧ y = ((epN i c : Nat) : Int) ∧ z = 0) ∨ (¬ (0 ≤ x ∧ x ≤ 65535 ∧ c < 281474976710656) ∧ y = 0 ∧ z = 2)
theorem pkE_ex (x : Int) (c : Nat) : ∃ y z, pkE x c y z := by
  by_cases h : 0 ≤ x ∧ x ≤ 65535 ∧ c < 281474976710656
  · exact ⟨_, _, .inl ⟨x.toNat, by omega, by omega, h.2.2, rfl, rfl⟩⟩
  · exact ⟨_, _, .inr ⟨h, rfl, rfl⟩⟩
theorem pack_any {x : Int} {c : Nat} {y z : Int} (hx : (Lit.int .i64 x).wf = true) (h : pkE x c y z) (w : World) :
    Calls Tryd.prog 23 #[.int .i64 x, .int .u64 c] w fun e w' => e = .returned (.tuple #[.int .u64 y, .int .i64 z]) ∧ Below w.heap.size w w' := by
  rcases h with ⟨i, rfl, hi, hc, rfl, rfl⟩ | ⟨h, rfl, rfl⟩
  · exact pack_yes i c hi hc w
  · exact pack_no x c hx h w
theorem refPack_any {x : Int} {c : Nat} {y z : Int} (h : pkE x c y z) (w : World) :
    Calls Tryd.prog 24 #[.int .i64 x, .int .u64 c] w fun e w' => e = .returned (.tuple #[.int .u64 y, .int .i64 z]) ∧ w = w' := by
  rcases h with ⟨i, rfl, hi, hc, rfl, rfl⟩ | ⟨h, rfl, rfl⟩
  · exact refPack_yes i c hi hc w
  · exact refPack_no x c h w

set_option maxHeartbeats 4000000 in
theorem law_packs (x : Int) (hx : (Lit.int .i64 x).wf = true) (c : Nat) (e : Nat) (he : e < 18446744073709551616) (w : World) (hv : EpVars w) :
    Calls Tryd.prog 5 #[.int .i64 x, .int .u64 c, .int .u64 e] w (TrueAdds w) := by
  obtain ⟨y, z, hp⟩ := pkE_ex x c
  have HP := Lib.hid (pack_any hx hp)
  have HR := Lib.hid (refPack_any hp)
  have HQ := Lib.hid (epParts_any e he)
  have HQR := Lib.hid (refParts_any e he)
  have HB := Lib.hid (pack_yes (eI e) (eC e) (eI_lt he) (eC_lt e))
  rw [epN_eIC] at HB
  have HW := Lib.hid (fun W (h : Below w.heap.size w W) => works3_any W (hv.below h))
  have HZ := Lib.hid (fun z hz => none_any e z hz)
  obtain ⟨a, d, ha, hd⟩ := gets e
  obtain ⟨u, hu⟩ : ∃ u : Int, (c : Int) = u := ⟨_, rfl⟩
  obtain ⟨v, hvv⟩ : ∃ v : Int, (e : Int) = v := ⟨_, rfl⟩
  rw [hu] at HP HR
  rw [← ha, ← hd, hvv] at HQ HQR HB
  rw [hvv] at HZ
  rw [hu, hvv]
  have HD := Lib.hid hd
  clear hp hx he hv ha hd hu hvv
  by_cases hz : eC e = 0
  · have HN := Lib.hid (HZ.out true (decide_eq_true hz))
    have hd0 : d = 0 := by rw [HD.out, hz]; rfl
    subst hd0
    clear HZ HD hz
    go_enter Tryd.func5, Tryd.ntmps5
    go_wp2_with fail
    refine (HP.out _).mono ?_
    rintro e w1 ⟨rfl, b1⟩
    have A1 := Lib.hid b1; clear b1
    go_wp2_with fail
    refine (HR.out _).mono ?_
    rintro e w' ⟨rfl, rfl⟩
    go_wp2_with fail
    refine (HQ.out _).mono ?_
    rintro e w2 ⟨rfl, b2⟩
    have A2 := Lib.hid (A1.out.trans (b2.mono A1.out.size)); clear b2
    go_wp2_with fail
    refine (HQR.out _).mono ?_
    rintro e w' ⟨rfl, rfl⟩
    go_wp2_with fail
    refine (HB.out _).mono ?_
    rintro e w3 ⟨rfl, b3⟩
    have A3 := Lib.hid (A2.out.trans (b3.mono A2.out.size)); clear b3
    go_wp2_with (first
      | (go_at_call 27; refine (num3_any _ _).mono ?_; rintro e w' ⟨rfl, rfl⟩)
      | (go_at_call 28; refine (HN.out _).mono ?_; rintro e w4 ⟨rfl, b4⟩; have A4 := Lib.hid (A3.out.trans (b4.mono A3.out.size)); clear b4)
      | (go_at_call 29; refine (HW.out _ A4.out).mono ?_; rintro e w5 ⟨rfl, a5⟩; have A5 := Lib.hid (A4.out.trans (Below.mono a5 A4.out.size)); clear a5))
    go_ret
    exact ⟨rfl, A5.out⟩
  · have HN := Lib.hid (HZ.out false (decide_eq_false hz))
    have hd0 : (d == 0) = false := by rw [HD.out]; simpa using hz
    clear HZ HD hz
    go_enter Tryd.func5, Tryd.ntmps5
    go_wp2_with fail
    refine (HP.out _).mono ?_
    rintro e w1 ⟨rfl, b1⟩
    have A1 := Lib.hid b1; clear b1
    go_wp2_with fail
    refine (HR.out _).mono ?_
    rintro e w' ⟨rfl, rfl⟩
    go_wp2_with fail
    refine (HQ.out _).mono ?_
    rintro e w2 ⟨rfl, b2⟩
    have A2 := Lib.hid (A1.out.trans (b2.mono A1.out.size)); clear b2
    go_wp2_with fail
    refine (HQR.out _).mono ?_
    rintro e w' ⟨rfl, rfl⟩
    go_wp2_with fail
    refine (HB.out _).mono ?_
    rintro e w3 ⟨rfl, b3⟩
    have A3 := Lib.hid (A2.out.trans (b3.mono A2.out.size)); clear b3
    go_wp2_with (first
      | (go_at_call 27; refine (num3_any _ _).mono ?_; rintro e w' ⟨rfl, rfl⟩)
      | (go_at_call 28; refine (HN.out _).mono ?_; rintro e w4 ⟨rfl, b4⟩; have A4 := Lib.hid (A3.out.trans (b4.mono A3.out.size)); clear b4)
      | (go_at_call 29; refine (HW.out _ A4.out).mono ?_; rintro e w5 ⟨rfl, a5⟩; have A5 := Lib.hid (A4.out.trans (Below.mono a5 A4.out.size)); clear a5))
    go_ret
    exact ⟨rfl, A5.out⟩
end Go.Proofs.YtlbloehhmpnkgaaDoor
