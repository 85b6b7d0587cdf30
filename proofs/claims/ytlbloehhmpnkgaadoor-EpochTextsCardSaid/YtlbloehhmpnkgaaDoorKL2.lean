/- The laws EpochNext and EpochTexts, walked. -/
import Derived.Test.YtlbloehhmpnkgaaDoorKL1
namespace Go.Proofs.YtlbloehhmpnkgaaDoor
open Go Go.RowKit

/-- Next, in one: why it is none, or the one that follows. -/
def nxE (e n : Nat) (y z : Int) : Prop :=
  (¬ (1 ≤ n ∧ n < 281474976710656) ∧ y = 0 ∧ z = 2) ∨ (1 ≤ n ∧ n < 281474976710656 ∧ n ≤ eC e ∧ y = 0 ∧ z = 130) ∨ (1 ≤ n ∧ n < 281474976710656 ∧ eC e < n ∧ y = ((e + 1 : Nat) : Int) ∧ z = 0)
theorem nxE_ex (e n : Nat) : ∃ y z, nxE e n y z := by
  by_cases h : 1 ≤ n ∧ n < 281474976710656
  · rcases Nat.lt_or_ge (eC e) n with h2 | h2
    · exact ⟨_, _, .inr (.inr ⟨h.1, h.2, h2, rfl, rfl⟩)⟩
    · exact ⟨_, _, .inr (.inl ⟨h.1, h.2, h2, rfl, rfl⟩)⟩
  · exact ⟨_, _, .inl ⟨h, rfl, rfl⟩⟩
theorem epN_next {e n : Nat} (h1 : n < 281474976710656) (h : eC e < n) : epN (eI e) (eC e + 1) = e + 1 := by unfold epN eI eC at *; omega
theorem next_any {e n : Nat} {y z : Int} (he : e < 18446744073709551616) (h : nxE e n y z) (w : World) :
    Calls Tryd.prog 30 #[.int .u64 e, .int .u64 n] w fun x w' => x = .returned (.tuple #[.int .u64 y, .int .i64 z]) ∧ Below w.heap.size w w' := by
  rcases h with ⟨h, rfl, rfl⟩ | ⟨h0, h1, h2, rfl, rfl⟩ | ⟨h0, h1, h2, rfl, rfl⟩
  · exact next_arg e n h w
  · exact next_full e n h0 h1 h2 w
  · have := next_yes e n he h0 h1 h2 w
    rw [epN_next h1 h2] at this
    exact this
theorem refNext_any {e n : Nat} {y z : Int} (he : e < 18446744073709551616) (h : nxE e n y z) (w : World) :
    Calls Tryd.prog 31 #[.int .u64 e, .int .u64 n] w fun x w' => x = .returned (.tuple #[.int .u64 y, .int .i64 z]) ∧ w = w' := by
  rcases h with ⟨h, rfl, rfl⟩ | ⟨h0, h1, h2, rfl, rfl⟩ | ⟨h0, h1, h2, rfl, rfl⟩
  · exact refNext_arg e n h w
  · exact refNext_full e n he h0 h1 h2 w
  · exact refNext_yes e n he h0 h1 h2 w

set_option maxHeartbeats 4000000 in
theorem law_next (e : Nat) (he : e < 18446744073709551616) (n : Nat) (w : World) (hv : EpVars w) :
    Calls Tryd.prog 6 #[.int .u64 e, .int .u64 n] w (TrueAdds w) := by
  obtain ⟨y, z, hp⟩ := nxE_ex e n
  have HP := Lib.hid (next_any he hp)
  have HR := Lib.hid (refNext_any he hp)
  have HW := Lib.hid (fun W (h : Below w.heap.size w W) => works3_any W (hv.below h))
  clear hp he hv
  go_enter Tryd.func6, Tryd.ntmps6
  go_wp2_with fail
  refine (HP.out _).mono ?_
  rintro e w1 ⟨rfl, b1⟩
  have A1 := Lib.hid b1; clear b1
  go_wp2_with fail
  refine (HR.out _).mono ?_
  rintro e w' ⟨rfl, rfl⟩
  go_wp2_with (first
    | (go_at_call 27; refine (num3_any _ _).mono ?_; rintro e w' ⟨rfl, rfl⟩)
    | (go_at_call 29; refine (HW.out _ A1.out).mono ?_; rintro e w5 ⟨rfl, a5⟩; have A5 := Lib.hid (A1.out.trans (Below.mono a5 A1.out.size)); clear a5))
  go_ret
  exact ⟨rfl, A5.out⟩

set_option maxHeartbeats 4000000 in
theorem law_texts3 (e : Nat) (he : e < 18446744073709551616) (s : ByteArray) (w : World) (hv : EpVars w) :
    Calls Tryd.prog 7 #[.int .u64 e, .string s] w (TrueAdds w) := by
  have HW := Lib.hid (fun W (h : Below w.heap.size w W) => works3_any W (hv.below h))
  by_cases hlen : 60 < s.size
  · clear he hv
    go_enter Tryd.func7, Tryd.ntmps7
    go_wp2_with (go_at_call 29; refine (HW.out _ (Below.refl _ _)).mono ?_; rintro e w5 ⟨rfl, a5⟩; have A5 := Lib.hid a5; clear a5)
    go_ret
    exact ⟨rfl, A5.out⟩
  · have HT := Lib.hid (fun W (h : Below w.heap.size w W) => text_any e he W (hv.below h))
    have HP := Lib.hid (fun W (h : Below w.heap.size w W) => parse_yes (str (txtE e)) e he rfl W (hv.below h))
    have HR := Lib.hid (fun W (h : Below w.heap.size w W) => refText_any e he W (hv.below h))
    have ht := str_eq (s := str (txtE e)) rfl
    obtain ⟨t, hte⟩ : ∃ t, str (txtE e) = t := ⟨_, rfl⟩
    rw [hte] at HT HP HR ht
    obtain ⟨x, hx⟩ : ∃ x : Int, (e : Int) = x := ⟨_, rfl⟩
    rw [hx] at HT HP HR
    rw [hx]
    have hle : s.size ≤ 60 := by omega
    by_cases h : ∃ y, y < 18446744073709551616 ∧ txtE y = s.data.toList
    · obtain ⟨y, hy, hs⟩ := h
      have HP2 := Lib.hid (fun W (h : Below w.heap.size w W) => parse_yes s y hy hs W (hv.below h))
      have HR2 := Lib.hid (fun W (h : Below w.heap.size w W) => refParse_yes s y hy hs W (hv.below h))
      have HT2 := Lib.hid (fun W (h : Below w.heap.size w W) => text_any y hy W (hv.below h))
      have hs2 := str_eq hs
      obtain ⟨t2, hte2⟩ : ∃ t, str (txtE y) = t := ⟨_, rfl⟩
      rw [hte2] at HT2 hs2
      obtain ⟨v, hvv⟩ : ∃ v : Int, (y : Int) = v := ⟨_, rfl⟩
      rw [hvv] at HP2 HR2 HT2
      clear hte hx hy hs hte2 hvv hv he hlen
      go_enter Tryd.func7, Tryd.ntmps7
      go_wp2_with fail
      refine (HT.out _ (Below.refl _ _)).mono ?_
      rintro e w1 ⟨rfl, b1⟩
      have A1 := Lib.hid b1; clear b1
      go_wp2_with fail
      refine (HP.out _ A1.out).mono ?_
      rintro e w2 ⟨rfl, b2⟩
      have A2 := Lib.hid (A1.out.trans (b2.mono A1.out.size)); clear b2
      go_wp2_with fail
      refine (HP2.out _ A2.out).mono ?_
      rintro e w3 ⟨rfl, b3⟩
      have A3 := Lib.hid (A2.out.trans (b3.mono A2.out.size)); clear b3
      go_wp2_with fail
      refine (HR2.out _ A3.out).mono ?_
      rintro e w4 ⟨rfl, b4⟩
      have A4 := Lib.hid (A3.out.trans (b4.mono A3.out.size)); clear b4
      go_wp2_with (first
        | (go_at_call 27; refine (num3_any _ _).mono ?_; rintro e w' ⟨rfl, rfl⟩)
        | (go_at_call 35; refine (HR.out _ A4.out).mono ?_; rintro e w5 ⟨rfl, b5⟩; have A5 := Lib.hid (A4.out.trans (b5.mono A4.out.size)); clear b5)
        | (go_at_call 32; refine (HT2.out _ A5.out).mono ?_; rintro e w6 ⟨rfl, b6⟩; have A6 := Lib.hid (A5.out.trans (b6.mono A5.out.size)); clear b6)
        | (go_at_call 29; refine (HW.out _ A6.out).mono ?_; rintro e w9 ⟨rfl, a9⟩; have A9 := Lib.hid (A6.out.trans (Below.mono a9 A6.out.size)); clear a9))
      go_ret
      exact ⟨rfl, A9.out⟩
    · have h' : ∀ y, y < 18446744073709551616 → txtE y ≠ s.data.toList := fun y hy hs => h ⟨y, hy, hs⟩
      have HP2 := Lib.hid (fun W (hW : Below w.heap.size w W) => parse_none s (by omega) h' W (hv.below hW))
      have HR2 := Lib.hid (fun W (hW : Below w.heap.size w W) => refParse_none s (by omega) h' W (hv.below hW))
      clear hte hx h h' hv he hlen
      go_enter Tryd.func7, Tryd.ntmps7
      go_wp2_with fail
      refine (HT.out _ (Below.refl _ _)).mono ?_
      rintro e w1 ⟨rfl, b1⟩
      have A1 := Lib.hid b1; clear b1
      go_wp2_with fail
      refine (HP.out _ A1.out).mono ?_
      rintro e w2 ⟨rfl, b2⟩
      have A2 := Lib.hid (A1.out.trans (b2.mono A1.out.size)); clear b2
      go_wp2_with fail
      refine (HP2.out _ A2.out).mono ?_
      rintro e w3 ⟨rfl, b3⟩
      have A3 := Lib.hid (A2.out.trans (b3.mono A2.out.size)); clear b3
      go_wp2_with fail
      refine (HR2.out _ A3.out).mono ?_
      rintro e w4 ⟨rfl, b4⟩
      have A4 := Lib.hid (A3.out.trans (b4.mono A3.out.size)); clear b4
      go_wp2_with (first
        | (go_at_call 27; refine (num3_any _ _).mono ?_; rintro e w' ⟨rfl, rfl⟩)
        | (go_at_call 35; refine (HR.out _ A4.out).mono ?_; rintro e w5 ⟨rfl, b5⟩; have A5 := Lib.hid (A4.out.trans (b5.mono A4.out.size)); clear b5)
        | (go_at_call 29; refine (HW.out _ A5.out).mono ?_; rintro e w9 ⟨rfl, a9⟩; have A9 := Lib.hid (A5.out.trans (Below.mono a9 A5.out.size)); clear a9))
      go_ret
      exact ⟨rfl, A9.out⟩
end Go.Proofs.YtlbloehhmpnkgaaDoor
