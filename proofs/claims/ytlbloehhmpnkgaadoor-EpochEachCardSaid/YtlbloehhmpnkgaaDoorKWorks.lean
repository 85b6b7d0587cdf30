/- The contract of the law's 'works': the chapter's rows. -/
import Derived.Test.YtlbloehhmpnkgaaDoorKRef2
import Derived.Test.YtlbloehhmpnkgaaDoorApp2
namespace Go.Proofs.YtlbloehhmpnkgaaDoor
open Go Go.RowKit

theorem wk_pack (w : World) : Calls Tryd.prog 23 #[.int .i64 1, .int .u64 2] w fun e w' => e = .returned (.tuple #[.int .u64 281474976710658, .int .i64 0]) ∧ Below w.heap.size w w' := pack_yes 1 2 (by decide) (by decide) w
theorem wk_pack2 (w : World) : Calls Tryd.prog 23 #[.int .i64 65536, .int .u64 0] w fun e w' => e = .returned (.tuple #[.int .u64 0, .int .i64 2]) ∧ Below w.heap.size w w' := pack_no 65536 0 (by decide) (by decide) w
theorem wk_parts (w : World) : Calls Tryd.prog 25 #[.int .u64 281474976710658] w fun e w' => e = .returned (.tuple #[.int .i64 1, .int .u64 2]) ∧ Below w.heap.size w w' := epParts_any 281474976710658 (by decide) w
theorem wk_next (w : World) : Calls Tryd.prog 30 #[.int .u64 281474976710658, .int .u64 3] w fun e w' => e = .returned (.tuple #[.int .u64 281474976710659, .int .i64 0]) ∧ Below w.heap.size w w' := next_yes 281474976710658 3 (by decide) (by decide) (by decide) (by decide) w
theorem wk_next2 (w : World) : Calls Tryd.prog 30 #[.int .u64 281474976710659, .int .u64 3] w fun e w' => e = .returned (.tuple #[.int .u64 0, .int .i64 130]) ∧ Below w.heap.size w w' := next_full 281474976710659 3 (by decide) (by decide) (by decide) w
theorem wk_next3 (w : World) : Calls Tryd.prog 30 #[.int .u64 281474976710658, .int .u64 0] w fun e w' => e = .returned (.tuple #[.int .u64 0, .int .i64 2]) ∧ Below w.heap.size w w' := next_arg 281474976710658 0 (by decide) w
theorem no_012 (x : Nat) (_hx : x < 18446744073709551616) : txtE x ≠ (⟨#[48, 49, 64, 50]⟩ : ByteArray).data.toList := by
  intro h
  have hx := cut_txt x
  rw [h] at hx
  have e : Lib.cut (⟨#[48, 49, 64, 50]⟩ : ByteArray).data.toList [64] = ([48, 49], [50], true) := by decide +kernel
  rw [e] at hx
  injection hx with h1 _
  have hp := parse_dec (x / 281474976710656) (by omega)
  rw [← h1] at hp
  have e2 : Lib.parseUintB 64 [48, 49] = .ok 1 := by decide +kernel
  rw [e2] at hp
  injection hp with hp
  rw [← hp, dec_small (by decide)] at h1
  simp at h1
theorem wk_parse (w : World) (hv : EpVars w) : Calls Tryd.prog 33 #[.string ⟨#[48, 49, 64, 50]⟩] w fun e w' => e = .returned (.tuple #[.int .u64 0, .int .i64 131]) ∧ Below w.heap.size w w' :=
  parse_none ⟨#[48, 49, 64, 50]⟩ (by decide) no_012 w hv
theorem txt_1 : str (txtE 281474976710658) = ⟨#[49, 64, 50]⟩ := by
  have e : txtE 281474976710658 = Lib.decDigits 1 ++ 64 :: Lib.decDigits 2 := by unfold txtE; rfl
  rw [e, dec_small (by decide), dec_small (by decide)]; rfl
theorem txt_2 : str (txtE 281474976710659) = ⟨#[49, 64, 51]⟩ := by
  have e : txtE 281474976710659 = Lib.decDigits 1 ++ 64 :: Lib.decDigits 3 := by unfold txtE; rfl
  rw [e, dec_small (by decide), dec_small (by decide)]; rfl
theorem wk_text (w : World) (hv : EpVars w) : Calls Tryd.prog 32 #[.int .u64 281474976710658] w fun e w' => e = .returned (.string ⟨#[49, 64, 50]⟩) ∧ Below w.heap.size w w' := by
  have := text_any 281474976710658 (by decide) w hv
  rw [txt_1] at this
  exact this
theorem wk_text2 (w : World) (hv : EpVars w) : Calls Tryd.prog 32 #[.int .u64 281474976710659] w fun e w' => e = .returned (.string ⟨#[49, 64, 51]⟩) ∧ Below w.heap.size w w' := by
  have := text_any 281474976710659 (by decide) w hv
  rw [txt_2] at this
  exact this

set_option maxHeartbeats 4000000 in
set_option maxRecDepth 10000 in
theorem works3_any (w : World) (hv : EpVars w) : Calls Tryd.prog 29 #[] w (TrueAdds w) := by
  have HV := Lib.hid (fun W (h : Adds w W) => hv.below h)
  clear hv
  go_enter Tryd.func29, Tryd.ntmps29
  go_wp2_with fail
  refine (wk_pack _).mono ?_
  rintro e w1 ⟨rfl, b1⟩
  have A1 := Lib.hid (show Adds w w1 from b1); clear b1
  go_wp2_with fail
  refine (wk_pack2 _).mono ?_
  rintro e w2 ⟨rfl, b2⟩
  have A2 := Lib.hid (A1.out.trans b2); clear b2
  go_wp2_with fail
  refine (wk_parts _).mono ?_
  rintro e w3 ⟨rfl, b3⟩
  have A3 := Lib.hid (A2.out.trans b3); clear b3
  go_wp2_with fail
  refine (wk_next _).mono ?_
  rintro e w4 ⟨rfl, b4⟩
  have A4 := Lib.hid (A3.out.trans b4); clear b4
  go_wp2_with fail
  refine (wk_next2 _).mono ?_
  rintro e w5 ⟨rfl, b5⟩
  have A5 := Lib.hid (A4.out.trans b5); clear b5
  go_wp2_with fail
  refine (wk_next3 _).mono ?_
  rintro e w6 ⟨rfl, b6⟩
  have A6 := Lib.hid (A5.out.trans b6); clear b6
  go_wp2_with fail
  refine (wk_parse _ (HV.out _ A6.out)).mono ?_
  rintro e w7 ⟨rfl, b7⟩
  have A7 := Lib.hid (A6.out.trans b7); clear b7
  have HT := Lib.hid (wk_text _ (HV.out _ A7.out))
  have HT2 := Lib.hid (fun W (h : Adds w W) => wk_text2 _ (HV.out W h))
  go_wp2_with (first
    | (go_at_call 27; refine (num3_any _ _).mono ?_; rintro e w' ⟨rfl, rfl⟩)
    | (go_at_call 32; first | (refine HT.out.mono ?_; rintro e w8 ⟨rfl, b8⟩; have A8 := Lib.hid (A7.out.trans b8); clear b8) | (refine (HT2.out _ A8.out).mono ?_; rintro e w9 ⟨rfl, b9⟩; have A9 := Lib.hid (A8.out.trans b9); clear b9)))
  go_ret
  exact ⟨rfl, A9.out⟩
end Go.Proofs.YtlbloehhmpnkgaaDoor
