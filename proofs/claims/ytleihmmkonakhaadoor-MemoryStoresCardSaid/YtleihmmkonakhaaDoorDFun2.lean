/- Contracts of what a digest tells, and of what is told of none. -/
import Derived.Test.YtleihmmkonakhaaDoorDFun
namespace Go.Proofs.YtleihmmkonakhaaDoor
open Go Go.RowKit

theorem filled_full (b bits many : Nat) (w : World) (hB : Blk w b (digK 256 bits many)) :
    Calls Tryd.prog 57 #[.pointer (some ⟨b, 0, none⟩)] w fun e w' => e = .returned (.bool true) ∧ w = w' := by
  have hc := (hB.cell 1).trans (digK_tab 256 bits many 1 (by omega))
  have hv : tabV 256 1 = .int .u64 (dnK 8 1 : Nat) := rfl
  rw [hv] at hc
  have hne : ((dnK 8 1 : Nat) : Int) != 0 := by decide
  obtain ⟨V, hV⟩ : ∃ V, dnK 8 1 = V := ⟨_, rfl⟩
  rw [hV] at hc hne
  clear hV hv hB
  go_enter Tryd.func57, Tryd.ntmps57
  go_wp2
  go_ret
  exact ⟨rfl, rfl⟩
theorem filled_zero (b bits many : Nat) (w : World) (hB : Blk w b (digK 0 bits many)) :
    Calls Tryd.prog 57 #[.pointer (some ⟨b, 0, none⟩)] w fun e w' => e = .returned (.bool false) ∧ w = w' := by
  have hc := (hB.cell 1).trans (digK_tab 0 bits many 1 (by omega))
  have hv : tabV 0 1 = .int .u64 0 := rfl
  rw [hv] at hc
  clear hv hB
  go_enter Tryd.func57, Tryd.ntmps57
  go_wp2
  go_ret
  exact ⟨rfl, rfl⟩

theorem isNone_nil (w : World) :
    Calls Tryd.prog 45 #[.pointer none] w fun e w' => e = .returned (.bool true) ∧ w = w' := by
  go_enter Tryd.func45, Tryd.ntmps45
  go_wp2
  go_ret
  exact ⟨rfl, rfl⟩
theorem isNone_full (b bits many : Nat) (w : World) (hB : Blk w b (digK 256 bits many)) :
    Calls Tryd.prog 45 #[.pointer (some ⟨b, 0, none⟩)] w fun e w' => e = .returned (.bool false) ∧ w = w' := by
  have HF := Lib.hid (filled_full b bits many w hB)
  clear hB
  go_enter Tryd.func45, Tryd.ntmps45
  go_wp2_with (go_at_call 57; refine HF.out.mono ?_; rintro e w' ⟨rfl, rfl⟩)
  go_ret
  exact ⟨rfl, rfl⟩
theorem isNone_zero (b bits many : Nat) (w : World) (hB : Blk w b (digK 0 bits many)) :
    Calls Tryd.prog 45 #[.pointer (some ⟨b, 0, none⟩)] w fun e w' => e = .returned (.bool true) ∧ w = w' := by
  have HF := Lib.hid (filled_zero b bits many w hB)
  clear hB
  go_enter Tryd.func45, Tryd.ntmps45
  go_wp2_with (go_at_call 57; refine HF.out.mono ?_; rintro e w' ⟨rfl, rfl⟩)
  go_ret
  exact ⟨rfl, rfl⟩

/-- What is a digest that no call made: none, or a zero one. -/
def NoDig (w : World) (v : Value) : Prop := v = .pointer none ∨ ∃ b, v = .pointer (some ⟨b, 0, none⟩) ∧ Blk w b (digK 0 0 0)
theorem NoDig.adds {w w' : World} {v : Value} (h : NoDig w v) (ha : Adds w w') : NoDig w' v := by
  rcases h with h | ⟨b, h, k⟩
  · exact .inl h
  · exact .inr ⟨b, h, k.adds ha⟩
theorem isNone_no (v : Value) (w : World) (h : NoDig w v) :
    Calls Tryd.prog 45 #[v] w fun e w' => e = .returned (.bool true) ∧ w = w' := by
  rcases h with rfl | ⟨b, rfl, k⟩
  · exact isNone_nil w
  · exact isNone_zero b 0 0 w k

theorem not_u64 {x : Nat} (h : x < 18446744073709551616) : bits .xor .u64 IntKind.u64.max (x : Int) = ((all1 - x : Nat) : Int) := by
  have e : IntKind.u64.max = ((18446744073709551615 : Nat) : Int) := rfl
  rw [e, u64_xor_nat _ _ (by omega) h]
  have h2 := congrArg BitVec.toNat (BitVec.allOnes_xor (x := BitVec.ofNat 64 x))
  simp only [BitVec.toNat_xor, BitVec.toNat_allOnes, BitVec.toNat_not, BitVec.toNat_ofNat] at h2
  rw [Nat.mod_eq_of_lt (show x < 2 ^ 64 from h)] at h2
  exact congrArg Int.ofNat h2

theorem sum_full (b : Nat) (bits many : Nat) (hb : U64 bits) (w : World) (hB : Blk w b (digK 256 bits many)) :
    Calls Tryd.prog 35 #[.pointer (some ⟨b, 0, none⟩)] w fun e w' => e = .returned (.int .u64 (all1 - bits : Nat)) ∧ w = w' := by
  have HN := Lib.hid (isNone_full b bits many w hB)
  have hc := (hB.cell 256).trans (digK_bits _ _ _)
  have HX := Lib.hid (not_u64 hb)
  clear hB hb
  go_enter Tryd.func35, Tryd.ntmps35
  go_wp2_with (go_at_call 45; refine HN.out.mono ?_; rintro e w' ⟨rfl, rfl⟩)
  go_ret
  exact ⟨ret_int HX.out, rfl⟩
theorem sum_no (v : Value) (w : World) (h : NoDig w v) :
    Calls Tryd.prog 35 #[v] w fun e w' => e = .returned (.int .u64 0) ∧ w = w' := by
  have HN := Lib.hid (isNone_no v w h)
  clear h
  go_enter Tryd.func35, Tryd.ntmps35
  go_wp2_with (go_at_call 45; refine HN.out.mono ?_; rintro e w' ⟨rfl, rfl⟩)
  go_ret
  exact ⟨rfl, rfl⟩
theorem write_no (v l : Value) (w : World) (h : NoDig w v) :
    Calls Tryd.prog 47 #[v, l] w fun e w' => e = .returned (.int .i64 1) ∧ w = w' := by
  have HN := Lib.hid (isNone_no v w h)
  clear h
  go_enter Tryd.func47, Tryd.ntmps47
  go_wp2
  refine wp_scope_fwd 0 rfl ?_
  go_wp2_with (go_at_call 45; refine HN.out.mono ?_; rintro e w' ⟨rfl, rfl⟩)
  go_step3
  refine ⟨rfl, ?_⟩
  go_wp2
  rw [Exit.noGoto_ret]
  go_ret
  exact ⟨rfl, rfl⟩
theorem number_no (v : Value) (n x : Int) (w : World) (h : NoDig w v) :
    Calls Tryd.prog 34 #[v, .int .u64 n, .int .i64 x] w fun e w' => e = .returned (.int .i64 1) ∧ w = w' := by
  have HN := Lib.hid (isNone_no v w h)
  clear h
  go_enter Tryd.func34, Tryd.ntmps34
  go_wp2
  refine wp_scope_fwd 0 rfl ?_
  go_wp2_with (go_at_call 45; refine HN.out.mono ?_; rintro e w' ⟨rfl, rfl⟩)
  go_step3
  refine ⟨rfl, ?_⟩
  go_wp2
  rw [Exit.noGoto_ret]
  go_ret
  exact ⟨rfl, rfl⟩
end Go.Proofs.YtleihmmkonakhaaDoor
