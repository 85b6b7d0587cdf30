/- Merged: MR3, M3. -/
import Derived.Test.YthhegcngkpfcoaaGreatDoorE37
import Derived.Test.YthhegcngkpfcoaaGreatDoorE34
import Derived.Test.YthhegcngkpfcoaaGreatDoorE38
import Derived.Test.YthhegcngkpfcoaaGreatDoorE33
import Derived.Test.YthhegcngkpfcoaaGreatDoorE18
namespace Go.Proofs.YthhegcngkpfcoaaGreatDoor
open Go Go.RowKit Go.Shelf Go.Lib

theorem u64_sum (l : List UInt8) : U64 (sumS l) := by have := sumS_lt l; unfold U64; omega
set_option maxRecDepth 100000 in
set_option maxHeartbeats 4000000 in
theorem refSealed_any {n : Nat} (v : Value) (l : List UInt8) (w : World) (hv : Bytes n w v l) (hl : l.length ≤ 70368744177664) :
    Calls Tryz.prog 15 #[v] w (GivesB (sealB l) id w) := by
  have HV := Lib.hid hv
  obtain ⟨ao, cap, rfl, h1, h2, _⟩ := hv
  unfold maxLen at h2
  have HL := Lib.hid hl
  have hf8 : fixE (sumS l) 8 = 0 := by unfold fixE; rw [if_pos (by decide)]; exact if_pos (sumS_lt8 l)
  have hlf : (fixB (sumS l) 8).length = 8 := by unfold fixB; rw [if_pos hf8]; exact leB_length _ _
  have HLF := Lib.hid hlf
  have HO := Lib.hid (refOf_any _ l w HV.out)
  have HX := Lib.hid (refFixed_any (sumS l) (u64_sum l) 8 w)
  rw [hf8] at HX
  have HE := Lib.hid (fun W : World => own_empty W)
  clear h1 h2 hl hf8 hlf
  obtain ⟨sm, hsm⟩ : ∃ sm, sumS l = sm := ⟨_, rfl⟩
  unfold sealB
  rw [hsm] at HO HX HLF ⊢
  clear hsm
  obtain ⟨ln, hln⟩ : ∃ ln, l.length = ln := ⟨_, rfl⟩
  have HLn := Lib.hid hln
  rw [hln] at HO HV ⊢
  clear hln
  go_enter Tryz.func15, Tryz.ntmps15
  go_wp2_with (first
    | (go_at_call 28; refine HO.out.mono ?_; rintro e w1 ⟨rfl, rfl⟩)
    | (go_at_call 27; refine HX.out.mono ?_; rintro e w2 ⟨v2, rfl, o2, b2⟩; have O2 := Lib.hid o2; have B2 := Lib.hid b2; clear o2 b2)
    | (at_builtin; refine wp_append_bytes rfl (.tmp 11) (.tmp 12) rfl w2.heap.size _ [] rfl (by exact (HE.out _)) _ l _ rfl (by exact (HV.out.here.below B2.out).here.below (Gr.new w2 (.cells #[] 5)).adds) (by have := HL.out; simp; omega) (by simp) ?_; intro v3 w3 o3 b3; have O3 := Lib.hid o3; have B3 := Lib.hid (Below.trans (Gr.new w2 (.cells #[] 5)).adds b3); clear o3 b3)
    | (at_builtin; refine wp_append_bytes rfl (.tmp 13) (.tmp 14) rfl w2.heap.size _ ([] ++ l) rfl (by exact O3.out) _ (fixB sm 8) _ rfl (by exact (O2.out.adds B3.out).bytes) (by have := HL.out; have := HLF.out; rw [List.nil_append]; omega) (by exact B3.out.size) ?_; intro v4 w4 o4 b4; have O4 := Lib.hid o4; have B4 := Lib.hid (Below.trans B3.out b4); clear o4 b4))
  go_ret
  exact ⟨_, rfl, O4.out.lower B2.out.size, Adds.trans B2.out B4.out⟩
end Go.Proofs.YthhegcngkpfcoaaGreatDoor
namespace Go.Proofs.YthhegcngkpfcoaaGreatDoor
open Go Go.RowKit Go.Shelf Go.Lib

theorem rfE_ok (l : List UInt8) (wd : Nat) (hw : isW wd) (h : wd ≤ l.length) : rfE l (wd : Int) = 0 := by
  unfold rfE
  rw [if_pos hw, if_neg (by omega)]
theorem rfN_ok (l : List UInt8) (wd : Nat) (hw : isW wd) (h : wd = l.length) : rfN l (wd : Int) = unB l := by
  unfold rfN
  rw [rfE_ok l wd hw (by omega), if_pos rfl, List.take_of_length_le (by omega)]

/-- What the reader's bytes take is, as a function value. -/
def takeF (br : Nat) : Value := .func (.func 45) #[.pointer (some ⟨br, 0, none⟩)] #[]

set_option maxHeartbeats 1000000 in
theorem mnumI_no {n : Nat} (br : Nat) (v : Value) (l : List UInt8) (k many : Nat) (w : World) (hv : Bytes n w v l) (hr : BkS 68 w br (rdC v k)) (hk : k ≤ l.length) (h : l.length < k + many) :
    Calls Tryz.prog 44 #[takeF br, .int .i64 (many : Int)] w (MkPost (some 110) (.slice none 0 0) br v k w) := by
  have HT := Lib.hid (mtake_no br v l k many w hv hr hk h)
  clear hv hr hk h
  unfold takeF
  go_enter Tryz.func44, Tryz.ntmps44
  go_wp2_with (go_at_call 45; refine HT.out.mono ?_; rintro e w1 ⟨rfl, ht⟩)
  exact ⟨rfl, rfl, ht⟩

/-- What octet.ReadFixed answers of all the bytes that were taken. -/
theorem mread {n : Nat} (v' : Value) (l : List UInt8) (k many : Nat) (w : World) (hv' : Bytes n w v' ((l.drop k).take many)) (hw : Widths w) (h : k + many ≤ l.length) (hm : isW many) :
    Calls Tryz.prog 68 #[v', .int .i64 (many : Int)] w fun e w' => e = .returned (.tuple #[.int .u64 (unB ((l.drop k).take many) : Nat), .int .i64 0]) ∧ Adds w w' := by
  have hl : ((l.drop k).take many).length = many := by rw [List.length_take, List.length_drop]; omega
  have := readFixed_any v' ((l.drop k).take many) (many : Int) w hv' hw
  rwa [rfE_ok _ many hm (by omega), rfN_ok _ many hm (by omega)] at this

set_option maxHeartbeats 1000000 in
theorem mnumI_yes {n : Nat} (br : Nat) (v : Value) (l : List UInt8) (k many : Nat) (w : World) (hn : n ≤ br) (hg : 1 < n) (hv : Bytes n w v l) (hw : Widths w) (hr : BkS 68 w br (rdC v k)) (h : k + many ≤ l.length) (hm : isW many) (hm7 : many ≤ 7) :
    Calls Tryz.prog 44 #[takeF br, .int .i64 (many : Int)] w (MkPost none (.int .i64 (unB ((l.drop k).take many) : Nat)) br v (k + many) w) := by
  obtain ⟨v', HT, hv'⟩ := mtake_yes br v l k many w hv hr h
  have HT := Lib.hid HT
  have hl : ((l.drop k).take many).length = many := by rw [List.length_take, List.length_drop]; omega
  have h2 := unB_lt ((l.drop k).take many)
  rw [hl] at h2
  have h3 : (256 : Nat) ^ many ≤ 256 ^ 7 := Nat.pow_le_pow_right (by decide) hm7
  have HR := Lib.hid (fun (W : World) (hb : Below n w W) (hW : Widths W) => mread v' l k many W (hv'.below hb) hW h hm)
  obtain ⟨x, hx⟩ : ∃ x, unB ((l.drop k).take many) = x := ⟨_, rfl⟩
  rw [hx] at HR h2 ⊢
  have hx2 : x < 72057594037927936 := by omega
  have HB := Lib.hid (show ∀ W, TnS br w W → Below n w W ∧ Widths W from fun W h => have hb := h.below8 hn (by have := hr.lt; omega); ⟨hb, hw.low hb hg⟩)
  clear hx hl h2 h3 hm hm7 h hv hw hr hn hv' hg
  unfold takeF
  go_enter Tryz.func44, Tryz.ntmps44
  go_wp2_with (first
    | (go_at_call 45; refine HT.out.mono ?_; rintro e w1 ⟨rfl, hb1, ht1⟩; have HB1 := Lib.hid hb1; have HT1 := Lib.hid ht1; clear hb1 ht1)
    | (go_at_call 68; refine (HR.out _ (HB.out _ HT1.out).1 (HB.out _ HT1.out).2).mono ?_; rintro e w2 ⟨rfl, ha⟩; have HA2 := Lib.hid ha; clear ha))
  go_ret
  refine ⟨?_, HB1.out.adds HA2.out, HT1.out.trans (TnS.of_adds _ HA2.out)⟩
  simp
set_option maxHeartbeats 1000000 in
theorem mnumU_no {n : Nat} (br : Nat) (v : Value) (l : List UInt8) (k many : Nat) (w : World) (hv : Bytes n w v l) (hr : BkS 68 w br (rdC v k)) (hk : k ≤ l.length) (h : l.length < k + many) :
    Calls Tryz.prog 48 #[takeF br, .int .i64 (many : Int)] w (MkPost (some 110) (.slice none 0 0) br v k w) := by
  have HT := Lib.hid (mtake_no br v l k many w hv hr hk h)
  clear hv hr hk h
  unfold takeF
  go_enter Tryz.func48, Tryz.ntmps48
  go_wp2_with (go_at_call 45; refine HT.out.mono ?_; rintro e w1 ⟨rfl, ht⟩)
  exact ⟨rfl, rfl, ht⟩

set_option maxHeartbeats 1000000 in
theorem mnumU_yes {n : Nat} (br : Nat) (v : Value) (l : List UInt8) (k many : Nat) (w : World) (hn : n ≤ br) (hg : 1 < n) (hv : Bytes n w v l) (hw : Widths w) (hr : BkS 68 w br (rdC v k)) (h : k + many ≤ l.length) (hm : isW many) :
    Calls Tryz.prog 48 #[takeF br, .int .i64 (many : Int)] w (MkPost none (.int .u64 (unB ((l.drop k).take many) : Nat)) br v (k + many) w) := by
  obtain ⟨v', HT, hv'⟩ := mtake_yes br v l k many w hv hr h
  have HT := Lib.hid HT
  have hl : ((l.drop k).take many).length = many := by rw [List.length_take, List.length_drop]; omega
  have h2 := unB_lt ((l.drop k).take many)
  rw [hl] at h2
  have hm8 : many ≤ 8 := by unfold isW at hm; simp at hm; omega
  have h3 : (256 : Nat) ^ many ≤ 256 ^ 8 := Nat.pow_le_pow_right (by decide) hm8
  have HR := Lib.hid (fun (W : World) (hb : Below n w W) (hW : Widths W) => mread v' l k many W (hv'.below hb) hW h hm)
  obtain ⟨x, hx⟩ : ∃ x, unB ((l.drop k).take many) = x := ⟨_, rfl⟩
  rw [hx] at HR h2 ⊢
  have hx2 : x < 18446744073709551616 := by omega
  have HB := Lib.hid (show ∀ W, TnS br w W → Below n w W ∧ Widths W from fun W h => have hb := h.below8 hn (by have := hr.lt; omega); ⟨hb, hw.low hb hg⟩)
  clear hx hl h2 h3 hm hm8 h hv hw hr hn hv' hg
  unfold takeF
  go_enter Tryz.func48, Tryz.ntmps48
  go_wp2_with (first
    | (go_at_call 45; refine HT.out.mono ?_; rintro e w1 ⟨rfl, hb1, ht1⟩; have HB1 := Lib.hid hb1; have HT1 := Lib.hid ht1; clear hb1 ht1)
    | (go_at_call 68; refine (HR.out _ (HB.out _ HT1.out).1 (HB.out _ HT1.out).2).mono ?_; rintro e w2 ⟨rfl, ha⟩; have HA2 := Lib.hid ha; clear ha))
  go_ret
  refine ⟨?_, HB1.out.adds HA2.out, HT1.out.trans (TnS.of_adds _ HA2.out)⟩
  simp
end Go.Proofs.YthhegcngkpfcoaaGreatDoor
