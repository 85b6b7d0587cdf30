/- Merged: M1, M2, M3. -/
import Derived.BigQuiet
import Derived.Test.YtfclclckcjjnkaaGreatDoorBB
import Derived.Test.YtfclclckcjjnkaaGreatDoorIR2
import Derived.Test.YtfclclckcjjnkaaGreatDoorIR4
namespace Go.Proofs.YtfclclckcjjnkaaGreatDoor
open Go Go.RowKit Go.Lib

set_option maxHeartbeats 400000 in
/-- has: whether so many stand from a place on. -/
theorem has_any (ao : Option Addr) (len cap i many : Nat) (hi : i ≤ len) (hm : len ≤ 9223372036854775807) (w : World) :
    Calls Tryz.prog 126 #[.slice ao len cap, .int .i64 (i : Int), .int .i64 (many : Int)] w fun e w' => e = .returned (.bool (decide (i + many ≤ len))) ∧ w = w' := by
  go_enter Tryz.func126, Tryz.ntmps126
  go_wp2
  go_ret
  exact ⟨ret_bool (by rw [Bool.eq_iff_iff, decide_eq_true_eq, decide_eq_true_eq]; omega), rfl⟩

set_option maxHeartbeats 400000 in
/-- cut: so many from a place on. -/
theorem mcut_any (ao : Option Addr) (len cap : Nat) (i many : Nat) (w : World) (h1 : len ≤ cap) (h2 : cap ≤ 9223372036854775807) (h : i + many ≤ len) :
    Calls Tryz.prog 82 #[.slice ao len cap, .int .i64 (i : Int), .int .i64 (many : Int)] w fun e w' => e = .returned (cutV ao i many) ∧ w = w' := by
  by_cases h0 : many = 0
  · subst h0
    go_enter Tryz.func82, Tryz.ntmps82
    go_wp2
    go_ret
    exact ⟨rfl, rfl⟩
  · have e : cutV ao i many = .slice (ao.map (·.add i)) (i + many - i) (i + many - i) := by
      unfold cutV; rw [if_neg h0, show i + many - i = many by omega]
    rw [e]; clear e
    go_enter Tryz.func82, Tryz.ntmps82
    go_wp2
    go_ret
    exact ⟨rfl, rfl⟩

set_option maxHeartbeats 400000 in
/-- from: what stands from a place on. -/
theorem mfrom_any (ao : Option Addr) (len cap i : Nat) (w : World) (h1 : len ≤ cap) (h2 : cap ≤ 9223372036854775807) (h : i ≤ len) :
    Calls Tryz.prog 169 #[.slice ao len cap, .int .i64 (i : Int)] w fun e w' => e = .returned (cutV ao i (len - i)) ∧ w = w' := by
  have K : ∀ W : World, Calls Tryz.prog 82 #[.slice ao len cap, .int .i64 (i : Int), .int .i64 ((len : Int) - i)] W fun e w' => e = .returned (cutV ao i (len - i)) ∧ W = w' := by
    intro W
    have H := mcut_any ao len cap i (len - i) W h1 h2 (by omega)
    rwa [show ((len - i : Nat) : Int) = (len : Int) - i by omega] at H
  generalize cutV ao i (len - i) = u at K ⊢
  go_enter Tryz.func169, Tryz.ntmps169
  go_wp2_with (go_at_call 82; refine (K _).mono ?_; rintro e w1 ⟨rfl, rfl⟩)
  go_ret
  exact ⟨rfl, rfl⟩
end Go.Proofs.YtfclclckcjjnkaaGreatDoor
namespace Go.Proofs.YtfclclckcjjnkaaGreatDoor
open Go Go.RowKit Go.Shelf Go.Lib

/-- What a reader's call does: it answers and stands further on, or gives up with a refusal. -/
def MkPost (r : Option Int) (val : Value) (br : Nat) (v : Value) (k : Nat) (w : World) (e : Ending) (w' : World) : Prop :=
  match r with
  | none => e = .returned val ∧ BkS 91 w' br (rdC v k) ∧ TnS br w w'
  | some er => e = .panicked [{ v := .iface 93 (.int .i64 er), recovered := false }] ∧ TnS br w w'

theorem has_is (ao : Option Addr) (len cap i many : Nat) (b : Bool) (hb : decide (i + many ≤ len) = b) (hi : i ≤ len) (hm : len ≤ 9223372036854775807) (w : World) :
    Calls Tryz.prog 126 #[.slice ao len cap, .int .i64 (i : Int), .int .i64 (many : Int)] w fun e w' => e = .returned (.bool b) ∧ w = w' := hb ▸ has_any ao len cap i many hi hm w

set_option maxHeartbeats 1000000 in
theorem mtake_no {n : Nat} (br : Nat) (v : Value) (l : List UInt8) (k many : Nat) (w : World) (hv : Bytes n w v l) (hr : BkS 91 w br (rdC v k)) (hk : k ≤ l.length) (h : l.length < k + many) :
    Calls Tryz.prog 80 #[.pointer (some ⟨br, 0, none⟩), .int .i64 (many : Int)] w (MkPost (some 110) (.slice none 0 0) br v k w) := by
  obtain ⟨ao, cap, rfl, h1, h2, h3⟩ := id hv
  clear hv h3
  have c0 : w.cell? ⟨br, 0, none⟩ = some (.slice ao l.length cap) := hr.cell 0
  have c1 : w.cell? ⟨br, 1, none⟩ = some (.int .i64 (k : Int)) := hr.cell 1
  clear hr
  unfold maxLen at h2
  have HN := Lib.hid (has_is ao l.length cap k many false (by simp; omega) hk (by omega))
  clear hk h h1 h2
  go_enter Tryz.func80, Tryz.ntmps80
  go_wp2_with fail
  go_quiet ((go_at_call 126; exact quiet_left (HN.out _)))
  go_wp2_with fail
  exact ⟨rfl, rfl, TnS.of_adds br (Adds.drewN w _)⟩

set_option maxHeartbeats 1000000 in
theorem mtake_yes {n : Nat} (br : Nat) (v : Value) (l : List UInt8) (k many : Nat) (w : World) (hv : Bytes n w v l) (hr : BkS 91 w br (rdC v k)) (h : k + many ≤ l.length) :
    ∃ v', Calls Tryz.prog 80 #[.pointer (some ⟨br, 0, none⟩), .int .i64 (many : Int)] w (MkPost none v' br v (k + many) w) ∧ Bytes n w v' ((l.drop k).take many) := by
  obtain ⟨ao, cap, rfl, h1, h2, h3⟩ := id hv
  refine ⟨cutV ao k many, ?_, cutV_bytes hv k many h⟩
  clear hv h3
  have c0 : w.cell? ⟨br, 0, none⟩ = some (.slice ao l.length cap) := hr.cell 0
  have c1 : w.cell? ⟨br, 1, none⟩ = some (.int .i64 (k : Int)) := hr.cell 1
  have f1 : w.frozen? ⟨br, 1, none⟩ = false := hr.free 1
  have HR := Lib.hid hr
  clear hr
  unfold maxLen at h2
  have HN := Lib.hid (has_is ao l.length cap k many true (by simp; omega) (by omega) (by omega))
  have HC := Lib.hid (fun W => mcut_any ao l.length cap k many W h1 (by omega) h)
  obtain ⟨v', hv'⟩ : ∃ v', cutV ao k many = v' := ⟨_, rfl⟩
  rw [hv'] at HC ⊢
  clear hv'
  have hwr : wrap64 ((k : Int) + many) = ((k + many : Nat) : Int) := by unfold wrap64; omega
  clear h h1 h2
  go_enter Tryz.func80, Tryz.ntmps80
  go_wp2_with fail
  go_quiet ((go_at_call 126; exact quiet_left (HN.out _)))
  go_wp2_with fail
  go_quiet ((go_at_call 82; exact quiet_add_left (HC.out _)))
  go_wp2
  go_ret
  have hs := fun m => (HR.out.adds (Adds.drewN w m)).set 1 (.int .i64 ((k : Int) + many))
  refine ⟨rfl, ?_, (TnS.of_adds br (Adds.drewN w _)).trans (TnS.setCell _ _ _ _)⟩
  unfold rdC
  rw [show ((k + many : Nat) : Int) = (k : Int) + many by omega]
  exact hs _
end Go.Proofs.YtfclclckcjjnkaaGreatDoor
namespace Go.Proofs.YtfclclckcjjnkaaGreatDoor
open Go Go.RowKit Go.Shelf Go.Lib

theorem rfE_ok (l : List UInt8) (wd : Nat) (hw : isW wd) (h : wd ≤ l.length) : rfE l (wd : Int) = 0 := by
  unfold rfE
  rw [if_pos hw, if_neg (by omega)]
theorem rfN_ok (l : List UInt8) (wd : Nat) (hw : isW wd) (h : wd = l.length) : rfN l (wd : Int) = unB l := by
  unfold rfN
  rw [rfE_ok l wd hw (by omega), if_pos rfl, List.take_of_length_le (by omega)]

/-- What the reader's bytes take is, as a function value. -/
def takeF (br : Nat) : Value := .func (.func 80) #[.pointer (some ⟨br, 0, none⟩)] #[]

set_option maxHeartbeats 1000000 in
theorem mnumI_no {n : Nat} (br : Nat) (v : Value) (l : List UInt8) (k many : Nat) (w : World) (hv : Bytes n w v l) (hr : BkS 91 w br (rdC v k)) (hk : k ≤ l.length) (h : l.length < k + many) :
    Calls Tryz.prog 79 #[takeF br, .int .i64 (many : Int)] w (MkPost (some 110) (.slice none 0 0) br v k w) := by
  have HT := Lib.hid (mtake_no br v l k many w hv hr hk h)
  clear hv hr hk h
  unfold takeF
  go_enter Tryz.func79, Tryz.ntmps79
  go_wp2_with (go_at_call 80; refine HT.out.mono ?_; rintro e w1 ⟨rfl, ht⟩)
  exact ⟨rfl, rfl, ht⟩

/-- What octet.ReadFixed answers of all the bytes that were taken. -/
theorem mread {n : Nat} (v' : Value) (l : List UInt8) (k many : Nat) (w : World) (hv' : Bytes n w v' ((l.drop k).take many)) (hw : Widths w) (h : k + many ≤ l.length) (hm : isW many) :
    Calls Tryz.prog 125 #[v', .int .i64 (many : Int)] w fun e w' => e = .returned (.tuple #[.int .u64 (unB ((l.drop k).take many) : Nat), .int .i64 0]) ∧ Adds w w' := by
  have hl : ((l.drop k).take many).length = many := by rw [List.length_take, List.length_drop]; omega
  have := readFixed_any v' ((l.drop k).take many) (many : Int) w hv' hw
  rwa [rfE_ok _ many hm (by omega), rfN_ok _ many hm (by omega)] at this

set_option maxHeartbeats 1000000 in
theorem mnumI_yes {n : Nat} (br : Nat) (v : Value) (l : List UInt8) (k many : Nat) (w : World) (hn : n ≤ br) (hg : 1 < n) (hv : Bytes n w v l) (hw : Widths w) (hr : BkS 91 w br (rdC v k)) (h : k + many ≤ l.length) (hm : isW many) (hm7 : many ≤ 7) :
    Calls Tryz.prog 79 #[takeF br, .int .i64 (many : Int)] w (MkPost none (.int .i64 (unB ((l.drop k).take many) : Nat)) br v (k + many) w) := by
  obtain ⟨v', HT, hv'⟩ := mtake_yes br v l k many w hv hr h
  have HT := Lib.hid HT
  have hl : ((l.drop k).take many).length = many := by rw [List.length_take, List.length_drop]; omega
  have h2 := unB_lt ((l.drop k).take many)
  rw [hl] at h2
  have h3 : (256 : Nat) ^ many ≤ 256 ^ 7 := Nat.pow_le_pow_right (by decide) hm7
  have HR := Lib.hid (fun (W : World) (hb : Below n w W) (hW : Widths W) => mread v' l k many W (hv'.below hb) hW h hm)
  obtain ⟨x, hx⟩ : ∃ x, unB ((l.drop k).take many) = x := ⟨_, rfl⟩
  rw [hx] at HR h2 ⊢
  have hx2 : x < 72057594037927936 := by omega
  have HB := Lib.hid (show ∀ W, TnS br w W → Below n w W ∧ Widths W from fun W h => have hb := h.below8 hn (by have := hr.lt; omega); ⟨hb, hw.low hb hg⟩)
  clear hx hl h2 h3 hm hm7 h hv hw hr hn hv' hg
  unfold takeF
  go_enter Tryz.func79, Tryz.ntmps79
  go_wp2_with (first
    | (go_at_call 80; refine HT.out.mono ?_; rintro e w1 ⟨rfl, hb1, ht1⟩; have HB1 := Lib.hid hb1; have HT1 := Lib.hid ht1; clear hb1 ht1)
    | (go_at_call 125; refine (HR.out _ (HB.out _ HT1.out).1 (HB.out _ HT1.out).2).mono ?_; rintro e w2 ⟨rfl, ha⟩; have HA2 := Lib.hid ha; clear ha))
  go_ret
  refine ⟨?_, HB1.out.adds HA2.out, HT1.out.trans (TnS.of_adds _ HA2.out)⟩
  simp
set_option maxHeartbeats 1000000 in
theorem mnumU_no {n : Nat} (br : Nat) (v : Value) (l : List UInt8) (k many : Nat) (w : World) (hv : Bytes n w v l) (hr : BkS 91 w br (rdC v k)) (hk : k ≤ l.length) (h : l.length < k + many) :
    Calls Tryz.prog 83 #[takeF br, .int .i64 (many : Int)] w (MkPost (some 110) (.slice none 0 0) br v k w) := by
  have HT := Lib.hid (mtake_no br v l k many w hv hr hk h)
  clear hv hr hk h
  unfold takeF
  go_enter Tryz.func83, Tryz.ntmps83
  go_wp2_with (go_at_call 80; refine HT.out.mono ?_; rintro e w1 ⟨rfl, ht⟩)
  exact ⟨rfl, rfl, ht⟩

set_option maxHeartbeats 1000000 in
theorem mnumU_yes {n : Nat} (br : Nat) (v : Value) (l : List UInt8) (k many : Nat) (w : World) (hn : n ≤ br) (hg : 1 < n) (hv : Bytes n w v l) (hw : Widths w) (hr : BkS 91 w br (rdC v k)) (h : k + many ≤ l.length) (hm : isW many) :
    Calls Tryz.prog 83 #[takeF br, .int .i64 (many : Int)] w (MkPost none (.int .u64 (unB ((l.drop k).take many) : Nat)) br v (k + many) w) := by
  obtain ⟨v', HT, hv'⟩ := mtake_yes br v l k many w hv hr h
  have HT := Lib.hid HT
  have hl : ((l.drop k).take many).length = many := by rw [List.length_take, List.length_drop]; omega
  have h2 := unB_lt ((l.drop k).take many)
  rw [hl] at h2
  have hm8 : many ≤ 8 := by unfold isW at hm; simp at hm; omega
  have h3 : (256 : Nat) ^ many ≤ 256 ^ 8 := Nat.pow_le_pow_right (by decide) hm8
  have HR := Lib.hid (fun (W : World) (hb : Below n w W) (hW : Widths W) => mread v' l k many W (hv'.below hb) hW h hm)
  obtain ⟨x, hx⟩ : ∃ x, unB ((l.drop k).take many) = x := ⟨_, rfl⟩
  rw [hx] at HR h2 ⊢
  have hx2 : x < 18446744073709551616 := by omega
  have HB := Lib.hid (show ∀ W, TnS br w W → Below n w W ∧ Widths W from fun W h => have hb := h.below8 hn (by have := hr.lt; omega); ⟨hb, hw.low hb hg⟩)
  clear hx hl h2 h3 hm hm8 h hv hw hr hn hv' hg
  unfold takeF
  go_enter Tryz.func83, Tryz.ntmps83
  go_wp2_with (first
    | (go_at_call 80; refine HT.out.mono ?_; rintro e w1 ⟨rfl, hb1, ht1⟩; have HB1 := Lib.hid hb1; have HT1 := Lib.hid ht1; clear hb1 ht1)
    | (go_at_call 125; refine (HR.out _ (HB.out _ HT1.out).1 (HB.out _ HT1.out).2).mono ?_; rintro e w2 ⟨rfl, ha⟩; have HA2 := Lib.hid ha; clear ha))
  go_ret
  refine ⟨?_, HB1.out.adds HA2.out, HT1.out.trans (TnS.of_adds _ HA2.out)⟩
  simp
end Go.Proofs.YtfclclckcjjnkaaGreatDoor
