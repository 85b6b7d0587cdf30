/- Is there one at a place; is a number within bounds; are all: contracts. -/
import Derived.Test.YtfclclckcjjnkaaGreatDoorGMem
namespace Go.Proofs.YtfclclckcjjnkaaGreatDoor
open Go Go.RowKit Go.Shelf

def hasB (len : Nat) (at_ : Int) : Bool := decide (0 ≤ at_ ∧ at_ < (len : Int))
set_option maxRecDepth 100000 in
theorem hasF (ao : Option Addr) (len cap : Nat) (x : Int) (w : World) : Calls Tryz.prog 106 #[.slice ao len cap, .int .i64 x] w fun e w' => e = .returned (.bool (hasB len x)) ∧ w = w' := by
  by_cases h0 : 0 ≤ x
  · by_cases h1 : x < (len : Int)
    · have e : hasB len x = true := by unfold hasB; rw [decide_eq_true_eq]; exact ⟨h0, h1⟩
      rw [e]
      go_enter Tryz.func106, Tryz.ntmps106
      go_wp2
      go_ret
      exact ⟨rfl, rfl⟩
    · have e : hasB len x = false := by unfold hasB; rw [decide_eq_false_iff_not]; omega
      rw [e]
      go_enter Tryz.func106, Tryz.ntmps106
      go_wp2
      go_ret
      exact ⟨rfl, rfl⟩
  · have e : hasB len x = false := by unfold hasB; rw [decide_eq_false_iff_not]; omega
    rw [e]
    go_enter Tryz.func106, Tryz.ntmps106
    go_wp2
    go_ret
    exact ⟨rfl, rfl⟩
set_option maxRecDepth 100000 in
theorem hasI (ao : Option Addr) (len cap : Nat) (x : Int) (w : World) : Calls Tryz.prog 107 #[.slice ao len cap, .int .i64 x] w fun e w' => e = .returned (.bool (hasB len x)) ∧ w = w' := by
  by_cases h0 : 0 ≤ x
  · by_cases h1 : x < (len : Int)
    · have e : hasB len x = true := by unfold hasB; rw [decide_eq_true_eq]; exact ⟨h0, h1⟩
      rw [e]
      go_enter Tryz.func107, Tryz.ntmps107
      go_wp2
      go_ret
      exact ⟨rfl, rfl⟩
    · have e : hasB len x = false := by unfold hasB; rw [decide_eq_false_iff_not]; omega
      rw [e]
      go_enter Tryz.func107, Tryz.ntmps107
      go_wp2
      go_ret
      exact ⟨rfl, rfl⟩
  · have e : hasB len x = false := by unfold hasB; rw [decide_eq_false_iff_not]; omega
    rw [e]
    go_enter Tryz.func107, Tryz.ntmps107
    go_wp2
    go_ret
    exact ⟨rfl, rfl⟩

def inB (lo hi x : Int) : Bool := decide (lo ≤ x ∧ x ≤ hi)
/-- The ask of a number whether it is within bounds. -/
def AskW (w : World) (v : Value) (lo hi : Int) : Prop := ∃ b1 b2, v = .func (.func 148) #[] #[.pointer (some ⟨b1, 0, none⟩), .pointer (some ⟨b2, 0, none⟩)] ∧ w.cell? ⟨b1, 0, none⟩ = some (.int .i64 lo) ∧ w.cell? ⟨b2, 0, none⟩ = some (.int .i64 hi)
theorem AskW.adds {w w' : World} {v : Value} {lo hi : Int} (h : AskW w v lo hi) (ha : Adds w w') : AskW w' v lo hi := by
  obtain ⟨b1, b2, e, h1, h2⟩ := h
  exact ⟨b1, b2, e, ha.cellAt h1, ha.cellAt h2⟩
set_option maxRecDepth 100000 in
theorem within_any (lo hi : Int) (w : World) : Calls Tryz.prog 113 #[.int .i64 lo, .int .i64 hi] w fun e w' => ∃ v, e = .returned v ∧ AskW w' v lo hi ∧ Gr w w' := by
  go_enter Tryz.func113, Tryz.ntmps113
  go_wp2
  go_ret
  exact ⟨_, rfl, ⟨_, _, rfl, by simp, by simp⟩, (Gr.new _ _).alloc _⟩
set_option maxRecDepth 100000 in
theorem ask_any (b1 b2 : Nat) (lo hi x : Int) (w : World) (h1 : w.cell? ⟨b1, 0, none⟩ = some (.int .i64 lo)) (h2 : w.cell? ⟨b2, 0, none⟩ = some (.int .i64 hi)) :
    Calls Tryz.prog 148 #[.int .i64 x, .pointer (some ⟨b1, 0, none⟩), .pointer (some ⟨b2, 0, none⟩)] w fun e w' => e = .returned (.bool (inB lo hi x)) ∧ w = w' := by
  by_cases l1 : lo ≤ x
  · by_cases l2 : x ≤ hi
    · have e : inB lo hi x = true := by unfold inB; rw [decide_eq_true_eq]; exact ⟨l1, l2⟩
      rw [e]
      go_enter Tryz.func148, Tryz.ntmps148
      go_wp2
      go_ret
      exact ⟨rfl, rfl⟩
    · have e : inB lo hi x = false := by unfold inB; rw [decide_eq_false_iff_not]; omega
      rw [e]
      go_enter Tryz.func148, Tryz.ntmps148
      go_wp2
      go_ret
      exact ⟨rfl, rfl⟩
  · have e : inB lo hi x = false := by unfold inB; rw [decide_eq_false_iff_not]; omega
    rw [e]
    go_enter Tryz.func148, Tryz.ntmps148
    go_wp2
    go_ret
    exact ⟨rfl, rfl⟩
/-- A slice of a few numbers. -/
def IntsW (w : World) (v : Value) (l : List Int) : Prop := l.length ≤ 1000 ∧ ∃ b cap, v = .slice (some ⟨b, 0, none⟩) l.length cap ∧ ∀ i, i < l.length → w.cell? ⟨b, i, none⟩ = some (.int .i64 (l.getD i 0))
theorem IntsW.adds {w w' : World} {v : Value} {l : List Int} (h : IntsW w v l) (ha : Adds w w') : IntsW w' v l := by
  obtain ⟨h0, b, cap, e, h1⟩ := h
  exact ⟨h0, b, cap, e, fun i hi => ha.cellAt (h1 i hi)⟩
theorem all_take {α : Type} (p : α → Bool) (l : List α) (z : α) (k : Nat) (h : (l.take k).all p = true) (hk : k < l.length) (hp : p (l.getD k z) = true) : (l.take (k + 1)).all p = true := by
  rw [List.take_add_one, List.all_append, h]
  have e : l[k]? = some (l.getD k z) := by simp [List.getD_eq_getElem?_getD, hk]
  rw [e]
  simpa using hp
theorem all_not {α : Type} (p : α → Bool) (l : List α) (z : α) (k : Nat) (hk : k < l.length) (hp : p (l.getD k z) = false) : l.all p = false := by
  rw [List.all_eq_false]
  refine ⟨l.getD k z, ?_, by rw [hp]; simp⟩
  rw [List.getD_eq_getElem?_getD, List.getElem?_eq_getElem hk]
  exact List.getElem_mem hk
set_option maxRecDepth 100000 in
set_option maxHeartbeats 2000000 in
theorem everyI (v u : Value) (lo hi : Int) (l : List Int) (w : World) (ha : AskW w v lo hi) (hl : IntsW w u l) : Calls Tryz.prog 112 #[v, u] w fun e w' => e = .returned (.bool (l.all (inB lo hi))) ∧ w = w' := by
  obtain ⟨b1, b2, rfl, h1, h2⟩ := ha
  obtain ⟨hn, b, cap, rfl, hc⟩ := hl
  have HA := Lib.hid (fun x => ask_any b1 b2 lo hi x w h1 h2)
  have HC := Lib.hid hc
  have HN := Lib.hid hn
  clear h1 h2 hc hn
  go_enter Tryz.func112, Tryz.ntmps112
  go_wp2
  go_loop [9] (fun i => ∃ k : Nat, i = .int .i64 k ∧ k ≤ l.length ∧ Hid ((l.take k).all (inB lo hi) = true)) (fun i => l.length + 1 - (intOf i).toNat)
  case atStart => exact ⟨0, rfl, Nat.zero_le _, Lib.hid (by simp)⟩
  case round =>
    obtain ⟨k, rfl, hk, HT⟩ := hrel
    have hlI : (l.length : Int) ≤ 1000 := by have := HN.out; omega
    by_cases hlt : k < l.length
    · have ck := HC.out k hlt
      obtain ⟨x, hx⟩ : ∃ x, l.getD k 0 = x := ⟨_, rfl⟩
      rw [hx] at ck
      have HLt := Lib.hid (And.intro hlt hx)
      have hltI : (k : Int) < (l.length : Int) := by omega
      obtain ⟨r, hr⟩ : ∃ r, inB lo hi x = r := ⟨_, rfl⟩
      have HX := Lib.hid (HA.out x)
      rw [hr] at HX
      have HR := Lib.hid hr
      clear hr hx hlt
      cases r
      · go_wp2_with (go_at_call 148; refine HX.out.mono ?_; rintro e w1 ⟨rfl, rfl⟩)
        go_ret
        rw [all_not (inB lo hi) l 0 k HLt.out.1 (by rw [HLt.out.2]; exact HR.out)]
        exact ⟨rfl, rfl⟩
      · go_wp2_with (go_at_call 148; refine HX.out.mono ?_; rintro e w1 ⟨rfl, rfl⟩)
        go_round
        case rel => exact ⟨k + 1, by go_num, HLt.out.1, Lib.hid (all_take (inB lo hi) l 0 k HT.out HLt.out.1 (by rw [HLt.out.2]; exact HR.out))⟩
        case measure => simp [intOf]; have := HLt.out.1; omega
    · have e : l.all (inB lo hi) = true := by have := HT.out; rwa [List.take_of_length_le (by omega)] at this
      have HE := Lib.hid e
      have hge : ¬ (k : Int) < (l.length : Int) := by omega
      clear hlt e
      go_wp2
      go_ret
      rw [HE.out]
      exact ⟨rfl, rfl⟩
end Go.Proofs.YtfclclckcjjnkaaGreatDoor
