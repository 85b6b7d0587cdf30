/- Contracts of the reader's small steps, and of the document's Fixed and ReadFixed. -/
import Derived.Deep.QuietTactic
import Derived.BigQuiet
import Derived.Test.YtnhapmodgmkbjaaDoorW2
namespace Go.Proofs.YtnhapmodgmkbjaaDoor
open Go.RowKit

theorem quiet_left {P : Program} {f : FuncId} {args : Array Value} {w : World} {n : Nat} {v : Value}
    (h : Calls P f args (w.drewN n) fun e w' => e = .returned v ∧ w.drewN n = w') : Calls P f args (w.drewN n) fun e w'' => e = .returned v ∧ ∃ m, w'' = w.drewN m :=
  h.mono fun _ _ ⟨he, hm⟩ => ⟨he, n, hm.symm⟩

set_option maxHeartbeats 400000 in
theorem holds_any (ao : Option Addr) (len cap i many : Nat) (hi : i ≤ len) (hm : len ≤ 9223372036854775807) (w : World) :
    Calls Tryd.prog 89 #[.slice ao len cap, .int .i64 i, .int .u64 many] w fun e w' => e = .returned (.bool (decide (many ≤ len - i))) ∧ w = w' := by
  go_enter Tryd.func89, Tryd.ntmps89
  go_wp2
  go_ret
  exact ⟨ret_bool (by rw [Bool.eq_iff_iff, decide_eq_true_eq, decide_eq_true_eq]; omega), rfl⟩

theorem holds_no (ao : Option Addr) (len cap i many : Nat) (hi : i ≤ len) (hm : len ≤ 9223372036854775807) (h : len < i + many) (w : World) :
    Calls Tryd.prog 89 #[.slice ao len cap, .int .i64 i, .int .u64 many] w fun e w' => e = .returned (.bool false) ∧ w = w' := by
  have hd : decide (many ≤ len - i) = false := by simp; omega
  have H := holds_any ao len cap i many hi hm w
  rwa [hd] at H
theorem holdp_yes (ao : Option Addr) (len cap i many : Nat) (hm : len ≤ 9223372036854775807) (h : i + many ≤ len) (w : World) :
    Calls Tryd.prog 89 #[.slice ao len cap, .int .i64 i, .int .u64 many] w fun e w' => e = .returned (.bool true) ∧ w = w' := by
  have hd : decide (many ≤ len - i) = true := by simp; omega
  have H := holds_any ao len cap i many (by omega) hm w
  rwa [hd] at H

/-- What a cut is, as a value. -/
def cutV (ao : Option Addr) (i many : Nat) : Value := .slice (if many = 0 then ao else ao.map (·.add i)) many many
theorem cutV_bytes {n : Nat} {w : World} {ao : Option Addr} {cap : Nat} {l : List UInt8} (hv : Bytes n w (.slice ao l.length cap) l) (i many : Nat) (h : i + many ≤ l.length) : Bytes n w (cutV ao i many) ((l.drop i).take many) := by
  have h1 : l.length ≤ cap := by
    obtain ⟨_, _, e, h1, _⟩ := hv
    simp only [Value.slice.injEq] at e
    omega
  have hs := hv.sliced i (i + many) (i + many) (by omega) h (by omega) (by omega)
  rw [show i + many - i = many by omega, Nat.mul_one] at hs
  unfold cutV
  by_cases h0 : many = 0
  · subst h0; simpa using hs
  · rw [if_neg (by omega)] at hs; rw [if_neg h0]; exact hs

set_option maxHeartbeats 400000 in
theorem cutp_any (ao : Option Addr) (len cap : Nat) (i many : Nat) (w : World) (h1 : len ≤ cap) (h2 : cap ≤ 9223372036854775807) (h : i + many ≤ len) :
    Calls Tryd.prog 90 #[.slice ao len cap, .int .i64 i, .int .i64 many] w fun e w' => e = .returned (cutV ao i many) ∧ w = w' := by
  by_cases h0 : many = 0
  · subst h0
    go_enter Tryd.func90, Tryd.ntmps90
    go_wp2
    go_ret
    exact ⟨rfl, rfl⟩
  · have e : cutV ao i many = .slice (ao.map (·.add i)) (i + many - i) (i + many - i) := by
      unfold cutV; rw [if_neg h0, show i + many - i = many by omega]
    rw [e]; clear e
    go_enter Tryd.func90, Tryd.ntmps90
    go_wp2
    go_ret
    exact ⟨rfl, rfl⟩
theorem quiet_add_left {P : Program} {f : FuncId} {args : Array Value} {w : World} {a n : Nat} {v : Value}
    (h : Calls P f args (w.drewN (a + n)) fun e w' => e = .returned v ∧ w.drewN (a + n) = w') :
    Calls P f args (w.drewN (a + n)) fun e w'' => e = .returned v ∧ ∃ m, w'' = w.drewN (a + m) :=
  h.mono fun _ _ ⟨he, hm⟩ => ⟨he, n, hm.symm⟩

/-- The reader in its block: the bytes, the place, the width. -/
structure Rd (w : World) (br : Nat) (v : Value) (i : Nat) (wd : Int) : Prop where
  c0 : w.cell? ⟨br, 0, none⟩ = some v
  c1 : w.cell? ⟨br, 1, none⟩ = some (.int .i64 i)
  c2 : w.cell? ⟨br, 2, none⟩ = some (.int .i64 wd)
  f1 : w.frozen? ⟨br, 1, none⟩ = false

def TakeYes (n : Nat) (br : Nat) (v : Value) (wd : Int) (i : Nat) (l : List UInt8) (w : World) (e : Ending) (w' : World) : Prop :=
  ∃ v', e = .returned (.tuple #[v', .int .i64 0]) ∧ Bytes n w' v' l ∧ Rd w' br v i wd ∧ Below n w w'

theorem take_fin {n br : Nat} {v v' : Value} {wd : Int} {j : Int} {l : List UInt8} {w : World} {vi : Value} (hn : n ≤ br) (hv : Bytes n w v' l)
    (hr : w.cell? ⟨br, 0, none⟩ = some v ∧ w.cell? ⟨br, 1, none⟩ = some vi ∧ w.cell? ⟨br, 2, none⟩ = some (.int .i64 wd) ∧ w.frozen? ⟨br, 1, none⟩ = false) (k : Nat) {m : Nat} (hm : (m : Int) = j) :
    Bytes n ((w.drewN k).setCell ⟨br, 1, none⟩ (.int .i64 j)) v' l ∧ Rd ((w.drewN k).setCell ⟨br, 1, none⟩ (.int .i64 j)) br v m wd ∧ Below n w ((w.drewN k).setCell ⟨br, 1, none⟩ (.int .i64 j)) := by
  obtain ⟨c0, c1, c2, f1⟩ := hr
  subst hm
  have hb : Below n w (w.drewN k) := ⟨rfl, rfl, rfl, Nat.le_refl _, fun _ _ => rfl⟩
  have hb2 := hb.setCell (p := ⟨br, 1, none⟩) hn (.int .i64 m)
  refine ⟨hv.below hb2, ⟨?_, ?_, ?_, ?_⟩, hb2⟩
  · exact (World.cell?_setCell_other (w.drewN k) _ _ _ (by simp)).trans c0
  · exact World.cell?_setCell_same (w.drewN k) _ _ (u := vi) c1
  · exact (World.cell?_setCell_other (w.drewN k) _ _ _ (by simp)).trans c2
  · exact (World.frozen?_setCell (w.drewN k) _ _ _).trans f1

set_option maxHeartbeats 1000000 in
theorem take_no (n br : Nat) (v : Value) (l : List UInt8) (i many : Nat) (wd : Int) (w : World) (hv : Bytes n w v l) (hr : Rd w br v i wd) (hi : i ≤ l.length) (h : l.length < i + many) :
    Calls Tryd.prog 77 #[.pointer (some ⟨br, 0, none⟩), .int .u64 many] w fun e w' => e = .returned (.tuple #[.slice none 0 0, .int .i64 110]) ∧ ∃ k, w' = w.drewN k := by
  obtain ⟨ao, cap, rfl, h1, h2, h3⟩ := id hv
  have HV := Lib.hid hv; clear hv h3
  obtain ⟨c0, c1, c2, f1⟩ := hr
  unfold maxLen at h2
  have hm : l.length ≤ 9223372036854775807 := by omega
  have HN := Lib.hid (holds_no ao l.length cap i many hi hm h)
  clear hi h h1 h2
  go_enter Tryd.func77, Tryd.ntmps77
  go_wp2_with fail
  go_quiet ((go_at_call 89; exact quiet_left (HN.out _)))
  go_wp2
  go_ret2
  exact ⟨rfl, _, rfl⟩

set_option maxHeartbeats 1000000 in
theorem take_yes (n br : Nat) (v : Value) (l : List UInt8) (i many : Nat) (wd : Int) (w : World) (hn : n ≤ br) (hv : Bytes n w v l) (hr : Rd w br v i wd) (h : i + many ≤ l.length) :
    Calls Tryd.prog 77 #[.pointer (some ⟨br, 0, none⟩), .int .u64 many] w (TakeYes n br v wd (i + many) ((l.drop i).take many) w) := by
  obtain ⟨ao, cap, rfl, h1, h2, h3⟩ := id hv
  have HV := Lib.hid hv; clear hv h3
  obtain ⟨c0, c1, c2, f1⟩ := hr
  unfold maxLen at h2
  have hm : l.length ≤ 9223372036854775807 := by omega
  have HN := Lib.hid (holdp_yes ao l.length cap i many hm h)
  have HC := Lib.hid (fun W => cutp_any ao l.length cap i many W h1 (by omega) h)
  have HH := Lib.hid h
  go_enter Tryd.func77, Tryd.ntmps77
  go_wp2_with fail
  go_quiet ((go_at_call 89; exact quiet_left (HN.out _)))
  go_wp2_with fail
  go_quiet ((go_at_call 90; exact quiet_add_left (HC.out _)))
  have HV' := Lib.hid (cutV_bytes HV.out i many h)
  obtain ⟨v', hv'⟩ : ∃ v', cutV ao i many = v' := ⟨_, rfl⟩
  rw [hv'] at HV' ⊢
  clear hv'
  go_wp2
  go_ret2
  exact ⟨v', rfl, take_fin hn HV'.out ⟨c0, c1, c2, f1⟩ _ (by omega)⟩
end Go.Proofs.YtnhapmodgmkbjaaDoor
