/- Merged: W3, W4, W5, W6, Loose, Loose2, InvIn. -/
import Derived.Deep.QuietTactic
import Derived.BigQuiet
import Derived.Test.YtbinmgpfkjmijaaGreatDoorBA
import Derived.Deep.Quiet
import Derived.OrdersIn
import Derived.TacticsIn
namespace Go.Proofs.YtbinmgpfkjmijaaGreatDoor
open Go.RowKit

theorem quiet_left {P : Program} {f : FuncId} {args : Array Value} {w : World} {n : Nat} {v : Value}
    (h : Calls P f args (w.drewN n) fun e w' => e = .returned v ∧ w.drewN n = w') : Calls P f args (w.drewN n) fun e w'' => e = .returned v ∧ ∃ m, w'' = w.drewN m :=
  h.mono fun _ _ ⟨he, hm⟩ => ⟨he, n, hm.symm⟩

set_option maxHeartbeats 400000 in
theorem holds_any (ao : Option Addr) (len cap i many : Nat) (hi : i ≤ len) (hm : len ≤ 9223372036854775807) (w : World) :
    Calls Tryz.prog 138 #[.slice ao len cap, .int .i64 i, .int .u64 many] w fun e w' => e = .returned (.bool (decide (many ≤ len - i))) ∧ w = w' := by
  go_enter Tryz.func138, Tryz.ntmps138
  go_wp2
  go_ret
  exact ⟨ret_bool (by rw [Bool.eq_iff_iff, decide_eq_true_eq, decide_eq_true_eq]; omega), rfl⟩

theorem holds_no (ao : Option Addr) (len cap i many : Nat) (hi : i ≤ len) (hm : len ≤ 9223372036854775807) (h : len < i + many) (w : World) :
    Calls Tryz.prog 138 #[.slice ao len cap, .int .i64 i, .int .u64 many] w fun e w' => e = .returned (.bool false) ∧ w = w' := by
  have hd : decide (many ≤ len - i) = false := by simp; omega
  have H := holds_any ao len cap i many hi hm w
  rwa [hd] at H
theorem holdp_yes (ao : Option Addr) (len cap i many : Nat) (hm : len ≤ 9223372036854775807) (h : i + many ≤ len) (w : World) :
    Calls Tryz.prog 138 #[.slice ao len cap, .int .i64 i, .int .u64 many] w fun e w' => e = .returned (.bool true) ∧ w = w' := by
  have hd : decide (many ≤ len - i) = true := by simp; omega
  have H := holds_any ao len cap i many (by omega) hm w
  rwa [hd] at H

/-- What a cut is, as a value. -/
def cutV (ao : Option Addr) (i many : Nat) : Value := .slice (if many = 0 then ao else ao.map (·.add i)) many many
theorem cutV_bytes {n : Nat} {w : World} {ao : Option Addr} {cap : Nat} {l : List UInt8} (hv : Bytes n w (.slice ao l.length cap) l) (i many : Nat) (h : i + many ≤ l.length) : Bytes n w (cutV ao i many) ((l.drop i).take many) := by
  have h1 : l.length ≤ cap := by
    obtain ⟨_, _, e, h1, _⟩ := hv
    simp only [Value.slice.injEq] at e
    omega
  have hs := hv.sliced i (i + many) (i + many) (by omega) h (by omega) (by omega)
  rw [show i + many - i = many by omega, Nat.mul_one] at hs
  unfold cutV
  by_cases h0 : many = 0
  · subst h0; simpa using hs
  · rw [if_neg (by omega)] at hs; rw [if_neg h0]; exact hs

set_option maxHeartbeats 400000 in
theorem cutp_any (ao : Option Addr) (len cap : Nat) (i many : Nat) (w : World) (h1 : len ≤ cap) (h2 : cap ≤ 9223372036854775807) (h : i + many ≤ len) :
    Calls Tryz.prog 139 #[.slice ao len cap, .int .i64 i, .int .i64 many] w fun e w' => e = .returned (cutV ao i many) ∧ w = w' := by
  by_cases h0 : many = 0
  · subst h0
    go_enter Tryz.func139, Tryz.ntmps139
    go_wp2
    go_ret
    exact ⟨rfl, rfl⟩
  · have e : cutV ao i many = .slice (ao.map (·.add i)) (i + many - i) (i + many - i) := by
      unfold cutV; rw [if_neg h0, show i + many - i = many by omega]
    rw [e]; clear e
    go_enter Tryz.func139, Tryz.ntmps139
    go_wp2
    go_ret
    exact ⟨rfl, rfl⟩
theorem quiet_add_left {P : Program} {f : FuncId} {args : Array Value} {w : World} {a n : Nat} {v : Value}
    (h : Calls P f args (w.drewN (a + n)) fun e w' => e = .returned v ∧ w.drewN (a + n) = w') :
    Calls P f args (w.drewN (a + n)) fun e w'' => e = .returned v ∧ ∃ m, w'' = w.drewN (a + m) :=
  h.mono fun _ _ ⟨he, hm⟩ => ⟨he, n, hm.symm⟩

/-- The reader in its block: the bytes, the place, the width. -/
structure Rd (w : World) (br : Nat) (v : Value) (i : Nat) (wd : Int) : Prop where
  c0 : w.cell? ⟨br, 0, none⟩ = some v
  c1 : w.cell? ⟨br, 1, none⟩ = some (.int .i64 i)
  c2 : w.cell? ⟨br, 2, none⟩ = some (.int .i64 wd)
  f1 : w.frozen? ⟨br, 1, none⟩ = false

def TakeYes (n : Nat) (br : Nat) (v : Value) (wd : Int) (i : Nat) (l : List UInt8) (w : World) (e : Ending) (w' : World) : Prop :=
  ∃ v', e = .returned (.tuple #[v', .int .i64 0]) ∧ Bytes n w' v' l ∧ Rd w' br v i wd ∧ Below n w w'

theorem take_fin {n br : Nat} {v v' : Value} {wd : Int} {j : Int} {l : List UInt8} {w : World} {vi : Value} (hn : n ≤ br) (hv : Bytes n w v' l)
    (hr : w.cell? ⟨br, 0, none⟩ = some v ∧ w.cell? ⟨br, 1, none⟩ = some vi ∧ w.cell? ⟨br, 2, none⟩ = some (.int .i64 wd) ∧ w.frozen? ⟨br, 1, none⟩ = false) (k : Nat) {m : Nat} (hm : (m : Int) = j) :
    Bytes n ((w.drewN k).setCell ⟨br, 1, none⟩ (.int .i64 j)) v' l ∧ Rd ((w.drewN k).setCell ⟨br, 1, none⟩ (.int .i64 j)) br v m wd ∧ Below n w ((w.drewN k).setCell ⟨br, 1, none⟩ (.int .i64 j)) := by
  obtain ⟨c0, c1, c2, f1⟩ := hr
  subst hm
  have hb : Below n w (w.drewN k) := ⟨rfl, rfl, rfl, Nat.le_refl _, fun _ _ => rfl⟩
  have hb2 := hb.setCell (p := ⟨br, 1, none⟩) hn (.int .i64 m)
  refine ⟨hv.below hb2, ⟨?_, ?_, ?_, ?_⟩, hb2⟩
  · exact (World.cell?_setCell_other (w.drewN k) _ _ _ (by simp)).trans c0
  · exact World.cell?_setCell_same (w.drewN k) _ _ (u := vi) c1
  · exact (World.cell?_setCell_other (w.drewN k) _ _ _ (by simp)).trans c2
  · exact (World.frozen?_setCell (w.drewN k) _ _ _).trans f1

set_option maxHeartbeats 1000000 in
theorem take_no (n br : Nat) (v : Value) (l : List UInt8) (i many : Nat) (wd : Int) (w : World) (hv : Bytes n w v l) (hr : Rd w br v i wd) (hi : i ≤ l.length) (h : l.length < i + many) :
    Calls Tryz.prog 136 #[.pointer (some ⟨br, 0, none⟩), .int .u64 many] w fun e w' => e = .returned (.tuple #[.slice none 0 0, .int .i64 110]) ∧ ∃ k, w' = w.drewN k := by
  obtain ⟨ao, cap, rfl, h1, h2, h3⟩ := id hv
  have HV := Lib.hid hv; clear hv h3
  obtain ⟨c0, c1, c2, f1⟩ := hr
  unfold maxLen at h2
  have hm : l.length ≤ 9223372036854775807 := by omega
  have HN := Lib.hid (holds_no ao l.length cap i many hi hm h)
  clear hi h h1 h2
  go_enter Tryz.func136, Tryz.ntmps136
  go_wp2_with fail
  go_quiet ((go_at_call 138; exact quiet_left (HN.out _)))
  go_wp2
  go_ret2
  exact ⟨rfl, _, rfl⟩

set_option maxHeartbeats 1000000 in
theorem take_yes (n br : Nat) (v : Value) (l : List UInt8) (i many : Nat) (wd : Int) (w : World) (hn : n ≤ br) (hv : Bytes n w v l) (hr : Rd w br v i wd) (h : i + many ≤ l.length) :
    Calls Tryz.prog 136 #[.pointer (some ⟨br, 0, none⟩), .int .u64 many] w (TakeYes n br v wd (i + many) ((l.drop i).take many) w) := by
  obtain ⟨ao, cap, rfl, h1, h2, h3⟩ := id hv
  have HV := Lib.hid hv; clear hv h3
  obtain ⟨c0, c1, c2, f1⟩ := hr
  unfold maxLen at h2
  have hm : l.length ≤ 9223372036854775807 := by omega
  have HN := Lib.hid (holdp_yes ao l.length cap i many hm h)
  have HC := Lib.hid (fun W => cutp_any ao l.length cap i many W h1 (by omega) h)
  have HH := Lib.hid h
  go_enter Tryz.func136, Tryz.ntmps136
  go_wp2_with fail
  go_quiet ((go_at_call 138; exact quiet_left (HN.out _)))
  go_wp2_with fail
  go_quiet ((go_at_call 139; exact quiet_add_left (HC.out _)))
  have HV' := Lib.hid (cutV_bytes HV.out i many h)
  obtain ⟨v', hv'⟩ : ∃ v', cutV ao i many = v' := ⟨_, rfl⟩
  rw [hv'] at HV' ⊢
  clear hv'
  go_wp2
  go_ret2
  exact ⟨v', rfl, take_fin hn HV'.out ⟨c0, c1, c2, f1⟩ _ (by omega)⟩
end Go.Proofs.YtbinmgpfkjmijaaGreatDoor
namespace Go.Proofs.YtbinmgpfkjmijaaGreatDoor
open Go.RowKit

theorem one_byte {n : Nat} {w : World} {v : Value} {x : UInt8} (h : Bytes n w v [x]) : ∃ b off cap, v = .slice (some ⟨b, off, none⟩) 1 cap ∧ w.cell? ⟨b, off, none⟩ = some (.int .u8 x.toNat) := by
  obtain ⟨ao, cap, rfl, h1, h2, h3⟩ := h
  obtain ⟨b, off, rfl, _, hc⟩ := h3 (by simp)
  exact ⟨b, off, cap, rfl, hc 0 (by simp)⟩

theorem rdF_bad {k acc : Nat} {b : UInt8} {r : List UInt8} (h : (0 < k ∧ b.toNat = 0) ∨ (k = 9 ∧ 1 < b.toNat)) : rdF k acc (b :: r) = (0, 0, 111) := by rw [rdF, if_pos h]
theorem rdF_end {k acc : Nat} {b : UInt8} {r : List UInt8} (h : ¬ ((0 < k ∧ b.toNat = 0) ∨ (k = 9 ∧ 1 < b.toNat))) (h2 : b.toNat < 128) : rdF k acc (b :: r) = (acc + b.toNat * 128 ^ k, k + 1, 0) := by rw [rdF, if_neg h, if_pos h2]
theorem rdF_on {k acc : Nat} {b : UInt8} {r : List UInt8} (h : ¬ ((0 < k ∧ b.toNat = 0) ∨ (k = 9 ∧ 1 < b.toNat))) (h2 : ¬ b.toNat < 128) : rdF k acc (b :: r) = rdF (k + 1) (acc + b.toNat % 128 * 128 ^ k) r := by rw [rdF, if_neg h, if_neg h2]
theorem drop_at {l : List UInt8} {k : Nat} (h : k < l.length) : l.drop k = l.getD k 0 :: l.drop (k + 1) := by
  rw [List.drop_eq_getElem_cons h]; simp [h]

/-- What the reader's 'number' leaves. -/
def NumPost (n br : Nat) (v : Value) (wd : Int) (l : List UInt8) (w : World) (e : Ending) (w' : World) : Prop :=
  e = .returned (.tuple #[.int .u64 ((rdN l).1 : Nat), .int .i64 (rdN l).2.2]) ∧ (∃ i, Rd w' br v i wd ∧ ((rdN l).2.2 = 0 → i = (rdN l).2.1) ∧ i ≤ l.length) ∧ Below n w w'

theorem num_close_bad {n br k acc i : Nat} {v : Value} {wd : Int} {l : List UInt8} {x : UInt8} {w w1 w2 : World} (hD : rdF k acc (l.drop k) = rdN l) (hX : l.drop k = x :: l.drop (k + 1))
    (h : (0 < k ∧ x.toNat = 0) ∨ (k = 9 ∧ 1 < x.toNat)) (hr : Rd w2 br v i wd) (hi : i ≤ l.length) (h1 : Below n w w1) (h2 : Below n w1 w2) :
    NumPost n br v wd l w (.returned (.tuple #[.int .u64 0, .int .i64 111])) w2 := by
  have e : rdN l = (0, 0, 111) := by rw [← hD, hX, rdF_bad h]
  refine ⟨by rw [e]; rfl, ⟨i, hr, fun h0 => ?_, hi⟩, h1.trans h2⟩
  rw [e] at h0; simp at h0
theorem num_close_end {n br k acc : Nat} {v : Value} {wd : Int} {l : List UInt8} {x : UInt8} {w w1 w2 : World} {val : Int} (hD : rdF k acc (l.drop k) = rdN l) (hX : l.drop k = x :: l.drop (k + 1))
    (h : ¬ ((0 < k ∧ x.toNat = 0) ∨ (k = 9 ∧ 1 < x.toNat))) (hx : x.toNat < 128) (hv : val = ((acc + x.toNat * 128 ^ k : Nat) : Int)) (hr : Rd w2 br v (k + 1) wd) (hi : k < l.length) (h1 : Below n w w1) (h2 : Below n w1 w2) :
    NumPost n br v wd l w (.returned (.tuple #[.int .u64 val, .int .i64 0])) w2 := by
  have e : rdN l = (acc + x.toNat * 128 ^ k, k + 1, 0) := by rw [← hD, hX, rdF_end h hx]
  refine ⟨by rw [e, hv], ⟨k + 1, hr, fun _ => by rw [e], by omega⟩, h1.trans h2⟩
theorem num_close_none {n br k acc i : Nat} {v : Value} {wd : Int} {l : List UInt8} {w w1 w2 : World} (hD : rdF k acc (l.drop k) = rdN l) (hX : l.length ≤ k)
    (hr : Rd w2 br v i wd) (hi : i ≤ l.length) (h1 : Below n w w1) (h2 : Below n w1 w2) :
    NumPost n br v wd l w (.returned (.tuple #[.int .u64 0, .int .i64 110])) w2 := by
  have e : rdN l = (0, 0, 110) := by rw [← hD, List.drop_eq_nil_of_le hX]; rfl
  refine ⟨by rw [e]; rfl, ⟨i, hr, fun h0 => ?_, hi⟩, h1.trans h2⟩
  rw [e] at h0; simp at h0
theorem num_on {k acc : Nat} {l : List UInt8} {x : UInt8} (hD : rdF k acc (l.drop k) = rdN l) (hX : l.drop k = x :: l.drop (k + 1))
    (h : ¬ ((0 < k ∧ x.toNat = 0) ∨ (k = 9 ∧ 1 < x.toNat))) (hx : ¬ x.toNat < 128) : rdF (k + 1) (acc + x.toNat % 128 * 128 ^ k) (l.drop (k + 1)) = rdN l := by
  rw [← hD, hX, rdF_on h hx]
theorem acc_on {k acc x : Nat} (ha : acc < 128 ^ k) : acc + x % 128 * 128 ^ k < 128 ^ (k + 1) := by
  rw [Nat.pow_succ]
  have : x % 128 * 128 ^ k ≤ 127 * 128 ^ k := Nat.mul_le_mul_right _ (by omega)
  omega
theorem or_mod (a k : Nat) (x : UInt8) (hk : k ≤ 9) (ha : a < 128 ^ k) (h9 : k = 9 → x.toNat ≤ 1) :
    bits .or .u64 (a : Int) (IntKind.u64.wrap ((x.toNat : Int) % 128 * 2 ^ (7 * k))) = ((a + x.toNat % 128 * 128 ^ k : Nat) : Int) := by
  have := or_shl7 a (x.toNat % 128) k hk ha (by omega) (by omega)
  rwa [Int.natCast_emod] at this
theorem or_end (a k : Nat) (x : UInt8) (hk : k ≤ 9) (ha : a < 128 ^ k) (h9 : k = 9 → x.toNat ≤ 1) (hx : x.toNat < 128) :
    bits .or .u64 (a : Int) (IntKind.u64.wrap ((x.toNat : Int) % 128 * 2 ^ (7 * k))) = ((a + x.toNat * 128 ^ k : Nat) : Int) := by
  rw [or_mod a k x hk ha h9, Nat.mod_eq_of_lt hx]
theorem or_nine (a : Nat) (x : UInt8) (ha : a < 128 ^ 9) (hx : x.toNat ≤ 1) :
    bits .or .u64 (a : Int) ((x.toNat : Int) % 128 * 9223372036854775808) = ((a + x.toNat * 128 ^ 9 : Nat) : Int) := by
  have h := or_end a 9 x (by omega) ha (fun _ => hx) (by omega)
  have e : (2 : Int) ^ (7 * 9) = 9223372036854775808 := by decide
  rw [e] at h
  rwa [IntKind.wrap_u64, Int.emod_eq_of_lt (by omega) (by omega)] at h

end Go.Proofs.YtbinmgpfkjmijaaGreatDoor
namespace Go.Proofs.YtbinmgpfkjmijaaGreatDoor
open Go.RowKit

def rfE (l : List UInt8) (x : Int) : Int := if isW x then (if l.length < x.toNat then 110 else 0) else 2
def rfN (l : List UInt8) (x : Int) : Nat := if rfE l x = 0 then unB (l.take x.toNat) else 0

/-- The contract of raw.value at whatever bytes. -/
theorem value_bytes (n : Nat) (v : Value) (l : List UInt8) (hl : l.length ≤ 8) (h0 : 0 < l.length) (w : World) (hv : Bytes n w v l) :
    Calls Tryz.prog 137 #[v] w fun e w' => e = .returned (.int .u64 (unB l)) ∧ w = w' := by
  obtain ⟨ao, cap, rfl, h1, h2, h3⟩ := hv
  obtain ⟨b, off, rfl, _, hc⟩ := h3 (List.length_pos_iff.1 h0)
  exact value_any b off cap l hl w hc

def ReadPost (n br : Nat) (v : Value) (wd : Int) (val : Nat) (err : Int) (m : Nat → Prop) (w : World) (e : Ending) (w' : World) : Prop :=
  e = .returned (.tuple #[.int .u64 val, .int .i64 err]) ∧ (∃ i, Rd w' br v i wd ∧ m i) ∧ Below n w w'

set_option maxRecDepth 100000 in
set_option maxHeartbeats 2000000 in
theorem fixedM_any (n br : Nat) (v : Value) (l : List UInt8) (x : Int) (w : World) (hn : n ≤ br) (hv : Bytes n w v l) (hr : Rd w br v 0 x) (hw : Widths w) (_h1n : 1 ≤ n) :
    Calls Tryz.prog 133 #[.pointer (some ⟨br, 0, none⟩)] w (ReadPost n br v x (rfN l x) (rfE l x) (fun i => i ≤ l.length) w) := by
  have HW := Lib.hid hw; clear hw
  have c2 := hr.c2
  have HR := Lib.hid hr; clear hr
  have HV := Lib.hid hv; clear hv
  cases h : isW x with
  | false =>
    have e1 : rfE l x = 2 := by simp [rfE, h]
    have e2 : rfN l x = 0 := by simp [rfN, e1]
    rw [e1, e2]; clear e1 e2
    have H := Lib.hid h; clear h
    go_enter Tryz.func133, Tryz.ntmps133
    go_wp2
    refine wp_scope_fwd 0 rfl ?_
    go_wp2_with (go_at_call 101; refine (isWidth_any _ _ HW.out).mono ?_; rintro e w' ⟨rfl, rfl⟩; rw [H.out])
    go_step3
    refine ⟨rfl, ?_⟩
    go_wp2
    rw [Exit.noGoto_ret]
    go_ret2
    exact ⟨rfl, ⟨0, HR.out, by omega⟩, Below.refl _ _⟩
  | true =>
    obtain ⟨k, rfl, hk⟩ := isW_nat h
    have hk0 : 0 < k := by
      rcases Nat.eq_zero_or_pos k with rfl | h0
      · simp [isW] at h
      · exact h0
    by_cases hl : l.length < k
    · have e1 : rfE l k = 110 := by simp [rfE, h, hl]
      have e2 : rfN l k = 0 := by simp [rfN, e1]
      rw [e1, e2]; clear e1 e2
      have H := Lib.hid h; clear h
      have HT := Lib.hid (take_no n br v l 0 k k w HV.out HR.out (by omega) (by omega))
      go_enter Tryz.func133, Tryz.ntmps133
      go_wp2
      refine wp_scope_fwd 0 rfl ?_
      go_wp2_with (first | (go_at_call 101; refine (isWidth_any _ _ HW.out).mono ?_; rintro e w' ⟨rfl, rfl⟩; rw [H.out]) | (go_at_call 136; refine HT.out.mono ?_; rintro e w' ⟨rfl, q, rfl⟩))
      go_step3
      refine ⟨rfl, ?_⟩
      go_wp2
      rw [Exit.noGoto_ret]
      go_ret2
      exact ⟨rfl, ⟨0, ⟨HR.out.c0, HR.out.c1, HR.out.c2, HR.out.f1⟩, by omega⟩, ⟨rfl, rfl, rfl, Nat.le_refl _, fun _ _ => rfl⟩⟩
    · have e1 : rfE l k = 0 := by simp [rfE, h, hl]
      have e2 : rfN l k = unB (l.take k) := by simp [rfN, e1]
      rw [e1, e2]; clear e1 e2
      have H := Lib.hid h; clear h
      have HT := Lib.hid (take_yes n br v l 0 k k w hn HV.out HR.out (by omega))
      go_enter Tryz.func133, Tryz.ntmps133
      go_wp2
      refine wp_scope_fwd 0 rfl ?_
      go_wp2_with (first
        | (go_at_call 101; refine (isWidth_any _ _ HW.out).mono ?_; rintro e w' ⟨rfl, rfl⟩; rw [H.out])
        | (go_at_call 136; refine HT.out.mono ?_; rintro e w' ⟨v', rfl, hb1, hr1, hl1⟩; have HB1 := Lib.hid hb1; clear hb1; have HR1 := Lib.hid hr1; clear hr1; have HL1 := Lib.hid hl1; clear hl1)
        | (go_at_call 137; refine (value_bytes n _ _ (by simp; omega) (by simp; omega) _ HB1.out).mono ?_; rintro e w' ⟨rfl, rfl⟩))
      simp only [Exit.jump]
      go_ret2
      exact ⟨by simp, ⟨_, HR1.out, by omega⟩, HL1.out⟩

/-- What a read hands back: the thing and how many bytes, or the error alone. -/
def ReadU (val : Nat) (err : Int) (m : Nat → Prop) (w : World) (e : Ending) (w' : World) : Prop :=
  ∃ i, m i ∧ e = .returned (.tuple #[.int .u64 (if err = 0 then val else 0 : Nat), .int .i64 (if err = 0 then i else 0 : Nat), .int .i64 err]) ∧ Adds w w'

/-- The world in which the reader lies in a new block. -/
theorem rd_new (v : Value) (wd : Int) (w : World) : Rd (w.alloc (.cells #[v, .int .i64 0, .int .i64 wd] 165)) w.heap.size v 0 wd :=
  ⟨World.cell?_alloc_at _ _ _ _ rfl, World.cell?_alloc_at _ _ _ _ rfl, World.cell?_alloc_at _ _ _ _ rfl, by go_simp⟩

set_option maxRecDepth 100000 in
set_option maxHeartbeats 2000000 in
theorem readU_fixed (v : Value) (wd : Int) (val : Nat) (err : Int) (m : Nat → Prop) (w : World)
    (hg : Calls Tryz.prog 133 #[.pointer (some ⟨w.heap.size, 0, none⟩)] (w.alloc (.cells #[v, .int .i64 0, .int .i64 wd] 165))
      (ReadPost w.heap.size w.heap.size v wd val err m (w.alloc (.cells #[v, .int .i64 0, .int .i64 wd] 165)))) :
    Calls Tryz.prog 132 #[.agg #[v, .int .i64 0, .int .i64 wd], .func (.func 133) #[] #[]] w (ReadU val err m w) := by
  have HG := Lib.hid hg; clear hg
  have ha : Below w.heap.size w (w.alloc (.cells #[v, .int .i64 0, .int .i64 wd] 165)) := (Below.refl _ _).alloc (Nat.le_refl _) _
  have HA := Lib.hid ha; clear ha
  by_cases he : err = 0
  · subst he
    go_enter Tryz.func132, Tryz.ntmps132
    go_wp2_with (go_at_call 133; refine HG.out.mono ?_; rintro e w1 ⟨rfl, ⟨i, hr, hm⟩, hb⟩; have c1 := hr.c1; have HM := Lib.hid hm; clear hm hr; have HB := Lib.hid hb; clear hb)
    go_quiet (fail)
    go_wp2
    go_ret3
    exact ⟨i, HM.out, rfl, Below.trans (Below.trans HA.out HB.out) ⟨rfl, rfl, rfl, Nat.le_refl _, fun _ _ => rfl⟩⟩
  · have hd : (err == 0) = false := by simpa using he
    go_enter Tryz.func132, Tryz.ntmps132
    go_wp2_with (go_at_call 133; refine HG.out.mono ?_; rintro e w1 ⟨rfl, ⟨i, hr, hm⟩, hb⟩; have HM := Lib.hid hm; clear hm hr; have HB := Lib.hid hb; clear hb)
    go_ret3
    exact ⟨i, HM.out, by rw [if_neg he, if_neg he]; rfl, Below.trans HA.out HB.out⟩
end Go.Proofs.YtbinmgpfkjmijaaGreatDoor
namespace Go.Proofs.YtbinmgpfkjmijaaGreatDoor
open Go.RowKit

theorem adds_alloc (w : World) (o : Obj) : Adds w (w.alloc o) := (Below.refl _ _).alloc (Nat.le_refl _) _
theorem Widths.adds {w w' : World} (h : Widths w) (ha : Adds w w') : Widths w' := h.below ha

set_option maxHeartbeats 1000000 in
theorem readFixed_any {n : Nat} (v : Value) (l : List UInt8) (x : Int) (w : World) (hv : Bytes n w v l) (hw : Widths w) :
    Calls Tryz.prog 106 #[v, .int .i64 x] w fun e w' => e = .returned (.tuple #[.int .u64 (rfN l x), .int .i64 (rfE l x)]) ∧ Adds w w' := by
  have ha := adds_alloc w (.cells #[v, .int .i64 0, .int .i64 x] 165)
  have hpos : 1 ≤ w.heap.size := Nat.lt_of_le_of_lt (Nat.zero_le _) (World.block_lt_of_cell? w _ hw.c0)
  have hg := fixedM_any w.heap.size w.heap.size v l x _ (Nat.le_refl _) (hv.here.below ha) (rd_new v x w) (hw.adds ha) hpos
  have hc := (readU_fixed v x (rfN l x) (rfE l x) (fun i => i ≤ l.length) w hg).mono (R' := fun e w' => ∃ j : Nat, e = .returned (.tuple #[.int .u64 (rfN l x), .int .i64 j, .int .i64 (rfE l x)]) ∧ Adds w w') fun e w' ⟨i, _, he, ha⟩ => ⟨if rfE l x = 0 then i else 0, by
    rw [he]
    by_cases h0 : rfE l x = 0
    · simp only [h0, if_true]
    · simp only [h0, if_false, rfN], ha⟩
  have HC := Lib.hid hc
  clear hc
  clear hg ha hpos hw
  obtain ⟨ao, cap, rfl, _, _, _⟩ := hv
  go_enter Tryz.func106, Tryz.ntmps106
  go_wp2_with (go_at_call 132; refine HC.out.mono ?_; rintro e w1 ⟨j, rfl, ha⟩; have HA := Lib.hid ha; clear ha)
  go_ret2
  exact ⟨rfl, HA.out⟩

end Go.Proofs.YtbinmgpfkjmijaaGreatDoor
namespace Go.Proofs.YtbinmgpfkjmijaaGreatDoor
open Go

section
variable {P : Program}

/-- What an operation yields: a value (or none) at once, or what a call hands back. -/
def yieldsTo (P : Program) (S : Value → World → Prop) : Result Next → Prop
  | .ok (.value u) w' => S u w'
  | .ok .skip w' => S undef w'
  | .ok (.enter f args) w' => Calls P f args w' (fun e w'' => ∃ u, e = .returned u ∧ S u w'')
  | _ => False

theorem yieldsTo_value {S : Value → World → Prop} {u : Value} {w : World} (h : S u w) : yieldsTo P S (.ok (.value u) w) := h
theorem yieldsTo_skip {S : Value → World → Prop} {w : World} (h : S undef w) : yieldsTo P S (.ok .skip w) := h
theorem yieldsTo_enter {S : Value → World → Prop} {f : FuncId} {args : Array Value} {w : World} (h : Calls P f args w (fun e w'' => ∃ u, e = .returned u ∧ S u w'')) : yieldsTo P S (.ok (.enter f args) w) := h

theorem wp_of_yields {o : Oper} {a : Act} {S : Value → World → Prop} {K : Act → World → Prop} {Q : Exit → Act → World → Prop} {w : World}
    (h : yieldsTo P S ((execOp a.eval o).run P w)) (hK : ∀ u w', S u w' → K (a.put o.dst u) w') : o.wp P a w K Q := by
  unfold Oper.wp
  generalize (execOp a.eval o).run P w = r at *
  cases r with
  | ok n w' =>
    cases n <;> simp only [yieldsTo] at h <;> simp only [Oper.upon]
    case value u => exact hK _ _ h
    case skip => exact hK _ _ h
    case enter f args => exact h.mono fun e w'' ⟨u, he, hs⟩ => by subst he; exact hK _ _ hs
  | halt x w' => simp only [yieldsTo] at h

/-- The values of some slots, whatever they are, as long as each meets its predicate. -/
def forL (F : Tmp → Value → World → Prop) (w : World) : List Tmp → Act → (Act → Prop) → Prop
  | [], A, K => K A
  | d :: ds, A, K => ∀ u, F d u w → forL F w ds (A.put (some d) u) K
def putL (us : Tmp → Value) : List Tmp → Act → Act
  | [], A => A
  | d :: ds, A => putL us ds (A.put (some d) (us d))

theorem forL_use {F : Tmp → Value → World → Prop} {w : World} (us : Tmp → Value) : ∀ (ds : List Tmp) (A : Act) (K : Act → Prop), forL F w ds A K → (∀ d ∈ ds, F d (us d) w) → K (putL us ds A)
  | [], _, _, h, _ => h
  | d :: ds, _, _, h, hd => forL_use us ds _ _ (h (us d) (hd d (by simp))) fun x hx => hd x (by simp [hx])

theorem putL_defers (us : Tmp → Value) : ∀ (ds : List Tmp) (A : Act), (putL us ds A).defers = A.defers
  | [], _ => rfl
  | d :: ds, A => by rw [putL, putL_defers us ds]; rfl
theorem put_get (A : Act) (d : Tmp) (u : Value) (t : Nat) : (A.put (some d) u).tmps[t]? = if t = d ∧ t < A.tmps.size then some u else A.tmps[t]? := by
  simp only [Act.put, Array.getElem?_setIfInBounds]
  by_cases h : d = t
  · subst h
    by_cases hs : d < A.tmps.size
    · simp [hs]
    · simp [hs]
  · rw [if_neg h, if_neg (fun hh => h hh.1.symm)]
theorem put_size (A : Act) (d : Option Tmp) (u : Value) : (A.put d u).tmps.size = A.tmps.size := by cases d <;> simp [Act.put]
theorem put_defers (A : Act) (d : Option Tmp) (u : Value) : (A.put d u).defers = A.defers := by cases d <;> rfl
theorem put_other (A : Act) (d : Option Tmp) (u : Value) (t : Nat) (h : d ≠ some t) : (A.put d u).tmps[t]? = A.tmps[t]? := by
  cases d with
  | none => rfl
  | some d => rw [put_get, if_neg (fun hh => h (by rw [hh.1]))]
theorem putL_get (us : Tmp → Value) (t : Nat) : ∀ (ds : List Tmp) (A : Act), (putL us ds A).tmps[t]? = if t ∈ ds ∧ t < A.tmps.size then some (us t) else A.tmps[t]?
  | [], A => by simp [putL]
  | d :: ds, A => by
    rw [putL, putL_get us t ds, put_size, put_get]
    by_cases h1 : t ∈ ds
    · by_cases h2 : t < A.tmps.size
      · simp [h1, h2]
      · simp [h1, h2]
    · by_cases h2 : t = d
      · subst h2
        by_cases h3 : t < A.tmps.size <;> simp [h1, h3]
      · simp [h1, h2]

/-- The slots that an operation looks at and of which the predicate alone is known. -/
def lk (ops : Array Oper) (keys : List Tmp) (o : Oper) : List Tmp := ((o.looksAt ops).filter fun d => keys.contains d).eraseDups
def isKey (keys : List Tmp) (o : Oper) : Bool := match o.dst with | some d => keys.contains d | none => false

/-- One operation in the walk: its value is known, or it meets its slot's predicate. -/
def stepL (P : Program) (ops : Array Oper) (C : World → Prop) (R : World → World → Prop) (keys : List Tmp) (F : Tmp → Value → World → Prop) (o : Oper) (A : Act) (K : Act → Prop) : Prop :=
  if isKey keys o then
    (∀ w, C w → forL F w (lk ops keys o) A fun a => Region.wanted o (yielded ops a.tmps) = true ∧ yieldsTo P (fun u w' => F (o.dst.getD 0) u w' ∧ R w w') ((execOp a.eval o).run P w)) ∧ K A
  else ∃ v, (∀ w, C w → forL F w (lk ops keys o) A fun a =>
      if Region.wanted o (yielded ops a.tmps) then yieldsTo P (fun u w' => u = v ∧ R w w') ((execOp a.eval o).run P w) else v = undef) ∧ K (A.put o.dst v)

def wpL (P : Program) (ops : Array Oper) (C : World → Prop) (R : World → World → Prop) (keys : List Tmp) (F : Tmp → Value → World → Prop) (Q : Act → Prop) : List Oper → Act → Prop
  | [], A => Q A
  | o :: rest, A => stepL P ops C R keys F o A (wpL P ops C R keys F Q rest)

variable {ops : Array Oper} {C : World → Prop} {R : World → World → Prop} {keys : List Tmp} {F : Tmp → Value → World → Prop}

theorem wpL_nil {Q : Act → Prop} {A : Act} (h : Q A) : wpL P ops C R keys F Q [] A := h
theorem stepL_mono {o : Oper} {A : Act} {K K' : Act → Prop} (h : ∀ a, K a → K' a) (hh : stepL P ops C R keys F o A K) : stepL P ops C R keys F o A K' := by
  unfold stepL at *
  split
  · rename_i hk; rw [if_pos hk] at hh; exact ⟨hh.1, h _ hh.2⟩
  · rename_i hk; rw [if_neg hk] at hh; obtain ⟨v, h1, h2⟩ := hh; exact ⟨v, h1, h _ h2⟩
theorem stepL_end {o : Oper} {A : Act} {K : Act → Prop} (hh : stepL P ops C R keys F o A K) : ∃ B, stepL P ops C R keys F o A (· = B) ∧ K B := by
  unfold stepL at *
  by_cases hk : isKey keys o = true
  · rw [if_pos hk] at hh; exact ⟨A, by rw [if_pos hk]; exact ⟨hh.1, rfl⟩, hh.2⟩
  · rw [if_neg hk] at hh; obtain ⟨v, h1, h2⟩ := hh; exact ⟨_, by rw [if_neg hk]; exact ⟨v, h1, rfl⟩, h2⟩

/-- The frames of the walk, one ahead of each operation. -/
theorem wpL_acts {Q : Act → Prop} : ∀ (l : List Oper) (a : Act), wpL P ops C R keys F Q l a →
    ∃ A : Nat → Act, A 0 = a ∧ Q (A l.length) ∧ ∀ k o, l[k]? = some o → stepL P ops C R keys F o (A k) (· = A (k + 1))
  | [], a, h => ⟨fun _ => a, rfl, h, fun k o hk => by simp at hk⟩
  | o :: l, a, h => by
    obtain ⟨B, h1, h2⟩ := stepL_end h
    obtain ⟨A, e1, e2, e3⟩ := wpL_acts l B h2
    refine ⟨fun k => match k with | 0 => a | k + 1 => A k, rfl, e2, fun k o' hk => ?_⟩
    cases k with
    | zero =>
      simp only [List.getElem?_cons_zero, Option.some.injEq] at hk
      subst hk
      show stepL P ops C R keys F o a (· = A 0)
      rw [e1]; exact h1
    | succ k => exact e3 k o' (by simpa using hk)

theorem stepL_put {o : Oper} {A B : Act} (h : stepL P ops C R keys F o A (· = B)) : B.tmps.size = A.tmps.size ∧ B.defers = A.defers ∧ ∀ t, o.dst ≠ some t → B.tmps[t]? = A.tmps[t]? := by
  unfold stepL at h
  split at h
  · obtain ⟨_, rfl⟩ := h; exact ⟨rfl, rfl, fun _ _ => rfl⟩
  · obtain ⟨v, _, rfl⟩ := h
    exact ⟨put_size _ _ _, put_defers _ _ _, fun t ht => put_other _ _ _ _ ht⟩

/-- WHAT THE KERNEL CHECKS OF A REGION: edges lead back; each slot is written once; who looks at a slot waits for its writer, or its writer waits for him; what is known by a predicate alone is written, and looked at behind that. -/
def okEdges (ops : Array Oper) (keys : List Tmp) : Bool :=
  ((List.range ops.size).all fun i => match ops[i]? with
    | none => true
    | some oi => (oi.after.all fun e => !Region.binds .any e || decide (e.on < i)) && (match oi.op with | .select _ _ => false | _ => true) &&
      (List.range ops.size).all fun j => match ops[j]? with
        | none => true
        | some oj => match oj.dst with
          | none => true
          | some d => (i == j || oi.dst != some d) &&
            (!(oi.looksAt ops).contains d || (decide (j < i) && oi.after.any fun e => e.on == j && Region.binds .any e) ||
              (!keys.contains d && (i == j || (decide (i < j) && oj.after.any fun e => e.on == i && Region.binds .any e))))) &&
  keys.all fun d => (List.range ops.size).any fun j => match ops[j]? with | none => false | some oj => oj.dst == some d

structure Edges (ops : Array Oper) (keys : List Tmp) : Prop where
  back : ∀ (i : Nat) (o : Oper), ops[i]? = some o → ∀ e ∈ o.after, Region.binds .any e = true → e.on < i
  sel : ∀ (i : Nat) (o : Oper), ops[i]? = some o → ∀ cs b, o.op ≠ .select cs b
  once : ∀ (i j : Nat) (oi oj : Oper) (d : Tmp), ops[i]? = some oi → ops[j]? = some oj → oi.dst = some d → oj.dst = some d → i = j
  look : ∀ (i j : Nat) (oi oj : Oper) (d : Tmp), ops[i]? = some oi → ops[j]? = some oj → oj.dst = some d → d ∈ oi.looksAt ops →
    (j < i ∧ ∃ e ∈ oi.after, e.on = j ∧ Region.binds .any e = true) ∨ (d ∉ keys ∧ (i = j ∨ (i < j ∧ ∃ e ∈ oj.after, e.on = i ∧ Region.binds .any e = true)))
  keyed : ∀ d ∈ keys, ∃ (j : Nat) (oj : Oper), ops[j]? = some oj ∧ oj.dst = some d

theorem edges_of (h : okEdges ops keys = true) : Edges ops keys := by
  unfold okEdges at h
  rw [Bool.and_eq_true, List.all_eq_true, List.all_eq_true] at h
  obtain ⟨h1, h2⟩ := h
  have lt : ∀ {i : Nat} {o : Oper}, ops[i]? = some o → i ∈ List.range ops.size := fun {i o} ho => List.mem_range.2 (Array.getElem?_eq_some_iff.1 ho).1
  have one : ∀ {i : Nat} {o : Oper}, ops[i]? = some o → ((o.after.all fun e => !Region.binds .any e || decide (e.on < i)) = true ∧ (match o.op with | .select _ _ => false | _ => true) = true) ∧ _ := fun {i o} ho => by
    have := h1 i (lt ho)
    simp only [ho, Bool.and_eq_true] at this
    exact this
  refine ⟨fun i o ho e he hb => ?_, fun i o ho cs b hs => ?_, fun i j oi oj d hi hj di dj => ?_, fun i j oi oj d hi hj dj hd => ?_, fun d hd => ?_⟩
  · have := (one ho).1.1
    rw [Array.all_eq_true_iff_forall_mem] at this
    simpa [hb] using this e he
  · have := (one ho).1.2
    rw [hs] at this
    cases this
  · have := List.all_eq_true.1 (one hi).2 j (lt hj)
    simp only [hj, dj, Bool.and_eq_true, Bool.or_eq_true, beq_iff_eq, bne_iff_ne] at this
    rcases this.1 with h | h
    · exact h
    · exact absurd di h
  · have := List.all_eq_true.1 (one hi).2 j (lt hj)
    simp only [hj, dj, Bool.and_eq_true, Bool.or_eq_true, beq_iff_eq, bne_iff_ne, Bool.not_eq_true', decide_eq_true_eq, Array.any_eq_true', List.contains_eq_mem, decide_eq_false_iff_not] at this
    rcases this.2 with (h | ⟨h, e, he, h3, h4⟩) | ⟨h, h5⟩
    · exact absurd hd h
    · exact .inl ⟨h, e, he, h3, h4⟩
    · refine .inr ⟨h, ?_⟩
      rcases h5 with h5 | ⟨h5, e, he, h3, h4⟩
      · exact .inl h5
      · exact .inr ⟨h5, e, he, h3, h4⟩
  · have := h2 d hd
    rw [List.any_eq_true] at this
    obtain ⟨j, _, hj⟩ := this
    cases ho : ops[j]? with
    | none => simp [ho] at hj
    | some oj => exact ⟨j, oj, ho, by simpa [ho] using hj⟩

/-- How many operations have not come up. -/
def leftOver (ops : Array Oper) (listed : Array Bool) : Nat := (List.range ops.size).countP fun i => !listed.getD i false
theorem countP_lt {α : Type} {p q : α → Bool} {x : α} : ∀ (l : List α), (∀ y, q y = true → p y = true) → x ∈ l → p x = true → q x = false → l.countP q < l.countP p
  | [], _, hx, _, _ => by cases hx
  | y :: l, h, hx, hp, hq => by
    have hle : l.countP q ≤ l.countP p := List.countP_mono_left fun z _ hz => h z hz
    rcases List.mem_cons.1 hx with rfl | hx
    · rw [List.countP_cons_of_pos hp, List.countP_cons_of_neg (by simp [hq])]; omega
    · have := countP_lt l h hx hp hq
      by_cases hy : q y = true
      · rw [List.countP_cons_of_pos hy, List.countP_cons_of_pos (h y hy)]; omega
      · rw [List.countP_cons_of_neg hy]
        have := List.countP_le_length (p := p) (l := l)
        by_cases hy' : p y = true
        · rw [List.countP_cons_of_pos hy']; omega
        · rw [List.countP_cons_of_neg hy']; omega
theorem leftOver_set {listed : Array Bool} {i : Nat} (hi : i < ops.size) (hl : listed.getD i false = false) (hs : listed.size = ops.size) : leftOver ops (listed.setIfInBounds i true) < leftOver ops listed := by
  refine countP_lt (x := i) _ (fun y hy => ?_) (List.mem_range.2 hi) (by simp [hl]) (by simp [hs, hi])
  by_cases e : i = y
  · subst e; simp [hl]
  · rw [getD_set_ne false e] at hy; exact hy

/-- What holds in the midst of the region. -/
structure Mid (a : Act) (A : Nat → Act) (ops : Array Oper) (C : World → Prop) (keys : List Tmp) (F : Tmp → Value → World → Prop) (listed : Array Bool) (b : Act) (w : World) : Prop where
  c : C w
  defers : b.defers = a.defers
  size : b.tmps.size = a.tmps.size
  len : listed.size = ops.size
  closed : ∀ (i : Nat) (o : Oper), ops[i]? = some o → listed.getD i false = true → ∀ e ∈ o.after, Region.binds .any e = true → listed.getD e.on false = true
  key : ∀ (i : Nat) (o : Oper) (d : Tmp), ops[i]? = some o → o.dst = some d → listed.getD i false = true → d ∈ keys → ∃ u, b.tmps[d]? = some u ∧ F d u w
  val : ∀ (i : Nat) (o : Oper) (d : Tmp), ops[i]? = some o → o.dst = some d → listed.getD i false = true → d ∉ keys → b.tmps[d]? = (A (i + 1)).tmps[d]?
  old : ∀ (d : Tmp), (∀ (i : Nat) (o : Oper), ops[i]? = some o → o.dst = some d → listed.getD i false = false) → b.tmps[d]? = a.tmps[d]?

section
variable {a : Act} {A : Nat → Act}

theorem acts_keep (hA : ∀ k o, ops[k]? = some o → stepL P ops C R keys F o (A k) (· = A (k + 1))) (t : Nat) (i : Nat) : ∀ (n : Nat), i + n ≤ ops.size →
    (∀ (k : Nat) (o : Oper), i ≤ k → k < i + n → ops[k]? = some o → o.dst ≠ some t) → (A (i + n)).tmps[t]? = (A i).tmps[t]?
  | 0, _, _ => rfl
  | n + 1, hn, h => by
    have ho : ops[i + n]? = some (ops[i + n]'(by omega)) := by rw [Array.getElem?_eq_getElem]
    rw [← Nat.add_assoc, (stepL_put (hA _ _ ho)).2.2 t (h _ _ (by omega) (by omega) ho)]
    exact acts_keep hA t i n (by omega) fun k o h1 h2 => h k o h1 (by omega)
theorem acts_size (hA : ∀ k o, ops[k]? = some o → stepL P ops C R keys F o (A k) (· = A (k + 1))) : ∀ (n : Nat), n ≤ ops.size → (A n).tmps.size = (A 0).tmps.size ∧ (A n).defers = (A 0).defers
  | 0, _ => ⟨rfl, rfl⟩
  | n + 1, hn => by
    have ho : ops[n]? = some (ops[n]'(by omega)) := by rw [Array.getElem?_eq_getElem]
    have h := stepL_put (hA _ _ ho)
    have ih := acts_size hA n (by omega)
    exact ⟨h.1.trans ih.1, h.2.1.trans ih.2⟩

theorem yielded_same {b b' : Act} {j : Nat} (h : ∀ d, (ops[j]?).bind (·.dst) = some d → b.tmps[d]? = b'.tmps[d]?) : yielded ops b.tmps j = yielded ops b'.tmps j := by
  unfold yielded
  cases hd : (ops[j]?).bind (·.dst) with
  | none => rfl
  | some d =>
    have := h d hd
    simp only [Option.bind_some]
    rw [this]
theorem same_op {o : Oper} {b b' : Act} (hsel : ∀ cs b, o.op ≠ .select cs b) (h : ∀ d ∈ o.looksAt ops, b.tmps[d]? = b'.tmps[d]?) :
    execOp b.eval o = execOp b'.eval o ∧ Region.wanted o (yielded ops b.tmps) = Region.wanted o (yielded ops b'.tmps) := by
  constructor
  · refine execOp_congr o hsel fun x hx => ?_
    cases x with
    | tmp t =>
      have := h t (List.mem_append_left _ (List.mem_filterMap.2 ⟨.tmp t, by simpa using hx, rfl⟩))
      simp only [Act.eval, Array.getD_eq_getD_getElem?, this]
    | _ => rfl
  · unfold Region.wanted
    cases hg : o.guard with
    | none => rfl
    | some gw =>
      obtain ⟨g, want⟩ := gw
      have : yielded ops b.tmps g = yielded ops b'.tmps g := yielded_same fun d hd => h d (List.mem_append_right _ (by simp [hg, hd]))
      simp only [this]

theorem mid_run (hE : Edges ops keys) (hk : ∀ d ∈ keys, d < a.tmps.size) (h0 : A 0 = a) (hA : ∀ k o, ops[k]? = some o → stepL P ops C R keys F o (A k) (· = A (k + 1)))
    (hC : ∀ w w', C w → R w w' → C w') (hrefl : ∀ w, R w w) (hst : ∀ d u w w', R w w' → F d u w → F d u w') {Q : Exit → Act → World → Prop} {K : Act → World → Prop}
    {listed : Array Bool} {b : Act} {w : World} (h : Mid a A ops C keys F listed b w) {i : Nat} (hr : i ∈ Region.ready .any ops listed)
    (hK : ∀ b' w', Mid a A ops C keys F (listed.setIfInBounds i true) b' w' → K b' w') : wpOp P ops Q i K b w := by
  obtain ⟨hun, o, ho, hall⟩ := mem_ready.1 hr
  have hi : i < ops.size := (Array.getElem?_eq_some_iff.1 ho).1
  have hun' : listed.getD i false = false := by
    simp only [Array.getD_eq_getD_getElem?] at hun ⊢
    cases hx : listed[i]? with
    | none => rfl
    | some x => rw [hx] at hun; exact hun
  have hsz := acts_size hA i (by omega)
  rw [h0] at hsz
  have nolist : ∀ (j : Nat) (oj : Oper), ops[j]? = some oj → (∃ e ∈ oj.after, e.on = i ∧ Region.binds .any e = true) → listed.getD j false = false := fun j oj hj ⟨e, he, h1, h2⟩ => by
    cases hl : listed.getD j false with
    | false => rfl
    | true => have := h.closed j oj hj hl e he h2; rw [h1, hun'] at this; cases this
  have us : ∀ d ∈ o.looksAt ops, b.tmps[d]? = (putL (fun d => b.tmps.getD d undef) (lk ops keys o) (A i)).tmps[d]? ∧ (d ∈ keys → F d (b.tmps.getD d undef) w) := fun d hd => by
    rw [putL_get]
    by_cases hdk : d ∈ keys
    · obtain ⟨j, oj, hj, hdj⟩ := hE.keyed d hdk
      rcases hE.look i j o oj d ho hj hdj hd with ⟨hlt, e, he, h1, h2⟩ | ⟨hno, _⟩
      · have hl : listed.getD j false = true := by have := hall e he h2; rwa [h1] at this
        obtain ⟨u, hu, hF⟩ := h.key j oj d hj hdj hl hdk
        have hg : b.tmps.getD d undef = u := by simp [Array.getD_eq_getD_getElem?, hu]
        rw [if_pos ⟨by simp [lk, hd, hdk], by rw [hsz.1]; exact hk d hdk⟩, hg]
        exact ⟨hu, fun _ => hF⟩
      · exact absurd hdk hno
    · rw [if_neg (fun hh => hdk (by have := hh.1; simp [lk] at this; exact this.2))]
      refine ⟨?_, fun h => absurd h hdk⟩
      by_cases hw : ∃ (j : Nat) (oj : Oper), ops[j]? = some oj ∧ oj.dst = some d
      · obtain ⟨j, oj, hj, hdj⟩ := hw
        have hjs : j < ops.size := (Array.getElem?_eq_some_iff.1 hj).1
        have early : ∀ (m n : Nat), m + n ≤ ops.size → (m + n ≤ j ∨ j < m) → (A (m + n)).tmps[d]? = (A m).tmps[d]? := fun m n hmn hmj => acts_keep hA d m n hmn fun k ok h1 h2 hk hdk' => by
          have := hE.once k j ok oj d hk hj hdk' hdj
          omega
        rcases hE.look i j o oj d ho hj hdj hd with ⟨hlt, e, he, h1, h2⟩ | ⟨_, hh⟩
        · have hl : listed.getD j false = true := by have := hall e he h2; rwa [h1] at this
          rw [h.val j oj d hj hdj hl hdk]
          have := early (j + 1) (i - (j + 1)) (by omega) (.inr (by omega))
          rw [show j + 1 + (i - (j + 1)) = i by omega] at this
          exact this.symm
        · have hl : listed.getD j false = false := by
            rcases hh with rfl | ⟨_, hh⟩
            · exact hun'
            · exact nolist j oj hj hh
          have hij : i ≤ j := by rcases hh with rfl | hh <;> omega
          rw [h.old d fun k ok hk hdk' => by have := hE.once k j ok oj d hk hj hdk' hdj; rw [this]; exact hl]
          have := early 0 i (by omega) (.inl (by omega))
          rw [Nat.zero_add, h0] at this
          exact this.symm
      · rw [h.old d fun k ok hk hdk' => absurd ⟨k, ok, hk, hdk'⟩ hw]
        have := acts_keep hA d 0 i (by omega) fun k ok _ _ hk hdk' => hw ⟨k, ok, hk, hdk'⟩
        rw [Nat.zero_add, h0] at this
        exact this.symm
  have same := same_op (hE.sel i o ho) fun d hd => (us d hd).1
  have facts : ∀ d ∈ lk ops keys o, F d (b.tmps.getD d undef) w := fun d hd => by
    simp only [lk, List.mem_eraseDups, List.mem_filter, List.contains_eq_mem, decide_eq_true_eq] at hd
    exact (us d hd.1).2 hd.2
  have hstep := hA i o ho
  -- what stands behind it
  have next : ∀ (u : Value) (w' : World), R w w' → (∀ d, o.dst = some d → d ∈ keys → F d u w') → (∀ d, o.dst = some d → d ∉ keys → (A (i + 1)).tmps[d]? = if d < a.tmps.size then some u else none) →
      Mid a A ops C keys F (listed.setIfInBounds i true) (b.put o.dst u) w' := fun u w' hR hFd hVd => by
    have set_i : (listed.setIfInBounds i true).getD i false = true := by simp [h.len, hi]
    have set_j : ∀ j, j ≠ i → (listed.setIfInBounds i true).getD j false = listed.getD j false := fun j hj => getD_set_ne false (Ne.symm hj)
    refine ⟨hC _ _ h.c hR, by rw [put_defers]; exact h.defers, by rw [put_size]; exact h.size, by simp [h.len], fun j oj hj hl e he hb => ?_, fun j oj d hj hd hl hdk => ?_, fun j oj d hj hd hl hdk => ?_, fun d hd => ?_⟩
    · by_cases hji : j = i
      · subst hji
        rw [ho] at hj; cases hj
        exact getD_set_true (hall e he hb)
      · rw [set_j j hji] at hl
        exact getD_set_true (h.closed j oj hj hl e he hb)
    · by_cases hji : j = i
      · subst hji
        rw [ho] at hj; cases hj
        refine ⟨u, ?_, hFd d hd hdk⟩
        rw [hd, put_get, if_pos ⟨rfl, by rw [h.size]; exact hk d hdk⟩]
      · rw [set_j j hji] at hl
        obtain ⟨x, hx, hF⟩ := h.key j oj d hj hd hl hdk
        exact ⟨x, by rw [put_other _ _ _ _ fun hod => hji (hE.once j i oj o d hj ho hd hod)]; exact hx, hst _ _ _ _ hR hF⟩
    · by_cases hji : j = i
      · subst hji
        rw [ho] at hj; cases hj
        rw [hVd d hd hdk, hd, put_get, h.size]
        by_cases hds : d < a.tmps.size
        · simp [hds]
        · rw [if_neg (fun hh => hds hh.2), if_neg hds, Array.getElem?_eq_none (by rw [h.size]; exact Nat.le_of_not_lt hds)]
      · rw [set_j j hji] at hl
        rw [put_other _ _ _ _ fun hod => hji (hE.once j i oj o d hj ho hd hod)]
        exact h.val j oj d hj hd hl hdk
    · have hod : o.dst ≠ some d := fun hod => by have := hd i o ho hod; rw [set_i] at this; cases this
      rw [put_other _ _ _ _ hod]
      refine h.old d fun j oj hj hdj => ?_
      have := hd j oj hj hdj
      by_cases hji : j = i
      · subst hji; rw [set_i] at this; cases this
      · rwa [set_j j hji] at this
  unfold wpOp
  simp only [ho]
  unfold stepL at hstep
  by_cases hkey : isKey keys o = true
  · rw [if_pos hkey] at hstep
    obtain ⟨h1, h2⟩ := hstep
    have hx := forL_use (fun d => b.tmps.getD d undef) _ _ _ (h1 w h.c) facts
    rw [← same.1, ← same.2] at hx
    rw [if_pos hx.1]
    obtain ⟨d, hd, hdk⟩ : ∃ d, o.dst = some d ∧ d ∈ keys := by
      cases hod : o.dst with
      | none => simp [isKey, hod] at hkey
      | some d => exact ⟨d, rfl, by simpa [isKey, hod] using hkey⟩
    refine .inl (wp_of_yields hx.2 fun u w' ⟨hF, hR⟩ => hK _ _ (next u w' hR (fun d' hd' _ => ?_) fun d' hd' hdk' => ?_))
    · rw [hd'] at hF; exact hF
    · rw [hd] at hd'; cases hd'; exact absurd hdk hdk'
  · rw [if_neg hkey] at hstep
    obtain ⟨v, h1, h2⟩ := hstep
    have hx := forL_use (fun d => b.tmps.getD d undef) _ _ _ (h1 w h.c) facts
    rw [← same.1, ← same.2] at hx
    have hv : ∀ d, o.dst = some d → d ∉ keys → (A (i + 1)).tmps[d]? = if d < a.tmps.size then some v else none := fun d hd _ => by
      rw [← h2, hd, put_get, hsz.1]
      by_cases hds : d < a.tmps.size
      · simp [hds]
      · rw [if_neg (fun hh => hds hh.2), if_neg hds, Array.getElem?_eq_none (by rw [hsz.1]; exact Nat.le_of_not_lt hds)]
    have hnk : ∀ d, o.dst = some d → d ∉ keys := fun d hd hdk => hkey (by simp [isKey, hd, hdk])
    by_cases hwt : Region.wanted o (yielded ops b.tmps) = true
    · rw [if_pos hwt] at hx ⊢
      exact .inl (wp_of_yields hx fun u w' ⟨hu, hR⟩ => by subst hu; exact hK _ _ (next _ w' hR (fun d hd hdk => absurd hdk (hnk d hd)) hv))
    · rw [if_neg hwt] at hx ⊢
      rw [← hx]
      exact hK _ _ (next v w (hrefl w) (fun d hd hdk => absurd hdk (hnk d hd)) hv)

theorem mid_all (hE : Edges ops keys) (hk : ∀ d ∈ keys, d < a.tmps.size) (h0 : A 0 = a) (hA : ∀ k o, ops[k]? = some o → stepL P ops C R keys F o (A k) (· = A (k + 1)))
    (hC : ∀ w w', C w → R w w' → C w') (hrefl : ∀ w, R w w) (hst : ∀ d u w w', R w w' → F d u w → F d u w') {Q : Exit → Act → World → Prop}
    (hQ : ∀ w, C w → forL F w keys (A ops.size) fun b => Q .normal b w) :
    ∀ (fuel : Nat) (listed : Array Bool) (b : Act) (w : World), leftOver ops listed ≤ fuel → Mid a A ops C keys F listed b w → wpAny P .any ops Q fuel listed b w := by
  have fin : ∀ (listed : Array Bool) (b : Act) (w : World), Mid a A ops C keys F listed b w → (∀ (i : Nat), i < ops.size → listed.getD i false = true) → Q .normal b w := fun listed b w h hl => by
    have hx := forL_use (fun d => b.tmps.getD d undef) _ _ _ (hQ w h.c) fun d hd => by
      obtain ⟨j, oj, hj, hdj⟩ := hE.keyed d hd
      obtain ⟨u, hu, hF⟩ := h.key j oj d hj hdj (hl j (Array.getElem?_eq_some_iff.1 hj).1) hd
      simpa [Array.getD_eq_getD_getElem?, hu] using hF
    have hsz := acts_size hA ops.size (Nat.le_refl _)
    rw [h0] at hsz
    have e : putL (fun d => b.tmps.getD d undef) keys (A ops.size) = b := by
      have h1 : (putL (fun d => b.tmps.getD d undef) keys (A ops.size)).tmps = b.tmps := by
        apply Array.ext_getElem?
        intro t
        rw [putL_get]
        by_cases htk : t ∈ keys
        · rw [if_pos ⟨htk, by rw [hsz.1]; exact hk t htk⟩]
          obtain ⟨j, oj, hj, hdj⟩ := hE.keyed t htk
          obtain ⟨u, hu, _⟩ := h.key j oj t hj hdj (hl j (Array.getElem?_eq_some_iff.1 hj).1) htk
          rw [hu]; simp [Array.getD_eq_getD_getElem?, hu]
        · rw [if_neg (fun hh => htk hh.1)]
          by_cases hw : ∃ (j : Nat) (oj : Oper), ops[j]? = some oj ∧ oj.dst = some t
          · obtain ⟨j, oj, hj, hdj⟩ := hw
            have hjs : j < ops.size := (Array.getElem?_eq_some_iff.1 hj).1
            rw [h.val j oj t hj hdj (hl j hjs) htk]
            have := acts_keep hA t (j + 1) (ops.size - (j + 1)) (by omega) fun k ok h1 h2 hk hdk' => by
              have := hE.once k j ok oj t hk hj hdk' hdj
              omega
            rw [show j + 1 + (ops.size - (j + 1)) = ops.size by omega] at this
            exact this
          · rw [h.old t fun k ok hk hdk' => absurd ⟨k, ok, hk, hdk'⟩ hw]
            have := acts_keep hA t 0 ops.size (by omega) fun k ok _ _ hk hdk' => hw ⟨k, ok, hk, hdk'⟩
            rw [Nat.zero_add, h0] at this
            exact this
      have h2 : (putL (fun d => b.tmps.getD d undef) keys (A ops.size)).defers = b.defers := by rw [putL_defers, hsz.2, h.defers]
      cases hp : putL (fun d => b.tmps.getD d undef) keys (A ops.size)
      cases b
      rw [hp] at h1 h2
      simp_all
    rwa [e] at hx
  have ready_nil : ∀ (listed : Array Bool) (b : Act) (w : World), Mid a A ops C keys F listed b w → Region.ready .any ops listed = [] → ∀ (i : Nat), i < ops.size → listed.getD i false = true := fun listed b w h hr i => by
    induction i using Nat.strongRecOn with
    | _ i ih =>
      intro hi
      cases hl : listed.getD i false with
      | true => rfl
      | false =>
        have ho : ops[i]? = some ops[i] := by rw [Array.getElem?_eq_getElem]
        have : i ∈ Region.ready .any ops listed := mem_ready.2 ⟨by
          have hs : i < listed.size := by rw [h.len]; exact hi
          simp only [Array.getD_eq_getD_getElem?, Array.getElem?_eq_getElem hs, Option.getD_some] at hl ⊢
          exact hl, _, ho, fun e he hb => by
            have := hE.back i _ ho e he hb
            exact ih e.on this (by omega)⟩
        rw [hr] at this
        cases this
  intro fuel
  induction fuel with
  | zero =>
    intro listed b w hf h
    have hl : ∀ (i : Nat), i < ops.size → listed.getD i false = true := fun i hi => by
      have : leftOver ops listed = 0 := by omega
      have := List.countP_eq_zero.1 this i (List.mem_range.2 hi)
      simpa using this
    refine ⟨?_, fin listed b w h hl⟩
    cases hr : Region.ready .any ops listed with
    | nil => rfl
    | cons i _ =>
      have hi : i ∈ Region.ready .any ops listed := by rw [hr]; simp
      obtain ⟨h1, o, ho, _⟩ := mem_ready.1 hi
      have hs : i < ops.size := (Array.getElem?_eq_some_iff.1 ho).1
      have := hl i hs
      have hs' : i < listed.size := by rw [h.len]; exact hs
      simp only [Array.getD_eq_getD_getElem?, Array.getElem?_eq_getElem hs', Option.getD_some] at h1 this
      rw [h1] at this; cases this
  | succ fuel ih =>
    intro listed b w hf h
    refine ⟨fun hr => fin listed b w h (ready_nil listed b w h hr), fun i hi => ?_⟩
    refine mid_run hE hk h0 hA hC hrefl hst h hi fun b' w' h' => ih _ b' w' ?_ h'
    obtain ⟨h1, o, ho, _⟩ := mem_ready.1 hi
    have hs : i < ops.size := (Array.getElem?_eq_some_iff.1 ho).1
    have hs' : i < listed.size := by rw [h.len]; exact hs
    have := leftOver_set (ops := ops) (listed := listed) hs (by
      simp only [Array.getD_eq_getD_getElem?, Array.getElem?_eq_getElem hs', Option.getD_some] at h1 ⊢; exact h1) h.len
    omega
end

/-- ONE WALK SERVES EVERY ORDER. -/
theorem wp_region_loose {id : Nat} {Q : Exit → Act → World → Prop} {a : Act} {w : World} {l : List Oper} (keys : List Tmp) (F : Tmp → Value → World → Prop) (R : World → World → Prop)
    (hm : P.follows .mixedOrders = true) (hE : okEdges l.toArray keys = true) (hk : ∀ d ∈ keys, d < a.tmps.size) (hrefl : ∀ w, R w w) (htrans : ∀ x y z, R x y → R y z → R x z)
    (hst : ∀ d u w w', R w w' → F d u w → F d u w')
    (h : wpL P l.toArray (R w.drew) R keys F (fun A => ∀ w', R w.drew w' → forL F w' keys A fun b => Q .normal b w') l a) : (Code.region id l.toArray true).wp P Q a w := by
  refine wp_region_any hm ?_
  obtain ⟨A, h0, hQ, hA⟩ := wpL_acts l a h
  refine mid_all (C := R w.drew) (R := R) (keys := keys) (F := F) (a := a) (A := A) (edges_of hE) hk h0 (fun k o hko => hA k o (by simpa using hko)) (fun x y hx hy => htrans _ _ _ hx hy) hrefl hst
    (fun w' hw' => by simpa using hQ w' hw') _ _ _ _ ?_ ?_
  · exact Nat.le_trans List.countP_le_length (by simp)
  · refine ⟨hrefl _, rfl, rfl, by simp, fun i o _ hl => ?_, fun i o d _ _ hl => ?_, fun i o d _ _ hl => ?_, fun _ _ => rfl⟩ <;>
    · exfalso
      simp only [Array.getD_eq_getD_getElem?, Array.getElem?_replicate] at hl
      split at hl <;> simp at hl

/-! ### The steps of a walk -/
theorem wpL_step {Q : Act → Prop} {A : Act} {o : Oper} {rest : List Oper} (h : ∀ K : Act → Prop, (∀ a, wpL P ops C R keys F Q rest a → K a) → stepL P ops C R keys F o A K) : wpL P ops C R keys F Q (o :: rest) A :=
  h _ fun _ h => h
/-- An operation whose value is the same in every world of the class. -/
theorem stepL_ex {o : Oper} {A : Act} {K : Act → Prop} {v : Value} (hk : isKey keys o = false) (hl : lk ops keys o = []) (hw : Region.wanted o (yielded ops A.tmps) = true) (hR : ∀ w, R w w)
    (hrun : ∀ w, C w → (execOp A.eval o).run P w = .ok (.value v) w) (h : K (A.put o.dst v)) : stepL P ops C R keys F o A K := by
  unfold stepL
  rw [if_neg (by rw [hk]; simp)]
  refine ⟨v, fun w hc => ?_, h⟩
  rw [hl]
  show if _ then _ else _
  rw [if_pos hw, hrun w hc]
  exact ⟨rfl, hR w⟩
/-- It is passed over. -/
theorem stepL_skip {o : Oper} {A : Act} {K : Act → Prop} (hk : isKey keys o = false) (hl : lk ops keys o = []) (hw : Region.wanted o (yielded ops A.tmps) = false) (h : K (A.put o.dst undef)) : stepL P ops C R keys F o A K := by
  unfold stepL
  rw [if_neg (by rw [hk]; simp)]
  refine ⟨undef, fun w hc => ?_, h⟩
  rw [hl]
  show if _ then _ else _
  rw [if_neg (by rw [hw]; simp)]
/-- It looks at one slot of which the predicate alone is known. -/
theorem stepL_ex1 {o : Oper} {A : Act} {K : Act → Prop} {v : Value} {d : Tmp} (hk : isKey keys o = false) (hl : lk ops keys o = [d]) (hR : ∀ w, R w w)
    (hrun : ∀ w u, C w → F d u w → Region.wanted o (yielded ops (A.put (some d) u).tmps) = true ∧ (execOp (A.put (some d) u).eval o).run P w = .ok (.value v) w) (h : K (A.put o.dst v)) : stepL P ops C R keys F o A K := by
  unfold stepL
  rw [if_neg (by rw [hk]; simp)]
  refine ⟨v, fun w hc => ?_, h⟩
  rw [hl]
  intro u hu
  obtain ⟨h1, h2⟩ := hrun w u hc hu
  show if _ then _ else _
  rw [if_pos h1, h2]
  exact ⟨rfl, hR w⟩
/-- A call that hands back a value that is known. -/
theorem stepL_call {o : Oper} {A : Act} {K : Act → Prop} {v : Value} {f : FuncId} {args : Array Value} (hk : isKey keys o = false) (hl : lk ops keys o = []) (hw : Region.wanted o (yielded ops A.tmps) = true)
    (hrun : ∀ w, (execOp A.eval o).run P w = .ok (.enter f args) w) (hc : ∀ w, C w → Calls P f args w fun e w' => e = .returned v ∧ R w w') (h : K (A.put o.dst v)) : stepL P ops C R keys F o A K := by
  unfold stepL
  rw [if_neg (by rw [hk]; simp)]
  refine ⟨v, fun w hcw => ?_, h⟩
  rw [hl]
  show if _ then _ else _
  rw [if_pos hw, hrun w]
  exact (hc w hcw).mono fun e w' ⟨he, hr⟩ => ⟨v, he, rfl, hr⟩
/-- A call of whose value the predicate alone is known. -/
theorem stepL_key {o : Oper} {A : Act} {K : Act → Prop} {f : FuncId} {args : Array Value} (d : Tmp) (hd : o.dst = some d) (hk : isKey keys o = true) (hl : lk ops keys o = []) (hw : Region.wanted o (yielded ops A.tmps) = true)
    (hrun : ∀ w, (execOp A.eval o).run P w = .ok (.enter f args) w) (hc : ∀ w, C w → Calls P f args w fun e w' => ∃ u, e = .returned u ∧ F d u w' ∧ R w w') (h : K A) : stepL P ops C R keys F o A K := by
  unfold stepL
  rw [if_pos hk]
  refine ⟨fun w hcw => ?_, h⟩
  rw [hl, hd]
  refine ⟨hw, ?_⟩
  rw [hrun w]
  exact hc w hcw
end
end Go.Proofs.YtbinmgpfkjmijaaGreatDoor
namespace Go.Proofs.YtbinmgpfkjmijaaGreatDoor
open Go
section
variable {P : Program} {ops : Array Oper} {C : World → Prop} {R : World → World → Prop} {keys : List Tmp} {F : Tmp → Value → World → Prop}
/-- An operation that makes memory at once: of its value the predicate alone is known. -/
theorem stepL_mk {o : Oper} {A : Act} {K : Act → Prop} (d : Tmp) (hd : o.dst = some d) (hk : isKey keys o = true) (hl : lk ops keys o = []) (hw : Region.wanted o (yielded ops A.tmps) = true)
    (hrun : ∀ w, C w → ∃ u w', (execOp A.eval o).run P w = .ok (.value u) w' ∧ F d u w' ∧ R w w') (h : K A) : stepL P ops C R keys F o A K := by
  unfold stepL
  rw [if_pos hk]
  refine ⟨fun w hcw => ?_, h⟩
  rw [hl, hd]
  refine ⟨hw, ?_⟩
  obtain ⟨u, w', hr, hf, hR⟩ := hrun w hcw
  rw [hr]
  exact ⟨hf, hR⟩
/-- A call with a known value that is handed one slot of which the predicate alone is known. -/
theorem stepL_call1 {o : Oper} {A : Act} {K : Act → Prop} {v : Value} {f : FuncId} {d : Tmp} (args : Value → Array Value) (hk : isKey keys o = false) (hl : lk ops keys o = [d])
    (hrun : ∀ w u, C w → F d u w → Region.wanted o (yielded ops (A.put (some d) u).tmps) = true ∧ (execOp (A.put (some d) u).eval o).run P w = .ok (.enter f (args u)) w)
    (hc : ∀ w u, C w → F d u w → Calls P f (args u) w fun e w' => e = .returned v ∧ R w w') (h : K (A.put o.dst v)) : stepL P ops C R keys F o A K := by
  unfold stepL
  rw [if_neg (by rw [hk]; simp)]
  refine ⟨v, fun w hcw => ?_, h⟩
  rw [hl]
  intro u hu
  obtain ⟨h1, h2⟩ := hrun w u hcw hu
  show if _ then _ else _
  rw [if_pos h1, h2]
  exact (hc w u hcw hu).mono fun e w' ⟨he, hr⟩ => ⟨v, he, rfl, hr⟩
end
end Go.Proofs.YtbinmgpfkjmijaaGreatDoor
namespace Go.Proofs.YtbinmgpfkjmijaaGreatDoor
open Go

section
variable {F : Fence} {n : Nat} {P : Program}

theorem oper_exits {o : Oper} {a : Act} {w : World} {K K' : Act → World → Prop} {Q Q' : Exit → Act → World → Prop} (h : ∀ a w, K a w → K' a w) (hq : ∀ e a w, e ≠ .normal → Q e a w → Q' e a w)
    (hh : o.wpIn F n P a w K Q) : o.wpIn F n P a w K' Q' := by
  have hl : LetsOut Q → LetsOut Q' := fun ⟨a, w, hx⟩ => ⟨a, w, hq _ _ _ (by simp) hx⟩
  unfold Oper.wpIn at *
  refine ⟨hh.1, ?_⟩
  have hh := hh.2
  generalize (o.semAt F.round a.eval).run P w = r at *
  cases r with
  | ok x w' =>
    cases x <;> simp only [Oper.uponIn] at hh ⊢ <;>
      first
        | exact h _ _ hh
        | exact ⟨hh.1, CallsIn.mono hh.2 (fun e w'' he => by cases e <;> first | exact h _ _ he | exact hq _ _ _ (by simp) he | exact hl he)⟩
        | exact ⟨hh.1, RowsIn.mono hh.2 (fun _ _ he => h _ _ he)⟩
        | exact ⟨hh.1, RoundIn.mono hh.2 (fun e w'' he => by cases e <;> first | exact h _ _ he | exact hq _ _ _ (by simp) he | exact hl he)⟩
  | halt x w' =>
    cases x <;> simp only [Oper.uponIn] at hh ⊢ <;> first | exact hh | exact hq _ _ _ (by simp) hh

/-- A slot's value, once its operation has come up. -/
def sel (c : Bool) (v : Value) : Value := if c then v else undef
theorem sel_t (v : Value) : sel true v = v := rfl
theorem sel_f (v : Value) : sel false v = undef := rfl
/-- An invariant by the frame (which depends on what has come up, and on what a yield answered) and a word on the world. -/
def InvT (tmps : (Nat → Bool) → Bool → Array Value) (Rel : (Nat → Bool) → Bool → World → Prop) (L : Nat → Bool) (b : Act) (w : World) : Prop := ∃ tb : Bool, b = { tmps := tmps L tb, defers := [] } ∧ Rel L tb w

/-- What the kernel checks: edges lead back. -/
def okBack (ops : Array Oper) : Bool :=
  (List.range ops.size).all fun i => match ops[i]? with
    | none => true
    | some o => o.after.all fun e => !Region.binds .any e || decide (e.on < i)
theorem okBack_at {ops : Array Oper} (h : okBack ops = true) {i : Nat} {o : Oper} (ho : ops[i]? = some o) : ∀ e ∈ o.after, Region.binds .any e = true → e.on < i := by
  unfold okBack at h
  rw [List.all_eq_true] at h
  have := h i (List.mem_range.2 (Array.getElem?_eq_some_iff.1 ho).1)
  simp only [ho] at this
  intro e he hb
  rw [Array.all_eq_true_iff_forall_mem] at this
  simpa [hb] using this e he

/-- Closed under edges. -/
def Closed (ops : Array Oper) (L : Nat → Bool) : Prop := ∀ (k : Nat) (ok : Oper), ops[k]? = some ok → L k = true → ∀ e ∈ ok.after, Region.binds .any e = true → L e.on = true

theorem invIn_all {ops : Array Oper} {Inv : (Nat → Bool) → Act → World → Prop} {Q : Exit → Act → World → Prop} (hE : okBack ops = true)
    (hstep : ∀ (L : Nat → Bool) (b : Act) (w : World) (i : Nat) (o : Oper), ops[i]? = some o → L i = false → Closed ops L → (∀ e ∈ o.after, Region.binds .any e = true → L e.on = true) → Inv L b w →
      wpListIn F n P ops (fun e b' w' => match e with | .normal => Inv (fun k => if k = i then true else L k) b' w' | e => Q e b' w') [o] b w)
    (hend : ∀ b w', Inv (fun k => decide (k < ops.size)) b w' → Q .normal b w') :
    ∀ (fuel : Nat) (listed : Array Bool) (b : Act) (w : World), leftOver ops listed ≤ fuel → listed.size = ops.size → Closed ops (fun k => listed.getD k false) → Inv (fun k => listed.getD k false) b w → wpAnyIn F n P .any ops Q fuel listed b w := by
  have fin : ∀ (listed : Array Bool) (b : Act) (w : World), listed.size = ops.size → Inv (fun k => listed.getD k false) b w → (∀ (i : Nat), i < ops.size → listed.getD i false = true) → Q .normal b w := fun listed b w hlen h hl => by
    have hL : (fun k => listed.getD k false) = fun k => decide (k < ops.size) := by
      funext k
      by_cases hks : k < ops.size
      · rw [hl k hks]; simp [hks]
      · simp [hks, Array.getElem?_eq_none (show listed.size ≤ k by rw [hlen]; omega)]
    rw [hL] at h
    exact hend _ _ h
  have ready_nil : ∀ (listed : Array Bool), listed.size = ops.size → Region.ready .any ops listed = [] → ∀ (i : Nat), i < ops.size → listed.getD i false = true := fun listed hlen hr i => by
    induction i using Nat.strongRecOn with
    | _ i ih =>
      intro hi
      cases hl : listed.getD i false with
      | true => rfl
      | false =>
        have ho : ops[i]? = some ops[i] := by rw [Array.getElem?_eq_getElem]
        have : i ∈ Region.ready .any ops listed := mem_ready.2 ⟨by
          have hs : i < listed.size := by rw [hlen]; exact hi
          simp only [Array.getD_eq_getD_getElem?, Array.getElem?_eq_getElem hs, Option.getD_some] at hl ⊢
          exact hl, _, ho, fun e he hb => by
            have := okBack_at hE ho e he hb
            exact ih e.on this (by omega)⟩
        rw [hr] at this
        cases this
  intro fuel
  induction fuel with
  | zero =>
    intro listed b w hf hlen _ h
    have hl : ∀ (i : Nat), i < ops.size → listed.getD i false = true := fun i hi => by
      have : leftOver ops listed = 0 := by omega
      have := List.countP_eq_zero.1 this i (List.mem_range.2 hi)
      simpa using this
    refine ⟨?_, fin listed b w hlen h hl⟩
    cases hr : Region.ready .any ops listed with
    | nil => rfl
    | cons i _ =>
      have hi : i ∈ Region.ready .any ops listed := by rw [hr]; simp
      obtain ⟨h1, o, ho, _⟩ := mem_ready.1 hi
      have hs : i < ops.size := (Array.getElem?_eq_some_iff.1 ho).1
      have := hl i hs
      have hs' : i < listed.size := by rw [hlen]; exact hs
      simp only [Array.getD_eq_getD_getElem?, Array.getElem?_eq_getElem hs', Option.getD_some] at h1 this
      rw [h1] at this; cases this
  | succ fuel ih =>
    intro listed b w hf hlen hcl h
    refine ⟨fun hr => fin listed b w hlen h (ready_nil listed hlen hr), fun i hi => ?_⟩
    obtain ⟨hun, o, ho, hall⟩ := mem_ready.1 hi
    have hs : i < ops.size := (Array.getElem?_eq_some_iff.1 ho).1
    have hs' : i < listed.size := by rw [hlen]; exact hs
    have hun' : listed.getD i false = false := by
      simp only [Array.getD_eq_getD_getElem?, Array.getElem?_eq_getElem hs', Option.getD_some] at hun ⊢
      exact hun
    have hL : (fun k => (listed.setIfInBounds i true).getD k false) = fun k => if k = i then true else listed.getD k false := by
      funext k
      by_cases hki : k = i
      · subst hki; simp [hs']
      · rw [if_neg hki, getD_set_ne false (Ne.symm hki)]
    have next : ∀ (b' : Act) (w' : World), Inv (fun k => if k = i then true else listed.getD k false) b' w' → wpAnyIn F n P .any ops Q fuel (listed.setIfInBounds i true) b' w' := fun b' w' hinv => by
      refine ih _ _ _ ?_ (by simp [hlen]) (fun k ok hok hl e he hb => ?_) (by rw [hL]; exact hinv)
      · have := leftOver_set (ops := ops) (listed := listed) hs hun' hlen
        omega
      · by_cases hki : k = i
        · subst hki
          rw [ho] at hok; cases hok
          exact getD_set_true (hall e he hb)
        · have hl' : listed.getD k false = true := by
            have hl2 : (listed.setIfInBounds i true).getD k false = true := hl
            rwa [getD_set_ne false (Ne.symm hki)] at hl2
          exact getD_set_true (hcl k ok hok hl' e he hb)
    have hst := hstep _ b w i o ho hun' hcl (fun e he hb => hall e he hb) h
    unfold wpOpIn
    simp only [ho]
    simp only [wpListIn] at hst
    by_cases hwt : Region.wanted o (yielded ops b.tmps) = true
    · rw [if_pos hwt] at hst ⊢
      refine oper_exits (fun b' w' h' => next b' w' h') (fun e b' w' he h' => ?_) hst
      cases e <;> first | exact absurd rfl he | exact h'
    · rw [if_neg hwt] at hst ⊢
      exact ⟨hst.1, next _ _ hst.2⟩

/-- A REGION THAT DRAWS, INSIDE A FENCE, BY AN INVARIANT: L k: operation k has come up. -/
theorem wpIn_region_inv {id : Nat} {Q : Exit → Act → World → Prop} {a : Act} {w : World} {l : List Oper} (Inv : (Nat → Bool) → Act → World → Prop)
    (hm : P.follows .mixedOrders = true) (hE : okBack l.toArray = true) (h0 : Inv (fun _ => false) a w.drew)
    (hstep : ∀ (L : Nat → Bool) (b : Act) (w : World) (i : Nat) (o : Oper), l[i]? = some o → L i = false → Closed l.toArray L → (∀ e ∈ o.after, Region.binds .any e = true → L e.on = true) → Inv L b w →
      wpListIn F n P l.toArray (fun e b' w' => match e with | .normal => Inv (fun k => if k = i then true else L k) b' w' | e => Q e b' w') [o] b w)
    (hend : ∀ b w', Inv (fun k => decide (k < l.length)) b w' → Q .normal b w') : (Code.region id l.toArray true).wpIn F n P Q a w := by
  refine wpIn_region_any hm ?_
  refine invIn_all (Inv := Inv) hE (fun L b w i o ho => hstep L b w i o (by simpa using ho)) (fun b w' h => hend b w' (by simpa using h)) _ _ _ _ ?_ (by simp) ?_ ?_
  · exact Nat.le_trans List.countP_le_length (by simp)
  · intro k ok _ hl
    exfalso
    simp only [Array.getD_eq_getD_getElem?, Array.getElem?_replicate] at hl
    split at hl <;> simp at hl
  · have : (fun k => (Array.replicate l.toArray.size false).getD k false) = fun _ => false := by
      funext k
      simp only [Array.getD_eq_getD_getElem?, Array.getElem?_replicate]
      split <;> rfl
    rw [this]
    exact h0
end
end Go.Proofs.YtbinmgpfkjmijaaGreatDoor
