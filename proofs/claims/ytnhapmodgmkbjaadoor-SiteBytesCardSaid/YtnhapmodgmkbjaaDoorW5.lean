/- Contracts of ReadFixed and ReadNumber. -/
import Derived.Test.YtnhapmodgmkbjaaDoorW4
namespace Go.Proofs.YtnhapmodgmkbjaaDoor
open Go.RowKit

def rfE (l : List UInt8) (x : Int) : Int := if isW x then (if l.length < x.toNat then 110 else 0) else 2
def rfN (l : List UInt8) (x : Int) : Nat := if rfE l x = 0 then unB (l.take x.toNat) else 0

/-- The contract of raw.value at whatever bytes. -/
theorem value_bytes (n : Nat) (v : Value) (l : List UInt8) (hl : l.length ≤ 8) (h0 : 0 < l.length) (w : World) (hv : Bytes n w v l) :
    Calls Tryd.prog 78 #[v] w fun e w' => e = .returned (.int .u64 (unB l)) ∧ w = w' := by
  obtain ⟨ao, cap, rfl, h1, h2, h3⟩ := hv
  obtain ⟨b, off, rfl, _, hc⟩ := h3 (List.length_pos_iff.1 h0)
  exact value_any b off cap l hl w hc

def ReadPost (n br : Nat) (v : Value) (wd : Int) (val : Nat) (err : Int) (m : Nat → Prop) (w : World) (e : Ending) (w' : World) : Prop :=
  e = .returned (.tuple #[.int .u64 val, .int .i64 err]) ∧ (∃ i, Rd w' br v i wd ∧ m i) ∧ Below n w w'

set_option maxRecDepth 100000 in
set_option maxHeartbeats 2000000 in
theorem fixedM_any (n br : Nat) (v : Value) (l : List UInt8) (x : Int) (w : World) (hn : n ≤ br) (hv : Bytes n w v l) (hr : Rd w br v 0 x) (hw : Widths w) (_h1n : 1 ≤ n) :
    Calls Tryd.prog 62 #[.pointer (some ⟨br, 0, none⟩)] w (ReadPost n br v x (rfN l x) (rfE l x) (fun i => i ≤ l.length) w) := by
  have HW := Lib.hid hw; clear hw
  have c2 := hr.c2
  have HR := Lib.hid hr; clear hr
  have HV := Lib.hid hv; clear hv
  cases h : isW x with
  | false =>
    have e1 : rfE l x = 2 := by simp [rfE, h]
    have e2 : rfN l x = 0 := by simp [rfN, e1]
    rw [e1, e2]; clear e1 e2
    have H := Lib.hid h; clear h
    go_enter Tryd.func62, Tryd.ntmps62
    go_wp2
    refine wp_scope_fwd 0 rfl ?_
    go_wp2_with (go_at_call 45; refine (isWidth_any _ _ HW.out).mono ?_; rintro e w' ⟨rfl, rfl⟩; rw [H.out])
    go_step3
    refine ⟨rfl, ?_⟩
    go_wp2
    rw [Exit.noGoto_ret]
    go_ret2
    exact ⟨rfl, ⟨0, HR.out, by omega⟩, Below.refl _ _⟩
  | true =>
    obtain ⟨k, rfl, hk⟩ := isW_nat h
    have hk0 : 0 < k := by
      rcases Nat.eq_zero_or_pos k with rfl | h0
      · simp [isW] at h
      · exact h0
    by_cases hl : l.length < k
    · have e1 : rfE l k = 110 := by simp [rfE, h, hl]
      have e2 : rfN l k = 0 := by simp [rfN, e1]
      rw [e1, e2]; clear e1 e2
      have H := Lib.hid h; clear h
      have HT := Lib.hid (take_no n br v l 0 k k w HV.out HR.out (by omega) (by omega))
      go_enter Tryd.func62, Tryd.ntmps62
      go_wp2
      refine wp_scope_fwd 0 rfl ?_
      go_wp2_with (first | (go_at_call 45; refine (isWidth_any _ _ HW.out).mono ?_; rintro e w' ⟨rfl, rfl⟩; rw [H.out]) | (go_at_call 77; refine HT.out.mono ?_; rintro e w' ⟨rfl, q, rfl⟩))
      go_step3
      refine ⟨rfl, ?_⟩
      go_wp2
      rw [Exit.noGoto_ret]
      go_ret2
      exact ⟨rfl, ⟨0, ⟨HR.out.c0, HR.out.c1, HR.out.c2, HR.out.f1⟩, by omega⟩, ⟨rfl, rfl, rfl, Nat.le_refl _, fun _ _ => rfl⟩⟩
    · have e1 : rfE l k = 0 := by simp [rfE, h, hl]
      have e2 : rfN l k = unB (l.take k) := by simp [rfN, e1]
      rw [e1, e2]; clear e1 e2
      have H := Lib.hid h; clear h
      have HT := Lib.hid (take_yes n br v l 0 k k w hn HV.out HR.out (by omega))
      go_enter Tryd.func62, Tryd.ntmps62
      go_wp2
      refine wp_scope_fwd 0 rfl ?_
      go_wp2_with (first
        | (go_at_call 45; refine (isWidth_any _ _ HW.out).mono ?_; rintro e w' ⟨rfl, rfl⟩; rw [H.out])
        | (go_at_call 77; refine HT.out.mono ?_; rintro e w' ⟨v', rfl, hb1, hr1, hl1⟩; have HB1 := Lib.hid hb1; clear hb1; have HR1 := Lib.hid hr1; clear hr1; have HL1 := Lib.hid hl1; clear hl1)
        | (go_at_call 78; refine (value_bytes n _ _ (by simp; omega) (by simp; omega) _ HB1.out).mono ?_; rintro e w' ⟨rfl, rfl⟩))
      simp only [Exit.jump]
      go_ret2
      exact ⟨by simp, ⟨_, HR1.out, by omega⟩, HL1.out⟩

/-- What a read hands back: the thing and how many bytes, or the error alone. -/
def ReadU (val : Nat) (err : Int) (m : Nat → Prop) (w : World) (e : Ending) (w' : World) : Prop :=
  ∃ i, m i ∧ e = .returned (.tuple #[.int .u64 (if err = 0 then val else 0 : Nat), .int .i64 (if err = 0 then i else 0 : Nat), .int .i64 err]) ∧ Adds w w'

/-- The world in which the reader lies in a new block. -/
theorem rd_new (v : Value) (wd : Int) (w : World) : Rd (w.alloc (.cells #[v, .int .i64 0, .int .i64 wd] 115)) w.heap.size v 0 wd :=
  ⟨World.cell?_alloc_at _ _ _ _ rfl, World.cell?_alloc_at _ _ _ _ rfl, World.cell?_alloc_at _ _ _ _ rfl, by go_simp⟩

set_option maxRecDepth 100000 in
set_option maxHeartbeats 2000000 in
theorem readU_fixed (v : Value) (wd : Int) (val : Nat) (err : Int) (m : Nat → Prop) (w : World)
    (hg : Calls Tryd.prog 62 #[.pointer (some ⟨w.heap.size, 0, none⟩)] (w.alloc (.cells #[v, .int .i64 0, .int .i64 wd] 115))
      (ReadPost w.heap.size w.heap.size v wd val err m (w.alloc (.cells #[v, .int .i64 0, .int .i64 wd] 115)))) :
    Calls Tryd.prog 61 #[.agg #[v, .int .i64 0, .int .i64 wd], .func (.func 62) #[] #[]] w (ReadU val err m w) := by
  have HG := Lib.hid hg; clear hg
  have ha : Below w.heap.size w (w.alloc (.cells #[v, .int .i64 0, .int .i64 wd] 115)) := (Below.refl _ _).alloc (Nat.le_refl _) _
  have HA := Lib.hid ha; clear ha
  by_cases he : err = 0
  · subst he
    go_enter Tryd.func61, Tryd.ntmps61
    go_wp2_with (go_at_call 62; refine HG.out.mono ?_; rintro e w1 ⟨rfl, ⟨i, hr, hm⟩, hb⟩; have c1 := hr.c1; have HM := Lib.hid hm; clear hm hr; have HB := Lib.hid hb; clear hb)
    go_quiet (fail)
    go_wp2
    go_ret3
    exact ⟨i, HM.out, rfl, Below.trans (Below.trans HA.out HB.out) ⟨rfl, rfl, rfl, Nat.le_refl _, fun _ _ => rfl⟩⟩
  · have hd : (err == 0) = false := by simpa using he
    go_enter Tryd.func61, Tryd.ntmps61
    go_wp2_with (go_at_call 62; refine HG.out.mono ?_; rintro e w1 ⟨rfl, ⟨i, hr, hm⟩, hb⟩; have HM := Lib.hid hm; clear hm hr; have HB := Lib.hid hb; clear hb)
    go_ret3
    exact ⟨i, HM.out, by rw [if_neg he, if_neg he]; rfl, Below.trans HA.out HB.out⟩
end Go.Proofs.YtnhapmodgmkbjaaDoor
