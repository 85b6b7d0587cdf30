/- Contracts of ReadText, the program's and the document's. -/
import Derived.Test.YtddpeebfmemcfaaDoorT2
import Derived.Test.YtddpeebfmemcfaaDoorW9
namespace Go.Proofs.YtddpeebfmemcfaaDoor
open Go.RowKit

theorem str_nil : str [] = ByteArray.empty := rfl
/-- What a read of a text hands back. -/
def ReadS (s : List UInt8) (err : Int) (k : Nat) (w : World) (e : Ending) (w' : World) : Prop :=
  e = .returned (.tuple #[.string (str s), .int .i64 k, .int .i64 err]) ∧ Adds w w'

set_option maxRecDepth 100000 in
set_option maxHeartbeats 2000000 in
theorem readS_text (v : Value) (l : List UInt8) (w : World) (hv : Bytes w.heap.size w v l) :
    Calls Tryd.prog 31 #[.agg #[v, .int .i64 0, .int .i64 0], .func (.func 32) #[] #[]] w (ReadS (rdT l).1 (rdT l).2.2 (rdT l).2.1 w) := by
  have ha : Below w.heap.size w (w.alloc (.cells #[v, .int .i64 0, .int .i64 0] 62)) := (Below.refl _ _).alloc (Nat.le_refl _) _
  have hg := textM_any w.heap.size w.heap.size v l 0 _ (Nat.le_refl _) (hv.below ha) (rd_new v 0 w)
  have HA := Lib.hid ha; clear ha
  obtain ⟨ao, cap, rfl, _, _, h3⟩ := hv
  clear h3
  have hcases : (rdT l).2.2 = 0 ∨ ((rdT l).2.2 ≠ 0 ∧ (rdT l).1 = [] ∧ (rdT l).2.1 = 0) := by
    unfold rdT
    split
    · rename_i h; exact .inr ⟨h, rfl, rfl⟩
    · split
      · exact .inr ⟨by decide, rfl, rfl⟩
      · exact .inl rfl
  obtain ⟨s, m, er, hr⟩ : ∃ s m er, rdT l = (s, m, er) := ⟨_, _, _, rfl⟩
  rw [hr] at hcases ⊢
  have HG := Lib.hid (hg.mono (R' := fun e w' => e = .returned (.tuple #[.string (str s), .int .i64 er]) ∧ (∃ i, Rd w' w.heap.size (.slice ao l.length cap) i 0 ∧ (er = 0 → i = m)) ∧ Below w.heap.size (w.alloc (.cells #[.slice ao l.length cap, .int .i64 0, .int .i64 0] 62)) w')
    fun e w' ⟨he, hx, hb⟩ => by rw [hr] at he hx; exact ⟨he, hx, hb⟩)
  clear hr hg
  simp only at hcases ⊢
  rcases hcases with rfl | ⟨h0, rfl, rfl⟩
  · go_enter Tryd.func31, Tryd.ntmps31
    go_wp2_with (go_at_call 32; refine HG.out.mono ?_; rintro e w1 ⟨rfl, ⟨i, hr, hm⟩, hb⟩; have c1 := hr.c1; have HM := Lib.hid (hm rfl); clear hm hr; have HB := Lib.hid hb; clear hb)
    go_quiet (fail)
    go_wp2
    go_ret3
    exact ⟨by rw [HM.out]; rfl, Below.trans (Below.trans HA.out HB.out) ⟨rfl, rfl, rfl, Nat.le_refl _, fun _ _ => rfl⟩⟩
  · have hne1 : (er != 0) = true := by simpa using h0
    have hne2 : (er == 0) = false := by simpa using h0
    clear h0
    go_enter Tryd.func31, Tryd.ntmps31
    go_wp2_with (go_at_call 32; refine HG.out.mono ?_; rintro e w1 ⟨rfl, ⟨i, hr, hm⟩, hb⟩; clear hm hr; have HB := Lib.hid hb; clear hb)
    go_ret3
    exact ⟨rfl, Below.trans HA.out HB.out⟩

def RtPost (l : List UInt8) (w : World) (e : Ending) (w' : World) : Prop :=
  e = .returned (.tuple #[.string (str (rdT l).1), .int .i64 ((rdT l).2.1 : Nat), .int .i64 (rdT l).2.2]) ∧ Adds w w'

set_option maxHeartbeats 1000000 in
theorem readText_any {n : Nat} (v : Value) (l : List UInt8) (w : World) (hv : Bytes n w v l) :
    Calls Tryd.prog 19 #[v] w (RtPost l w) := by
  have HC := Lib.hid (readS_text v l w hv.here)
  obtain ⟨ao, cap, rfl, _, _, h3⟩ := hv
  clear h3
  go_enter Tryd.func19, Tryd.ntmps19
  go_wp2_with (go_at_call 31; refine HC.out.mono ?_; rintro e w1 ⟨rfl, ha⟩; have HA := Lib.hid ha; clear ha)
  go_ret3
  exact ⟨rfl, HA.out⟩

theorem slice_mid (ao : Option Addr) (len cap i k : Nat) (h : i ≤ k) (hk : k ≤ cap) (w : World) :
    (Instr.slice 23 (.slice ao len cap) (some (.int .i64 (i : Int))) (some (.int .i64 (k : Int))) none).run Tryd.prog w = .ok (.slice (if cap = i then ao else ao.map (·.add (i * 1))) (k - i) (cap - i)) w := by
  have h := run_slice_lh (P := Tryd.prog) w 23 ao len cap (by kernel_rfl) .i64 .i64 i k (by omega) (by omega) (by omega)
  rw [h]
  have hs : (sizeOf (Tryd.prog.elem 23)).run Tryd.prog w = .ok 1 w := by
    obtain ⟨i0, hi, hz0, hz1, hz2⟩ := info_parts info8
    have e : Tryd.prog.elem 23 = 5 := by kernel_rfl
    rw [e]
    simp [sizeOf, typeInfo, hi, hz1]
  rw [hs]
  simp only [Result.andThen, sliced, Int.toNat_natCast]

set_option maxRecDepth 100000 in
set_option maxHeartbeats 2000000 in
theorem refReadText_any {n : Nat} (v : Value) (l : List UInt8) (w : World) (hv : Bytes n w v l) :
    Calls Tryd.prog 20 #[v] w (RtPost l w) := by
  have HC := Lib.hid (refReadNumber_any v l w hv)
  obtain ⟨ao, cap, rfl, h1, h2, h3⟩ := id hv
  clear h3
  unfold maxLen at h2
  have HV := Lib.hid hv; clear hv
  by_cases h0 : (rdN l).2.2 = 0
  · have hle := rdN_le h0
    by_cases hlt : l.length - (rdN l).2.1 < (rdN l).1
    · have HE := Lib.hid (rdT_ends h0 hlt)
      obtain ⟨y, m, er, hr3⟩ : ∃ y m er, rdN l = (y, m, er) := ⟨_, _, _, rfl⟩
      rw [hr3] at h0 hlt hle
      simp only at h0 hlt hle
      subst h0
      have HR := Lib.hid hr3; clear hr3
      go_enter Tryd.func20, Tryd.ntmps20
      go_wp2_with fail
      refine HC.out.mono ?_
      rintro e w1 ⟨rfl, rfl⟩
      rw [HR.out]
      go_wp2
      go_ret3
      exact ⟨by rw [HE.out]; rfl, Adds.refl _⟩
    · have HE := Lib.hid (rdT_ok h0 hlt)
      obtain ⟨y, m, er, hr3⟩ : ∃ y m er, rdN l = (y, m, er) := ⟨_, _, _, rfl⟩
      rw [hr3] at h0 hlt hle HE
      simp only at h0 hlt hle HE
      subst h0
      have HR := Lib.hid hr3; clear hr3
      have hB := HV.out.sliced m (m + y) cap (by omega) (by omega) (by omega) (Nat.le_refl _)
      have hsl := slice_mid ao l.length cap m (m + y) (by omega) (by omega) w
      obtain ⟨vp, hvp⟩ : ∃ vp, Value.slice (if cap = m then ao else ao.map (·.add (m * 1))) (m + y - m) (cap - m) = vp := ⟨_, rfl⟩
      rw [hvp] at hsl hB
      have hS := hB.here.str (P := Tryd.prog) 23 9 5 Tryd.underlying23 Tryd.underlying5 Tryd.underlying9
      rw [show m + y - m = y by omega] at hS
      rw [show ((m + y : Nat) : Int) = (m : Int) + y by omega] at hsl
      clear hB hvp
      go_enter Tryd.func20, Tryd.ntmps20
      go_wp2_with fail
      refine HC.out.mono ?_
      rintro e w1 ⟨rfl, rfl⟩
      rw [HR.out]
      go_wp2
      go_ret3
      exact ⟨by rw [HE.out]; rfl, Adds.refl _⟩
  · have HE := Lib.hid (rdT_err h0)
    obtain ⟨y, m, er, hr3⟩ : ∃ y m er, rdN l = (y, m, er) := ⟨_, _, _, rfl⟩
    rw [hr3] at h0 HE
    have HR := Lib.hid hr3; clear hr3
    simp only at h0 HE
    have hne1 : (er != 0) = true := by simpa using h0
    have hne2 : (er == 0) = false := by simpa using h0
    clear h0
    go_enter Tryd.func20, Tryd.ntmps20
    go_wp2_with fail
    refine HC.out.mono ?_
    rintro e w1 ⟨rfl, rfl⟩
    rw [HR.out]
    go_wp2
    go_ret3
    exact ⟨by rw [HE.out]; rfl, Adds.refl _⟩
end Go.Proofs.YtddpeebfmemcfaaDoor
