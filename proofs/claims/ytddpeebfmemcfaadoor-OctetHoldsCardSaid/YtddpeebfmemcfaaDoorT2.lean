/- Contracts of the document's Text, and of the reader's texts. -/
import Derived.Test.YtddpeebfmemcfaaDoorT1
import Derived.Test.YtddpeebfmemcfaaDoorW6
namespace Go.Proofs.YtddpeebfmemcfaaDoor
open Go.RowKit

set_option maxRecDepth 100000 in
set_option maxHeartbeats 2000000 in
theorem refText_any (s : ByteArray) (hs : s.size ≤ 65536) (w : World) :
    Calls Tryd.prog 21 #[.string s] w (GivesB (txtB s.data.toList) (fun v => v) w) := by
  have hsz := numB_length10 (size_u64 s hs)
  obtain ⟨i0, hi, hz0, hz1, hz2⟩ := info_parts info8
  go_enter Tryd.func21, Tryd.ntmps21
  go_wp2_with fail
  refine (refNumber_any s.size (size_u64 s hs) _).mono ?_
  rintro e w1 ⟨v1, rfl, o1, a1⟩
  have O1 := Lib.hid o1; clear o1
  have A1 := Lib.hid a1; clear a1
  have hle := A1.out.size
  go_wp2_with (at_builtin; refine Lib.wpList_append_own_string _ rfl (.tmp 6) (.tmp 7) 23 9 rfl w.heap.size 5 i0 Tryd.underlying23 Tryd.underlying9 hi hz0 hz1 hz2 v1 (numB s.size).length ((numB s.size).map byteV) rfl (by exact O1.out) s rfl (by unfold maxLen; omega) (by omega) hle ?_; intro v2 w2 o2 b2 _; have O2 := Lib.hid o2; clear o2; have B2 := Lib.hid b2; clear b2)
  go_ret
  refine ⟨v2, rfl, ?_, ?_⟩
  · have h := O2.out
    unfold OwnB txtB
    rw [str_len, List.length_append, str_len, List.map_append]
    exact h
  · exact Below.grown A1.out B2.out hle fun k hk => (World.ownsRow.lt O1.out k hk).1

/-- What the reader's 'text' leaves. -/
def TxtPost (n br : Nat) (v : Value) (wd : Int) (l : List UInt8) (w : World) (e : Ending) (w' : World) : Prop :=
  e = .returned (.tuple #[.string (str (rdT l).1), .int .i64 (rdT l).2.2]) ∧ (∃ i, Rd w' br v i wd ∧ ((rdT l).2.2 = 0 → i = (rdT l).2.1)) ∧ Below n w w'

theorem rdT_err {l : List UInt8} (h : (rdN l).2.2 ≠ 0) : rdT l = ([], 0, (rdN l).2.2) := by unfold rdT; rw [if_pos h]
theorem rdT_ends {l : List UInt8} (h : (rdN l).2.2 = 0) (h2 : l.length - (rdN l).2.1 < (rdN l).1) : rdT l = ([], 0, 110) := by unfold rdT; rw [if_neg (by simpa using h), if_pos h2]
theorem rdT_ok {l : List UInt8} (h : (rdN l).2.2 = 0) (h2 : ¬ l.length - (rdN l).2.1 < (rdN l).1) : rdT l = ((l.drop (rdN l).2.1).take (rdN l).1, (rdN l).2.1 + (rdN l).1, 0) := by unfold rdT; rw [if_neg (by simpa using h), if_neg h2]
theorem rdN_le {l : List UInt8} (h : (rdN l).2.2 = 0) : (rdN l).2.1 ≤ l.length := by
  rcases rdN_cases l with ⟨y, m, hr⟩ | hr | hr
  · rw [hr]; exact (rdN_back hr).1
  · rw [hr] at h; simp at h
  · rw [hr] at h; simp at h

set_option maxRecDepth 100000 in
set_option maxHeartbeats 4000000 in
theorem textM_any (n br : Nat) (v : Value) (l : List UInt8) (wd : Int) (w : World) (hn : n ≤ br) (hv : Bytes n w v l) (hr : Rd w br v 0 wd) :
    Calls Tryd.prog 32 #[.pointer (some ⟨br, 0, none⟩)] w (TxtPost n br v wd l w) := by
  have HN := Lib.hid (number_any n br v l wd w hn hv hr)
  have HV := Lib.hid hv; clear hv hr
  have e0 : str [] = ⟨#[]⟩ := rfl
  by_cases h0 : (rdN l).2.2 = 0
  · have hle := rdN_le h0
    by_cases h2 : l.length - (rdN l).2.1 < (rdN l).1
    · have HE := Lib.hid (rdT_ends h0 h2)
      obtain ⟨y, m, er, hr3⟩ : ∃ y m er, rdN l = (y, m, er) := ⟨_, _, _, rfl⟩
      rw [hr3] at h0 h2 hle
      simp only at h0 h2 hle
      subst h0
      have H2 := Lib.hid h2; clear h2
      have HR := Lib.hid hr3; clear hr3
      go_enter Tryd.func32, Tryd.ntmps32
      go_wp2_with fail
      refine HN.out.mono ?_
      rintro e w1 ⟨rfl, ⟨i, hr1, hi1, _⟩, hb1⟩
      rw [HR.out] at hi1 ⊢
      obtain rfl := hi1 rfl
      have HR1 := Lib.hid hr1; clear hr1
      have HB1 := Lib.hid hb1; clear hb1
      have HT := Lib.hid (take_no n br v l i y wd w1 (HV.out.below HB1.out) HR1.out hle (by have := H2.out; omega))
      have hnil := run_convert_bytes_nil (P := Tryd.prog)
      go_wp2_with (go_at_call 37; refine HT.out.mono ?_; rintro e w' ⟨rfl, q, rfl⟩)
      go_ret2
      refine ⟨by rw [HE.out]; rfl, ⟨i, ⟨HR1.out.c0, HR1.out.c1, HR1.out.c2, HR1.out.f1⟩, fun hz => ?_⟩, HB1.out.trans ⟨rfl, rfl, rfl, Nat.le_refl _, fun _ _ => rfl⟩⟩
      rw [HE.out] at hz; simp at hz
    · have HE := Lib.hid (rdT_ok h0 h2)
      obtain ⟨y, m, er, hr3⟩ : ∃ y m er, rdN l = (y, m, er) := ⟨_, _, _, rfl⟩
      rw [hr3] at h0 h2 hle HE
      simp only at h0 h2 hle HE
      subst h0
      have H2 := Lib.hid h2; clear h2
      have HR := Lib.hid hr3; clear hr3
      go_enter Tryd.func32, Tryd.ntmps32
      go_wp2_with fail
      refine HN.out.mono ?_
      rintro e w1 ⟨rfl, ⟨i, hr1, hi1, _⟩, hb1⟩
      rw [HR.out] at hi1 ⊢
      obtain rfl := hi1 rfl
      have HR1 := Lib.hid hr1; clear hr1
      have HB1 := Lib.hid hb1; clear hb1
      have HT := Lib.hid (take_yes n br v l i y wd w1 hn (HV.out.below HB1.out) HR1.out (by have := H2.out; omega))
      go_wp2_with (go_at_call 37; refine HT.out.mono ?_; rintro e w2 ⟨v2, rfl, hb2, hr2, hl2⟩; have hS := hb2.str (P := Tryd.prog) 60 9 5 Tryd.underlying60 Tryd.underlying5 Tryd.underlying9; have HB2 := Lib.hid hb2; clear hb2; have HR2 := Lib.hid hr2; clear hr2; have HL2 := Lib.hid hl2; clear hl2)
      go_ret2
      exact ⟨by rw [HE.out]; rfl, ⟨i + y, HR2.out, fun _ => by rw [HE.out]⟩, HB1.out.trans HL2.out⟩
  · have HE := Lib.hid (rdT_err h0)
    obtain ⟨er, her⟩ : ∃ er, (rdN l).2.2 = er := ⟨_, rfl⟩
    rw [her] at h0 HE
    have HER := Lib.hid her; clear her
    have hne1 : (er != 0) = true := by simpa using h0
    have hne2 : (er == 0) = false := by simpa using h0
    clear h0
    go_enter Tryd.func32, Tryd.ntmps32
    go_wp2_with fail
    refine HN.out.mono ?_
    rintro e w1 ⟨rfl, ⟨i, hr1, hi1, _⟩, hb1⟩
    rw [HER.out] at hi1 ⊢
    have HR1 := Lib.hid hr1; clear hr1
    have HB1 := Lib.hid hb1; clear hb1
    clear hi1
    go_wp2
    go_ret2
    refine ⟨by rw [HE.out]; rfl, ⟨i, HR1.out, fun hz => ?_⟩, HB1.out⟩
    rw [HE.out] at hz
    simp only at hz
    rw [hz] at hne1; simp at hne1
end Go.Proofs.YtddpeebfmemcfaaDoor
