/- Contracts of package epoch: Parse. -/
import Derived.Test.YtlbloehhmpnkgaaDoorKRead
import Derived.Test.YtlbloehhmpnkgaaDoorKF3
namespace Go.Proofs.YtlbloehhmpnkgaaDoor
open Go Go.RowKit

theorem eB (w : World) (x y : Int) : Adds w (w.alloc (.cells #[.int .u64 x, .int .u64 y] 92)) := adds_b w _

set_option maxHeartbeats 1000000 in
theorem parse_A (s : ByteArray) (w : World) (hR : Calls Tryd.prog 61 #[.string s] w fun e w' => e = .returned (.tuple #[.agg #[.int .u64 0, .int .u64 0], .bool false]) ∧ Below w.heap.size w w') :
    Calls Tryd.prog 33 #[.string s] w fun e w' => e = .returned (.tuple #[.int .u64 0, .int .i64 131]) ∧ Below w.heap.size w w' := by
  have HR := Lib.hid hR; clear hR
  go_enter Tryd.func33, Tryd.ntmps33
  go_wp2
  refine wp_scope_fwd 0 rfl ?_
  go_wp2_with (go_at_call 61; refine HR.out.mono ?_; rintro e w1 ⟨rfl, b1⟩; have A1 := Lib.hid b1; clear b1)
  go_step3
  refine ⟨rfl, ?_⟩
  go_wp2
  rw [Exit.noGoto_ret]
  go_ret2
  exact ⟨rfl, A1.out.trans ((adds_b _ _).mono A1.out.size)⟩

set_option maxHeartbeats 1000000 in
theorem parse_B (s : ByteArray) (i c : Nat) (w : World) (hR : Calls Tryd.prog 61 #[.string s] w fun e w' => e = .returned (.tuple #[.agg #[.int .u64 i, .int .u64 c], .bool true]) ∧ Below w.heap.size w w')
    (hm : mayB (i : Int) (c : Int) = false) :
    Calls Tryd.prog 33 #[.string s] w fun e w' => e = .returned (.tuple #[.int .u64 0, .int .i64 131]) ∧ Below w.heap.size w w' := by
  have HR := Lib.hid hR; clear hR
  have HM := Lib.hid (may_any i c false hm)
  clear hm
  go_enter Tryd.func33, Tryd.ntmps33
  go_wp2
  refine wp_scope_fwd 0 rfl ?_
  go_wp2_with (first
    | (go_at_call 61; refine HR.out.mono ?_; rintro e w1 ⟨rfl, b1⟩; have A1 := Lib.hid b1; clear b1)
    | (go_at_call 52; refine (HM.out _).mono ?_; rintro e w2 ⟨rfl, b2⟩; have A2 := Lib.hid b2; clear b2))
  go_step3
  refine ⟨rfl, ?_⟩
  go_wp2
  rw [Exit.noGoto_ret]
  go_ret2
  exact ⟨rfl, A1.out.trans (((adds_b _ _).trans (A2.out.mono (by simp))).mono A1.out.size)⟩

theorem str_ne {l : List UInt8} {s : ByteArray} (h : l ≠ s.data.toList) : ((str l).toList == s.toList) = false := by
  rw [Lib.toList_data, Lib.toList_data, str_data]
  exact beq_eq_false_iff_ne.2 h
theorem str_eq {l : List UInt8} {s : ByteArray} (h : l = s.data.toList) : ((str l).toList == s.toList) = true := by
  rw [Lib.toList_data, Lib.toList_data, str_data, h]
  exact beq_self_eq_true _
set_option maxHeartbeats 1000000 in
theorem parse_C (s : ByteArray) (i c : Nat) (hi : i < 65536) (hc : c < 281474976710656) (w : World) (hv : EpVars w) (hR : Calls Tryd.prog 61 #[.string s] w fun e w' => e = .returned (.tuple #[.agg #[.int .u64 i, .int .u64 c], .bool true]) ∧ Below w.heap.size w w')
    (hne : txtE (epN i c) ≠ s.data.toList) :
    Calls Tryd.prog 33 #[.string s] w fun e w' => e = .returned (.tuple #[.int .u64 0, .int .i64 131]) ∧ Below w.heap.size w w' := by
  have HR := Lib.hid hR; clear hR
  have HM := Lib.hid (may_any i c true (may_yes hi hc))
  have HE := Lib.hid (epoch_any i c hi hc)
  have HT := Lib.hid (fun W (h : Below w.heap.size w W) => text_any (epN i c) (epN_lt hi hc) W (hv.below h))
  have hne2 := str_ne hne
  obtain ⟨y, hy⟩ : ∃ y : Int, y = ((epN i c : Nat) : Int) := ⟨_, rfl⟩
  obtain ⟨t, ht⟩ : ∃ t, t = str (txtE (epN i c)) := ⟨_, rfl⟩
  rw [← hy] at HE
  rw [← hy, ← ht] at HT
  rw [← ht] at hne2
  clear hne hc hi hy ht hv
  go_enter Tryd.func33, Tryd.ntmps33
  go_wp2
  refine wp_scope_fwd 0 rfl ?_
  go_wp2_with (first
    | (go_at_call 61; refine HR.out.mono ?_; rintro e w1 ⟨rfl, b1⟩; have A1 := Lib.hid b1; clear b1)
    | (go_at_call 52; refine (HM.out _).mono ?_; rintro e w2 ⟨rfl, b2⟩; have A2 := Lib.hid (A1.out.trans (((adds_b _ _).trans (b2.mono (by simp))).mono A1.out.size)); obtain ⟨hc2, hf2⟩ := bcell b2; clear b2)
    | (go_at_call 53; refine (HE.out _).mono ?_; rintro e w3 ⟨rfl, b3⟩; have A3 := Lib.hid (A2.out.trans (b3.mono A2.out.size)); clear b3)
    | (go_at_call 32; refine (HT.out _ A3.out).mono ?_; rintro e w4 ⟨rfl, b4⟩; have A4 := Lib.hid (A3.out.trans (b4.mono A3.out.size)); clear b4))
  go_step3
  refine ⟨rfl, ?_⟩
  go_wp2
  rw [Exit.noGoto_ret]
  go_ret2
  exact ⟨rfl, A4.out⟩

set_option maxHeartbeats 1000000 in
theorem parse_D (s : ByteArray) (i c : Nat) (hi : i < 65536) (hc : c < 281474976710656) (w : World) (hv : EpVars w) (hR : Calls Tryd.prog 61 #[.string s] w fun e w' => e = .returned (.tuple #[.agg #[.int .u64 i, .int .u64 c], .bool true]) ∧ Below w.heap.size w w')
    (hne : txtE (epN i c) = s.data.toList) :
    Calls Tryd.prog 33 #[.string s] w fun e w' => e = .returned (.tuple #[.int .u64 (epN i c : Nat), .int .i64 0]) ∧ Below w.heap.size w w' := by
  have HR := Lib.hid hR; clear hR
  have HM := Lib.hid (may_any i c true (may_yes hi hc))
  have HE := Lib.hid (epoch_any i c hi hc)
  have HT := Lib.hid (fun W (h : Below w.heap.size w W) => text_any (epN i c) (epN_lt hi hc) W (hv.below h))
  have hne2 := str_eq hne
  obtain ⟨y, hy⟩ : ∃ y : Int, y = ((epN i c : Nat) : Int) := ⟨_, rfl⟩
  obtain ⟨t, ht⟩ : ∃ t, t = str (txtE (epN i c)) := ⟨_, rfl⟩
  rw [← hy] at HE
  rw [← hy, ← ht] at HT
  rw [← ht] at hne2
  rw [← hy]
  clear hne hc hi hy ht hv
  go_enter Tryd.func33, Tryd.ntmps33
  go_wp2
  refine wp_scope_fwd 0 rfl ?_
  go_wp2_with (first
    | (go_at_call 61; refine HR.out.mono ?_; rintro e w1 ⟨rfl, b1⟩; have A1 := Lib.hid b1; clear b1)
    | (go_at_call 52; refine (HM.out _).mono ?_; rintro e w2 ⟨rfl, b2⟩; have A2 := Lib.hid (A1.out.trans (((adds_b _ _).trans (b2.mono (by simp))).mono A1.out.size)); have T2 := Lib.hid (TwoC.adds (b := w1.heap.size) (x := .int .u64 i) (y := .int .u64 c) ⟨by simp, by simp, by simp, by simp⟩ b2); have c0 := T2.out.c0; have c1 := T2.out.c1; clear b2)
    | (go_at_call 32; refine (HT.out _ A3.out).mono ?_; rintro e w4 ⟨rfl, b4⟩; have A4 := Lib.hid (A3.out.trans (b4.mono A3.out.size)); have T4 := Lib.hid (T3.out.adds b4); have c0 := T4.out.c0; have c1 := T4.out.c1; clear b4)
    | (go_at_call 53; refine (HE.out _).mono ?_; rintro e w3 ⟨rfl, b3⟩; first | (have A5 := Lib.hid (A4.out.trans (b3.mono A4.out.size)); clear b3) | (have A3 := Lib.hid (A2.out.trans (b3.mono A2.out.size)); have T3 := Lib.hid (T2.out.adds b3); clear b3)))
  simp only [Exit.jump]
  go_ret2
  exact ⟨rfl, A5.out⟩

theorem parse_yes (s : ByteArray) (x : Nat) (hx : x < 18446744073709551616) (h : txtE x = s.data.toList) (w : World) (hv : EpVars w) :
    Calls Tryd.prog 33 #[.string s] w fun e w' => e = .returned (.tuple #[.int .u64 x, .int .i64 0]) ∧ Below w.heap.size w w' := by
  have hs : s.size < 4294967281 := by rw [Lib.size_eq, ← h]; have := txt_le x hx; omega
  have hR := read_yes s _ _ (eI x) (eC x) (by rw [← h]; exact cut_txt x) hs w hv (parse_dec _ (by have := eI_lt hx; omega)) (parse_dec _ (by have := eC_lt x; omega))
  have := parse_D s (eI x) (eC x) (eI_lt hx) (eC_lt x) w hv hR (by rw [epN_eIC]; exact h)
  rw [epN_eIC] at this
  exact this
theorem parse_none (s : ByteArray) (hs : s.size < 4294967281) (h : ∀ x, x < 18446744073709551616 → txtE x ≠ s.data.toList) (w : World) (hv : EpVars w) :
    Calls Tryd.prog 33 #[.string s] w fun e w' => e = .returned (.tuple #[.int .u64 0, .int .i64 131]) ∧ Below w.heap.size w w' := by
  obtain ⟨a, r, hc⟩ : ∃ a r, Lib.cut s.data.toList [64] = (a, r) := ⟨_, _, rfl⟩
  obtain ⟨b, f⟩ := r
  cases f with
  | false => exact parse_A s w (read_no s a b hc hs w hv)
  | true =>
    by_cases h1 : ∃ i, Lib.parseUintB 64 a = .ok i
    · obtain ⟨i, h1⟩ := h1
      by_cases h2 : ∃ c, Lib.parseUintB 64 b = .ok c
      · obtain ⟨c, h2⟩ := h2
        have hR := read_yes s a b i c hc hs w hv h1 h2
        by_cases hm : i < 65536 ∧ c < 281474976710656
        · exact parse_C s i c hm.1 hm.2 w hv hR (h _ (epN_lt hm.1 hm.2))
        · exact parse_B s i c w hR (may_no (by omega))
      · exact parse_A s w (read_bad2 s a b i hc hs w hv h1 fun u hu => h2 ⟨u, hu⟩)
    · exact parse_A s w (read_bad1 s a b hc hs w hv fun u hu => h1 ⟨u, hu⟩)
end Go.Proofs.YtlbloehhmpnkgaaDoor
