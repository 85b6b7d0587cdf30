/- The law EpochHolds, walked. -/
import Derived.Test.YtlbloehhmpnkgaaDoorKL2
namespace Go.Proofs.YtlbloehhmpnkgaaDoor
open Go Go.RowKit

/-- How two epochs stand: their numbers, and their clocks. -/
theorem stand4 (x y : Nat) : (eI x = eI y ∧ x < y ∧ eC x < eC y) ∨ (eI x = eI y ∧ x = y ∧ eC x = eC y) ∨ (eI x = eI y ∧ y < x ∧ eC y < eC x) ∨ (eI x ≠ eI y ∧ x ≠ y) := by
  have h1 : x = eI x * 281474976710656 + eC x := (epN_eIC x).symm
  have h2 : y = eI y * 281474976710656 + eC y := (epN_eIC y).symm
  by_cases h : eI x = eI y
  · rw [h] at h1
    rcases Nat.lt_trichotomy (eC x) (eC y) with h3 | h3 | h3
    · exact .inl ⟨h, by omega, h3⟩
    · exact .inr (.inl ⟨h, by omega, h3⟩)
    · exact .inr (.inr (.inl ⟨h, by omega, h3⟩))
  · refine .inr (.inr (.inr ⟨h, fun e => h (by rw [e])⟩))

set_option maxHeartbeats 4000000 in
theorem holds_yes (x y a b c d v u g : Int) (w : World) (HW : Hid (∀ W, Below w.heap.size w W → Calls Tryd.prog 29 #[] W (TrueAdds W)))
    (HE : Hid (∀ W, Calls Tryd.prog 25 #[.int .u64 x] W fun e w' => e = .returned (.tuple #[.int .i64 a, .int .u64 c]) ∧ Below W.heap.size W w'))
    (HF : Hid (∀ W, Calls Tryd.prog 25 #[.int .u64 y] W fun e w' => e = .returned (.tuple #[.int .i64 b, .int .u64 d]) ∧ Below W.heap.size W w'))
    (hst : (a = b ∧ x < y ∧ c < d) ∨ (a = b ∧ x = y ∧ c = d) ∨ (a = b ∧ y < x ∧ d < c) ∨ (a ≠ b ∧ x ≠ y))
    (HN : Hid (∀ W, Calls Tryd.prog 30 #[.int .u64 x, .int .u64 v] W fun e w' => e = .returned (.tuple #[.int .u64 u, .int .i64 0]) ∧ Below W.heap.size W w'))
    (HP : Hid (∀ W, Calls Tryd.prog 25 #[.int .u64 u] W fun e w' => e = .returned (.tuple #[.int .i64 a, .int .u64 g]) ∧ Below W.heap.size W w'))
    (k1 : IntKind.u64.wrap (c + 1) = g) (k2 : g ≤ v) (k3 : x < u) :
    Calls Tryd.prog 9 #[.int .u64 x, .int .u64 y, .int .u64 v] w (TrueAdds w) := by
  rcases hst with ⟨rfl, p1, p2⟩ | ⟨rfl, rfl, rfl⟩ | ⟨rfl, p1, p2⟩ | ⟨p1, p2⟩
  · have q1 : (x == y) = false := by simp; omega
    have q2 : (c == d) = false := by simp; omega
    go_enter Tryd.func9, Tryd.ntmps9
    go_wp2_with fail
    refine (HE.out _).mono ?_
    rintro e w1 ⟨rfl, b1⟩
    have A1 := Lib.hid b1; clear b1
    go_wp2_with fail
    refine (HF.out _).mono ?_
    rintro e w2 ⟨rfl, b2⟩
    have A2 := Lib.hid (A1.out.trans (b2.mono A1.out.size)); clear b2
    go_wp2_with fail
    refine (HN.out _).mono ?_
    rintro e w3 ⟨rfl, b3⟩
    have A3 := Lib.hid (A2.out.trans (b3.mono A2.out.size)); clear b3
    go_wp2_with (first
      | (go_at_call 27; refine (num3_any _ _).mono ?_; rintro e w' ⟨rfl, rfl⟩)
      | (go_at_call 25; refine (HP.out _).mono ?_; rintro e w4 ⟨rfl, b4⟩; have A4 := Lib.hid (A3.out.trans (b4.mono A3.out.size)); clear b4)
      | (go_at_call 29; refine (HW.out _ A4.out).mono ?_; rintro e w9 ⟨rfl, a9⟩; have A9 := Lib.hid (A4.out.trans (Below.mono a9 A4.out.size)); clear a9))
    go_ret
    exact ⟨rfl, A9.out⟩
  · go_enter Tryd.func9, Tryd.ntmps9
    go_wp2_with fail
    refine (HE.out _).mono ?_
    rintro e w1 ⟨rfl, b1⟩
    have A1 := Lib.hid b1; clear b1
    go_wp2_with fail
    refine (HF.out _).mono ?_
    rintro e w2 ⟨rfl, b2⟩
    have A2 := Lib.hid (A1.out.trans (b2.mono A1.out.size)); clear b2
    go_wp2_with fail
    refine (HN.out _).mono ?_
    rintro e w3 ⟨rfl, b3⟩
    have A3 := Lib.hid (A2.out.trans (b3.mono A2.out.size)); clear b3
    go_wp2_with (first
      | (go_at_call 27; refine (num3_any _ _).mono ?_; rintro e w' ⟨rfl, rfl⟩)
      | (go_at_call 25; refine (HP.out _).mono ?_; rintro e w4 ⟨rfl, b4⟩; have A4 := Lib.hid (A3.out.trans (b4.mono A3.out.size)); clear b4)
      | (go_at_call 29; refine (HW.out _ A4.out).mono ?_; rintro e w9 ⟨rfl, a9⟩; have A9 := Lib.hid (A4.out.trans (Below.mono a9 A4.out.size)); clear a9))
    go_ret
    exact ⟨rfl, A9.out⟩
  · have q1 : (x == y) = false := by simp; omega
    have q2 : (c == d) = false := by simp; omega
    have q3 : decide (x < y) = false := by simp; omega
    have q4 : decide (c < d) = false := by simp; omega
    clear p1 p2
    go_enter Tryd.func9, Tryd.ntmps9
    go_wp2_with fail
    refine (HE.out _).mono ?_
    rintro e w1 ⟨rfl, b1⟩
    have A1 := Lib.hid b1; clear b1
    go_wp2_with fail
    refine (HF.out _).mono ?_
    rintro e w2 ⟨rfl, b2⟩
    have A2 := Lib.hid (A1.out.trans (b2.mono A1.out.size)); clear b2
    go_wp2_with fail
    refine (HN.out _).mono ?_
    rintro e w3 ⟨rfl, b3⟩
    have A3 := Lib.hid (A2.out.trans (b3.mono A2.out.size)); clear b3
    go_wp2_with (first
      | (go_at_call 27; refine (num3_any _ _).mono ?_; rintro e w' ⟨rfl, rfl⟩)
      | (go_at_call 25; refine (HP.out _).mono ?_; rintro e w4 ⟨rfl, b4⟩; have A4 := Lib.hid (A3.out.trans (b4.mono A3.out.size)); clear b4)
      | (go_at_call 29; refine (HW.out _ A4.out).mono ?_; rintro e w9 ⟨rfl, a9⟩; have A9 := Lib.hid (A4.out.trans (Below.mono a9 A4.out.size)); clear a9))
    go_ret
    exact ⟨rfl, A9.out⟩
  · have q1 : (x == y) = false := by simpa using p2
    have q2 : (a == b) = false := by simpa using p1
    clear p1 p2
    go_enter Tryd.func9, Tryd.ntmps9
    go_wp2_with fail
    refine (HE.out _).mono ?_
    rintro e w1 ⟨rfl, b1⟩
    have A1 := Lib.hid b1; clear b1
    go_wp2_with fail
    refine (HF.out _).mono ?_
    rintro e w2 ⟨rfl, b2⟩
    have A2 := Lib.hid (A1.out.trans (b2.mono A1.out.size)); clear b2
    go_wp2_with fail
    refine (HN.out _).mono ?_
    rintro e w3 ⟨rfl, b3⟩
    have A3 := Lib.hid (A2.out.trans (b3.mono A2.out.size)); clear b3
    go_wp2_with (first
      | (go_at_call 27; refine (num3_any _ _).mono ?_; rintro e w' ⟨rfl, rfl⟩)
      | (go_at_call 25; refine (HP.out _).mono ?_; rintro e w4 ⟨rfl, b4⟩; have A4 := Lib.hid (A3.out.trans (b4.mono A3.out.size)); clear b4)
      | (go_at_call 29; refine (HW.out _ A4.out).mono ?_; rintro e w9 ⟨rfl, a9⟩; have A9 := Lib.hid (A4.out.trans (Below.mono a9 A4.out.size)); clear a9))
    go_ret
    exact ⟨rfl, A9.out⟩

set_option maxHeartbeats 4000000 in
theorem holds_full (x y a b c d v : Int) (w : World) (HW : Hid (∀ W, Below w.heap.size w W → Calls Tryd.prog 29 #[] W (TrueAdds W)))
    (HE : Hid (∀ W, Calls Tryd.prog 25 #[.int .u64 x] W fun e w' => e = .returned (.tuple #[.int .i64 a, .int .u64 c]) ∧ Below W.heap.size W w'))
    (HF : Hid (∀ W, Calls Tryd.prog 25 #[.int .u64 y] W fun e w' => e = .returned (.tuple #[.int .i64 b, .int .u64 d]) ∧ Below W.heap.size W w'))
    (hst : (a = b ∧ x < y ∧ c < d) ∨ (a = b ∧ x = y ∧ c = d) ∨ (a = b ∧ y < x ∧ d < c) ∨ (a ≠ b ∧ x ≠ y))
    (HN : Hid (∀ W, Calls Tryd.prog 30 #[.int .u64 x, .int .u64 v] W fun e w' => e = .returned (.tuple #[.int .u64 0, .int .i64 130]) ∧ Below W.heap.size W w')) (k1 : 1 ≤ v) (k2 : v ≤ 281474976710655) (k3 : v ≤ c) :
    Calls Tryd.prog 9 #[.int .u64 x, .int .u64 y, .int .u64 v] w (TrueAdds w) := by
  rcases hst with ⟨rfl, p1, p2⟩ | ⟨rfl, rfl, rfl⟩ | ⟨rfl, p1, p2⟩ | ⟨p1, p2⟩
  · have q1 : (x == y) = false := by simp; omega
    have q2 : (c == d) = false := by simp; omega
    go_enter Tryd.func9, Tryd.ntmps9
    go_wp2_with fail
    refine (HE.out _).mono ?_
    rintro e w1 ⟨rfl, b1⟩
    have A1 := Lib.hid b1; clear b1
    go_wp2_with fail
    refine (HF.out _).mono ?_
    rintro e w2 ⟨rfl, b2⟩
    have A2 := Lib.hid (A1.out.trans (b2.mono A1.out.size)); clear b2
    go_wp2_with fail
    refine (HN.out _).mono ?_
    rintro e w3 ⟨rfl, b3⟩
    have A3 := Lib.hid (A2.out.trans (b3.mono A2.out.size)); clear b3
    go_wp2_with (first
      | (go_at_call 27; refine (num3_any _ _).mono ?_; rintro e w' ⟨rfl, rfl⟩)
      | (go_at_call 29; refine (HW.out _ A3.out).mono ?_; rintro e w9 ⟨rfl, a9⟩; have A9 := Lib.hid (A3.out.trans (Below.mono a9 A3.out.size)); clear a9))
    go_ret
    exact ⟨rfl, A9.out⟩
  · go_enter Tryd.func9, Tryd.ntmps9
    go_wp2_with fail
    refine (HE.out _).mono ?_
    rintro e w1 ⟨rfl, b1⟩
    have A1 := Lib.hid b1; clear b1
    go_wp2_with fail
    refine (HF.out _).mono ?_
    rintro e w2 ⟨rfl, b2⟩
    have A2 := Lib.hid (A1.out.trans (b2.mono A1.out.size)); clear b2
    go_wp2_with fail
    refine (HN.out _).mono ?_
    rintro e w3 ⟨rfl, b3⟩
    have A3 := Lib.hid (A2.out.trans (b3.mono A2.out.size)); clear b3
    go_wp2_with (first
      | (go_at_call 27; refine (num3_any _ _).mono ?_; rintro e w' ⟨rfl, rfl⟩)
      | (go_at_call 29; refine (HW.out _ A3.out).mono ?_; rintro e w9 ⟨rfl, a9⟩; have A9 := Lib.hid (A3.out.trans (Below.mono a9 A3.out.size)); clear a9))
    go_ret
    exact ⟨rfl, A9.out⟩
  · have q1 : (x == y) = false := by simp; omega
    have q2 : (c == d) = false := by simp; omega
    have q3 : decide (x < y) = false := by simp; omega
    have q4 : decide (c < d) = false := by simp; omega
    clear p1 p2
    go_enter Tryd.func9, Tryd.ntmps9
    go_wp2_with fail
    refine (HE.out _).mono ?_
    rintro e w1 ⟨rfl, b1⟩
    have A1 := Lib.hid b1; clear b1
    go_wp2_with fail
    refine (HF.out _).mono ?_
    rintro e w2 ⟨rfl, b2⟩
    have A2 := Lib.hid (A1.out.trans (b2.mono A1.out.size)); clear b2
    go_wp2_with fail
    refine (HN.out _).mono ?_
    rintro e w3 ⟨rfl, b3⟩
    have A3 := Lib.hid (A2.out.trans (b3.mono A2.out.size)); clear b3
    go_wp2_with (first
      | (go_at_call 27; refine (num3_any _ _).mono ?_; rintro e w' ⟨rfl, rfl⟩)
      | (go_at_call 29; refine (HW.out _ A3.out).mono ?_; rintro e w9 ⟨rfl, a9⟩; have A9 := Lib.hid (A3.out.trans (Below.mono a9 A3.out.size)); clear a9))
    go_ret
    exact ⟨rfl, A9.out⟩
  · have q1 : (x == y) = false := by simpa using p2
    have q2 : (a == b) = false := by simpa using p1
    clear p1 p2
    go_enter Tryd.func9, Tryd.ntmps9
    go_wp2_with fail
    refine (HE.out _).mono ?_
    rintro e w1 ⟨rfl, b1⟩
    have A1 := Lib.hid b1; clear b1
    go_wp2_with fail
    refine (HF.out _).mono ?_
    rintro e w2 ⟨rfl, b2⟩
    have A2 := Lib.hid (A1.out.trans (b2.mono A1.out.size)); clear b2
    go_wp2_with fail
    refine (HN.out _).mono ?_
    rintro e w3 ⟨rfl, b3⟩
    have A3 := Lib.hid (A2.out.trans (b3.mono A2.out.size)); clear b3
    go_wp2_with (first
      | (go_at_call 27; refine (num3_any _ _).mono ?_; rintro e w' ⟨rfl, rfl⟩)
      | (go_at_call 29; refine (HW.out _ A3.out).mono ?_; rintro e w9 ⟨rfl, a9⟩; have A9 := Lib.hid (A3.out.trans (Below.mono a9 A3.out.size)); clear a9))
    go_ret
    exact ⟨rfl, A9.out⟩

set_option maxHeartbeats 4000000 in
theorem holds_arg1 (x y a b c d v : Int) (w : World) (HW : Hid (∀ W, Below w.heap.size w W → Calls Tryd.prog 29 #[] W (TrueAdds W)))
    (HE : Hid (∀ W, Calls Tryd.prog 25 #[.int .u64 x] W fun e w' => e = .returned (.tuple #[.int .i64 a, .int .u64 c]) ∧ Below W.heap.size W w'))
    (HF : Hid (∀ W, Calls Tryd.prog 25 #[.int .u64 y] W fun e w' => e = .returned (.tuple #[.int .i64 b, .int .u64 d]) ∧ Below W.heap.size W w'))
    (hst : (a = b ∧ x < y ∧ c < d) ∨ (a = b ∧ x = y ∧ c = d) ∨ (a = b ∧ y < x ∧ d < c) ∨ (a ≠ b ∧ x ≠ y))
    (HN : Hid (∀ W, Calls Tryd.prog 30 #[.int .u64 x, .int .u64 v] W fun e w' => e = .returned (.tuple #[.int .u64 0, .int .i64 2]) ∧ Below W.heap.size W w')) (k1 : v < 1) :
    Calls Tryd.prog 9 #[.int .u64 x, .int .u64 y, .int .u64 v] w (TrueAdds w) := by
  rcases hst with ⟨rfl, p1, p2⟩ | ⟨rfl, rfl, rfl⟩ | ⟨rfl, p1, p2⟩ | ⟨p1, p2⟩
  · have q1 : (x == y) = false := by simp; omega
    have q2 : (c == d) = false := by simp; omega
    go_enter Tryd.func9, Tryd.ntmps9
    go_wp2_with fail
    refine (HE.out _).mono ?_
    rintro e w1 ⟨rfl, b1⟩
    have A1 := Lib.hid b1; clear b1
    go_wp2_with fail
    refine (HF.out _).mono ?_
    rintro e w2 ⟨rfl, b2⟩
    have A2 := Lib.hid (A1.out.trans (b2.mono A1.out.size)); clear b2
    go_wp2_with fail
    refine (HN.out _).mono ?_
    rintro e w3 ⟨rfl, b3⟩
    have A3 := Lib.hid (A2.out.trans (b3.mono A2.out.size)); clear b3
    go_wp2_with (first
      | (go_at_call 27; refine (num3_any _ _).mono ?_; rintro e w' ⟨rfl, rfl⟩)
      | (go_at_call 29; refine (HW.out _ A3.out).mono ?_; rintro e w9 ⟨rfl, a9⟩; have A9 := Lib.hid (A3.out.trans (Below.mono a9 A3.out.size)); clear a9))
    go_ret
    exact ⟨rfl, A9.out⟩
  · go_enter Tryd.func9, Tryd.ntmps9
    go_wp2_with fail
    refine (HE.out _).mono ?_
    rintro e w1 ⟨rfl, b1⟩
    have A1 := Lib.hid b1; clear b1
    go_wp2_with fail
    refine (HF.out _).mono ?_
    rintro e w2 ⟨rfl, b2⟩
    have A2 := Lib.hid (A1.out.trans (b2.mono A1.out.size)); clear b2
    go_wp2_with fail
    refine (HN.out _).mono ?_
    rintro e w3 ⟨rfl, b3⟩
    have A3 := Lib.hid (A2.out.trans (b3.mono A2.out.size)); clear b3
    go_wp2_with (first
      | (go_at_call 27; refine (num3_any _ _).mono ?_; rintro e w' ⟨rfl, rfl⟩)
      | (go_at_call 29; refine (HW.out _ A3.out).mono ?_; rintro e w9 ⟨rfl, a9⟩; have A9 := Lib.hid (A3.out.trans (Below.mono a9 A3.out.size)); clear a9))
    go_ret
    exact ⟨rfl, A9.out⟩
  · have q1 : (x == y) = false := by simp; omega
    have q2 : (c == d) = false := by simp; omega
    have q3 : decide (x < y) = false := by simp; omega
    have q4 : decide (c < d) = false := by simp; omega
    clear p1 p2
    go_enter Tryd.func9, Tryd.ntmps9
    go_wp2_with fail
    refine (HE.out _).mono ?_
    rintro e w1 ⟨rfl, b1⟩
    have A1 := Lib.hid b1; clear b1
    go_wp2_with fail
    refine (HF.out _).mono ?_
    rintro e w2 ⟨rfl, b2⟩
    have A2 := Lib.hid (A1.out.trans (b2.mono A1.out.size)); clear b2
    go_wp2_with fail
    refine (HN.out _).mono ?_
    rintro e w3 ⟨rfl, b3⟩
    have A3 := Lib.hid (A2.out.trans (b3.mono A2.out.size)); clear b3
    go_wp2_with (first
      | (go_at_call 27; refine (num3_any _ _).mono ?_; rintro e w' ⟨rfl, rfl⟩)
      | (go_at_call 29; refine (HW.out _ A3.out).mono ?_; rintro e w9 ⟨rfl, a9⟩; have A9 := Lib.hid (A3.out.trans (Below.mono a9 A3.out.size)); clear a9))
    go_ret
    exact ⟨rfl, A9.out⟩
  · have q1 : (x == y) = false := by simpa using p2
    have q2 : (a == b) = false := by simpa using p1
    clear p1 p2
    go_enter Tryd.func9, Tryd.ntmps9
    go_wp2_with fail
    refine (HE.out _).mono ?_
    rintro e w1 ⟨rfl, b1⟩
    have A1 := Lib.hid b1; clear b1
    go_wp2_with fail
    refine (HF.out _).mono ?_
    rintro e w2 ⟨rfl, b2⟩
    have A2 := Lib.hid (A1.out.trans (b2.mono A1.out.size)); clear b2
    go_wp2_with fail
    refine (HN.out _).mono ?_
    rintro e w3 ⟨rfl, b3⟩
    have A3 := Lib.hid (A2.out.trans (b3.mono A2.out.size)); clear b3
    go_wp2_with (first
      | (go_at_call 27; refine (num3_any _ _).mono ?_; rintro e w' ⟨rfl, rfl⟩)
      | (go_at_call 29; refine (HW.out _ A3.out).mono ?_; rintro e w9 ⟨rfl, a9⟩; have A9 := Lib.hid (A3.out.trans (Below.mono a9 A3.out.size)); clear a9))
    go_ret
    exact ⟨rfl, A9.out⟩

set_option maxHeartbeats 4000000 in
theorem holds_arg2 (x y a b c d v : Int) (w : World) (HW : Hid (∀ W, Below w.heap.size w W → Calls Tryd.prog 29 #[] W (TrueAdds W)))
    (HE : Hid (∀ W, Calls Tryd.prog 25 #[.int .u64 x] W fun e w' => e = .returned (.tuple #[.int .i64 a, .int .u64 c]) ∧ Below W.heap.size W w'))
    (HF : Hid (∀ W, Calls Tryd.prog 25 #[.int .u64 y] W fun e w' => e = .returned (.tuple #[.int .i64 b, .int .u64 d]) ∧ Below W.heap.size W w'))
    (hst : (a = b ∧ x < y ∧ c < d) ∨ (a = b ∧ x = y ∧ c = d) ∨ (a = b ∧ y < x ∧ d < c) ∨ (a ≠ b ∧ x ≠ y))
    (HN : Hid (∀ W, Calls Tryd.prog 30 #[.int .u64 x, .int .u64 v] W fun e w' => e = .returned (.tuple #[.int .u64 0, .int .i64 2]) ∧ Below W.heap.size W w')) (k1 : 281474976710655 < v) (k0 : 1 ≤ v) :
    Calls Tryd.prog 9 #[.int .u64 x, .int .u64 y, .int .u64 v] w (TrueAdds w) := by
  rcases hst with ⟨rfl, p1, p2⟩ | ⟨rfl, rfl, rfl⟩ | ⟨rfl, p1, p2⟩ | ⟨p1, p2⟩
  · have q1 : (x == y) = false := by simp; omega
    have q2 : (c == d) = false := by simp; omega
    go_enter Tryd.func9, Tryd.ntmps9
    go_wp2_with fail
    refine (HE.out _).mono ?_
    rintro e w1 ⟨rfl, b1⟩
    have A1 := Lib.hid b1; clear b1
    go_wp2_with fail
    refine (HF.out _).mono ?_
    rintro e w2 ⟨rfl, b2⟩
    have A2 := Lib.hid (A1.out.trans (b2.mono A1.out.size)); clear b2
    go_wp2_with fail
    refine (HN.out _).mono ?_
    rintro e w3 ⟨rfl, b3⟩
    have A3 := Lib.hid (A2.out.trans (b3.mono A2.out.size)); clear b3
    go_wp2_with (first
      | (go_at_call 27; refine (num3_any _ _).mono ?_; rintro e w' ⟨rfl, rfl⟩)
      | (go_at_call 29; refine (HW.out _ A3.out).mono ?_; rintro e w9 ⟨rfl, a9⟩; have A9 := Lib.hid (A3.out.trans (Below.mono a9 A3.out.size)); clear a9))
    go_ret
    exact ⟨rfl, A9.out⟩
  · go_enter Tryd.func9, Tryd.ntmps9
    go_wp2_with fail
    refine (HE.out _).mono ?_
    rintro e w1 ⟨rfl, b1⟩
    have A1 := Lib.hid b1; clear b1
    go_wp2_with fail
    refine (HF.out _).mono ?_
    rintro e w2 ⟨rfl, b2⟩
    have A2 := Lib.hid (A1.out.trans (b2.mono A1.out.size)); clear b2
    go_wp2_with fail
    refine (HN.out _).mono ?_
    rintro e w3 ⟨rfl, b3⟩
    have A3 := Lib.hid (A2.out.trans (b3.mono A2.out.size)); clear b3
    go_wp2_with (first
      | (go_at_call 27; refine (num3_any _ _).mono ?_; rintro e w' ⟨rfl, rfl⟩)
      | (go_at_call 29; refine (HW.out _ A3.out).mono ?_; rintro e w9 ⟨rfl, a9⟩; have A9 := Lib.hid (A3.out.trans (Below.mono a9 A3.out.size)); clear a9))
    go_ret
    exact ⟨rfl, A9.out⟩
  · have q1 : (x == y) = false := by simp; omega
    have q2 : (c == d) = false := by simp; omega
    have q3 : decide (x < y) = false := by simp; omega
    have q4 : decide (c < d) = false := by simp; omega
    clear p1 p2
    go_enter Tryd.func9, Tryd.ntmps9
    go_wp2_with fail
    refine (HE.out _).mono ?_
    rintro e w1 ⟨rfl, b1⟩
    have A1 := Lib.hid b1; clear b1
    go_wp2_with fail
    refine (HF.out _).mono ?_
    rintro e w2 ⟨rfl, b2⟩
    have A2 := Lib.hid (A1.out.trans (b2.mono A1.out.size)); clear b2
    go_wp2_with fail
    refine (HN.out _).mono ?_
    rintro e w3 ⟨rfl, b3⟩
    have A3 := Lib.hid (A2.out.trans (b3.mono A2.out.size)); clear b3
    go_wp2_with (first
      | (go_at_call 27; refine (num3_any _ _).mono ?_; rintro e w' ⟨rfl, rfl⟩)
      | (go_at_call 29; refine (HW.out _ A3.out).mono ?_; rintro e w9 ⟨rfl, a9⟩; have A9 := Lib.hid (A3.out.trans (Below.mono a9 A3.out.size)); clear a9))
    go_ret
    exact ⟨rfl, A9.out⟩
  · have q1 : (x == y) = false := by simpa using p2
    have q2 : (a == b) = false := by simpa using p1
    clear p1 p2
    go_enter Tryd.func9, Tryd.ntmps9
    go_wp2_with fail
    refine (HE.out _).mono ?_
    rintro e w1 ⟨rfl, b1⟩
    have A1 := Lib.hid b1; clear b1
    go_wp2_with fail
    refine (HF.out _).mono ?_
    rintro e w2 ⟨rfl, b2⟩
    have A2 := Lib.hid (A1.out.trans (b2.mono A1.out.size)); clear b2
    go_wp2_with fail
    refine (HN.out _).mono ?_
    rintro e w3 ⟨rfl, b3⟩
    have A3 := Lib.hid (A2.out.trans (b3.mono A2.out.size)); clear b3
    go_wp2_with (first
      | (go_at_call 27; refine (num3_any _ _).mono ?_; rintro e w' ⟨rfl, rfl⟩)
      | (go_at_call 29; refine (HW.out _ A3.out).mono ?_; rintro e w9 ⟨rfl, a9⟩; have A9 := Lib.hid (A3.out.trans (Below.mono a9 A3.out.size)); clear a9))
    go_ret
    exact ⟨rfl, A9.out⟩

theorem law_holds3 (e f : Nat) (he : e < 18446744073709551616) (hf : f < 18446744073709551616) (n : Nat) (w : World) (hv : EpVars w) :
    Calls Tryd.prog 9 #[.int .u64 e, .int .u64 f, .int .u64 n] w (TrueAdds w) := by
  have HW := Lib.hid (fun W (h : Below w.heap.size w W) => works3_any W (hv.below h))
  have HE := Lib.hid (epParts_any e he)
  have HF := Lib.hid (epParts_any f hf)
  have hst : (((eI e : Nat) : Int) = ((eI f : Nat) : Int) ∧ (e : Int) < (f : Int) ∧ ((eC e : Nat) : Int) < ((eC f : Nat) : Int)) ∨ (((eI e : Nat) : Int) = ((eI f : Nat) : Int) ∧ (e : Int) = (f : Int) ∧ ((eC e : Nat) : Int) = ((eC f : Nat) : Int)) ∨
      (((eI e : Nat) : Int) = ((eI f : Nat) : Int) ∧ (f : Int) < (e : Int) ∧ ((eC f : Nat) : Int) < ((eC e : Nat) : Int)) ∨ (((eI e : Nat) : Int) ≠ ((eI f : Nat) : Int) ∧ (e : Int) ≠ (f : Int)) := by
    rcases stand4 e f with ⟨h1, h2, h3⟩ | ⟨h1, h2, h3⟩ | ⟨h1, h2, h3⟩ | ⟨h1, h2⟩
    · exact .inl ⟨by omega, by omega, by omega⟩
    · exact .inr (.inl ⟨by omega, by omega, by omega⟩)
    · exact .inr (.inr (.inl ⟨by omega, by omega, by omega⟩))
    · exact .inr (.inr (.inr ⟨by omega, by omega⟩))
  by_cases h : 1 ≤ n ∧ n < 281474976710656
  · by_cases h2 : eC e < n
    · have he1 : e + 1 < 18446744073709551616 := by unfold eC at h2; omega
      have e1 : eI (e + 1) = eI e := by unfold eI eC at *; omega
      have e2 : eC (e + 1) = eC e + 1 := by unfold eC at *; omega
      have HP := epParts_any (e + 1) he1
      rw [e1, e2] at HP
      exact holds_yes _ _ _ _ _ _ _ ((e + 1 : Nat) : Int) ((eC e + 1 : Nat) : Int) w HW HE HF hst (Lib.hid (next_any he (.inr (.inr ⟨h.1, h.2, h2, rfl, rfl⟩)))) (Lib.hid HP) (by rw [IntKind.wrap_u64]; have := eC_lt e; omega) (by omega) (by omega)
    · exact holds_full _ _ _ _ _ _ _ w HW HE HF hst (Lib.hid (next_any he (.inr (.inl ⟨h.1, h.2, by omega, rfl, rfl⟩)))) (by omega) (by omega) (by omega)
  · by_cases h1 : n < 1
    · exact holds_arg1 _ _ _ _ _ _ _ w HW HE HF hst (Lib.hid (next_any he (.inl ⟨h, rfl, rfl⟩))) (by omega)
    · exact holds_arg2 _ _ _ _ _ _ _ w HW HE HF hst (Lib.hid (next_any he (.inl ⟨h, rfl, rfl⟩))) (by omega) (by omega)
end Go.Proofs.YtlbloehhmpnkgaaDoor
