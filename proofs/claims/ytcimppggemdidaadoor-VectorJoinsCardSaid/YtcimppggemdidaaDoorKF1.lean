/- Contracts of the small functions of package epoch: bounds. -/
import Derived.Test.YtcimppggemdidaaDoorRows
import Derived.WalkKit
import Derived.WalkSpells
import Derived.Lib.Hide
import Derived.Test.YtcimppggemdidaaDoorKPlain
namespace Go.Proofs.YtcimppggemdidaaDoor
open Go Go.RowKit

/-- Is it within its bounds? -/
def inB (a n b : Int) : Bool := decide (a ≤ n ∧ n ≤ b)
theorem inB_yes {a n b : Int} (h1 : a ≤ n) (h2 : n ≤ b) : inB a n b = true := by unfold inB; exact decide_eq_true ⟨h1, h2⟩
theorem inB_no {a n b : Int} (h : ¬ (a ≤ n ∧ n ≤ b)) : inB a n b = false := by unfold inB; exact decide_eq_false h

set_option maxHeartbeats 400000 in
theorem within1_any (a n b : Int) (w : World) :
    Calls Tryd.prog 107 #[.agg #[.int .u64 a, .int .u64 n, .int .u64 b]] w fun e w' => e = .returned (.bool (inB a n b)) ∧ Below w.heap.size w w' := by
  by_cases h1 : a ≤ n
  · by_cases h2 : n ≤ b
    · rw [inB_yes h1 h2]
      go_enter Tryd.func107, Tryd.ntmps107
      go_wp2
      go_ret
      exact ⟨rfl, (Below.refl _ _).alloc (Nat.le_refl _) _⟩
    · rw [inB_no (fun h => h2 h.2)]
      go_enter Tryd.func107, Tryd.ntmps107
      go_wp2
      go_ret
      exact ⟨rfl, (Below.refl _ _).alloc (Nat.le_refl _) _⟩
  · rw [inB_no (fun h => h1 h.1)]
    go_enter Tryd.func107, Tryd.ntmps107
    go_wp2
    go_ret
    exact ⟨rfl, (Below.refl _ _).alloc (Nat.le_refl _) _⟩

/-- The bounds of one number, in a block of their own; of two. -/
abbrev B1 (w : World) (a n b : Int) : World := w.alloc (.cells #[.int .u64 a, .int .u64 n, .int .u64 b] 151)
abbrev B2 (w : World) (a n b c m d : Int) : World := w.alloc (.cells #[.int .u64 a, .int .u64 n, .int .u64 b, .int .u64 c, .int .u64 m, .int .u64 d] 151)

theorem adds_b (w : World) (o : Obj) : Below w.heap.size w (w.alloc o) := (Below.refl _ _).alloc (Nat.le_refl _) _

set_option maxHeartbeats 1000000 in
theorem all1_any (a n b : Int) (w : World) :
    Calls Tryd.prog 106 #[.slice (some ⟨w.heap.size, 0, none⟩) 1 1, .func (.func 107) #[] #[]] (B1 w a n b) fun e w' => e = .returned (.bool (inB a n b)) ∧ Below w.heap.size w w' := by
  cases hb : inB a n b
  · have HB := Lib.hid hb; clear hb
    go_enter Tryd.func106, Tryd.ntmps106
    go_wp2
    refine wp_loop_rounds 1 ?_
    rw [rounds_succ]
    go_wp2_with (go_at_call 107; refine (within1_any _ _ _ _).mono ?_; rintro e w1 ⟨rfl, b1⟩; have A1 := Lib.hid b1; clear b1; rw [HB.out])
    go_ret
    exact ⟨rfl, (((adds_b w _).alloc (by simp) _).trans (A1.out.mono (by simp; omega)))⟩
  · have HB := Lib.hid hb; clear hb
    go_enter Tryd.func106, Tryd.ntmps106
    go_wp2
    refine wp_loop_rounds 2 ?_
    rw [rounds_succ]
    go_wp2_with (go_at_call 107; refine (within1_any _ _ _ _).mono ?_; rintro e w1 ⟨rfl, b1⟩; have A1 := Lib.hid b1; clear b1; rw [HB.out])
    rw [rounds_succ]
    go_wp2
    go_ret
    exact ⟨rfl, (((adds_b w _).alloc (by simp) _).trans (A1.out.mono (by simp; omega)))⟩

theorem bcell {W w1 : World} (hb : Below W.heap.size W w1) : (∀ b o, b < W.heap.size → w1.cell? ⟨b, o, none⟩ = W.cell? ⟨b, o, none⟩) ∧ (∀ b o, b < W.heap.size → w1.frozen? ⟨b, o, none⟩ = W.frozen? ⟨b, o, none⟩) :=
  ⟨fun b o h => hb.cell (p := ⟨b, o, none⟩) h, fun b o h => hb.frozen (p := ⟨b, o, none⟩) h⟩

set_option maxHeartbeats 2000000 in
theorem all2_any (a n b c m d : Int) (w : World) :
    Calls Tryd.prog 106 #[.slice (some ⟨w.heap.size, 0, none⟩) 2 2, .func (.func 107) #[] #[]] (B2 w a n b c m d) fun e w' => e = .returned (.bool (inB a n b && inB c m d)) ∧ Below w.heap.size w w' := by
  cases hb : inB a n b
  · have HB := Lib.hid hb; clear hb
    rw [Bool.false_and]
    go_enter Tryd.func106, Tryd.ntmps106
    go_wp2
    refine wp_loop_rounds 1 ?_
    rw [rounds_succ]
    go_wp2_with (go_at_call 107; refine (within1_any _ _ _ _).mono ?_; rintro e w1 ⟨rfl, b1⟩; have A1 := Lib.hid b1; clear b1; rw [HB.out])
    go_ret
    exact ⟨rfl, (((adds_b w _).alloc (by simp) _).trans (A1.out.mono (by simp; omega)))⟩
  · have HB := Lib.hid hb; clear hb
    rw [Bool.true_and]
    cases hb2 : inB c m d
    · have HB2 := Lib.hid hb2; clear hb2
      go_enter Tryd.func106, Tryd.ntmps106
      go_wp2
      refine wp_loop_rounds 2 ?_
      rw [rounds_succ]
      go_wp2_with (go_at_call 107; refine (within1_any _ _ _ _).mono ?_; rintro e w1 ⟨rfl, b1⟩; have A1 := Lib.hid b1; obtain ⟨hc, hf⟩ := bcell b1; have hz : w.heap.size + 1 < w1.heap.size := (by have := b1.size; simp at this; omega); clear b1; rw [HB.out])
      rw [rounds_succ]
      go_wp2_with (go_at_call 107; refine (within1_any _ _ _ _).mono ?_; rintro e w2 ⟨rfl, b2⟩; have A2 := Lib.hid b2; clear b2; rw [HB2.out])
      go_ret
      exact ⟨rfl, (((adds_b w _).alloc (by simp) _).trans (A1.out.mono (by simp; omega))).trans (((Below.refl _ _).alloc (by omega) _).trans (A2.out.mono (by simp; omega)))⟩
    · have HB2 := Lib.hid hb2; clear hb2
      go_enter Tryd.func106, Tryd.ntmps106
      go_wp2
      refine wp_loop_rounds 3 ?_
      rw [rounds_succ]
      go_wp2_with (go_at_call 107; refine (within1_any _ _ _ _).mono ?_; rintro e w1 ⟨rfl, b1⟩; have A1 := Lib.hid b1; obtain ⟨hc, hf⟩ := bcell b1; have hz : w.heap.size + 1 < w1.heap.size := (by have := b1.size; simp at this; omega); clear b1; rw [HB.out])
      rw [rounds_succ]
      go_wp2_with (go_at_call 107; refine (within1_any _ _ _ _).mono ?_; rintro e w2 ⟨rfl, b2⟩; have A2 := Lib.hid b2; clear b2; rw [HB2.out])
      rw [rounds_succ]
      go_wp2
      go_ret
      exact ⟨rfl, (((adds_b w _).alloc (by simp) _).trans (A1.out.mono (by simp; omega))).trans (((Below.refl _ _).alloc (by omega) _).trans (A2.out.mono (by simp; omega)))⟩

set_option maxHeartbeats 400000 in
theorem withinOne_any (a n b : Int) (z : Bool) (hz : inB a n b = z) (w : World) (k : Nat) (hk : k = w.heap.size) :
    Calls Tryd.prog 105 #[.slice (some ⟨k, 0, none⟩) 1 1] (B1 w a n b) fun e w' => e = .returned (.bool z) ∧ Below w.heap.size w w' := by
  have HK := Lib.hid (all1_any a n b w)
  rw [hz] at HK
  clear hz
  subst hk
  go_enter Tryd.func105, Tryd.ntmps105
  go_wp2_with (go_at_call 106; refine HK.out.mono ?_; rintro e w1 ⟨rfl, b1⟩; have A1 := Lib.hid b1; clear b1)
  go_ret
  exact ⟨rfl, A1.out⟩
set_option maxHeartbeats 400000 in
theorem withinTwo_any (a n b c m d : Int) (z : Bool) (hz : (inB a n b && inB c m d) = z) (w : World) (k : Nat) (hk : k = w.heap.size) :
    Calls Tryd.prog 105 #[.slice (some ⟨k, 0, none⟩) 2 2] (B2 w a n b c m d) fun e w' => e = .returned (.bool z) ∧ Below w.heap.size w w' := by
  have HK := Lib.hid (all2_any a n b c m d w)
  rw [hz] at HK
  clear hz
  subst hk
  go_enter Tryd.func105, Tryd.ntmps105
  go_wp2_with (go_at_call 106; refine HK.out.mono ?_; rintro e w1 ⟨rfl, b1⟩; have A1 := Lib.hid b1; clear b1)
  go_ret
  exact ⟨rfl, A1.out⟩

/-- May there be such a number and such a clock? -/
def mayB (i c : Int) : Bool := inB 0 i 65535 && inB 0 c 281474976710655
set_option maxHeartbeats 400000 in
theorem may_any (i c : Int) (z : Bool) (hz : mayB i c = z) (w : World) :
    Calls Tryd.prog 94 #[.agg #[.int .u64 i, .int .u64 c]] w fun e w' => e = .returned (.bool z) ∧ Below w.heap.size w w' := by
  have HK := Lib.hid (withinTwo_any 0 i 65535 0 c 281474976710655 z hz)
  clear hz
  go_enter Tryd.func94, Tryd.ntmps94
  go_wp2_with (go_at_call 105; refine (HK.out _ _ (by simp)).mono ?_; rintro e w1 ⟨rfl, b1⟩; have A1 := Lib.hid b1; clear b1)
  go_ret
  exact ⟨rfl, (adds_b w _).trans (A1.out.mono (by simp))⟩
/-- Is it a clock's end? -/
def endB (n : Int) : Bool := inB 1 n 281474976710655
set_option maxHeartbeats 400000 in
theorem ends_any (x n : Int) (z : Bool) (hz : endB n = z) (w : World) :
    Calls Tryd.prog 97 #[.agg #[.int .u64 x, .int .u64 n]] w fun e w' => e = .returned (.bool z) ∧ Below w.heap.size w w' := by
  have HK := Lib.hid (withinOne_any 1 n 281474976710655 z hz)
  clear hz
  go_enter Tryd.func97, Tryd.ntmps97
  go_wp2_with (go_at_call 105; refine (HK.out _ _ (by simp)).mono ?_; rintro e w1 ⟨rfl, b1⟩; have A1 := Lib.hid b1; clear b1)
  go_ret
  exact ⟨rfl, (adds_b w _).trans (A1.out.mono (by simp))⟩
end Go.Proofs.YtcimppggemdidaaDoor
