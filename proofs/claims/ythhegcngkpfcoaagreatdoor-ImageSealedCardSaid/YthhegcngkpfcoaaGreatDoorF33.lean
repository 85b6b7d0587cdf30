/- Merged: GDp. -/
import Derived.Test.YthhegcngkpfcoaaGreatDoorF32
import Derived.Test.YthhegcngkpfcoaaGreatDoorF16
namespace Go.Proofs.YthhegcngkpfcoaaGreatDoor
open Go Go.RowKit Go.Shelf

theorem fine_no1 {fs : List Fu} {f : Fu} {pc : Nat} {x : In} (h : mayI x = false) : fineB fs f pc x = false := by simp [fineB, h]
theorem fine_no2 {fs : List Fu} {f : Fu} {pc : Nat} {x : In} (h : ¬ regsI x ≤ f.1) : fineB fs f pc x = false := by simp [fineB, h]
theorem fine_no3 {fs : List Fu} {f : Fu} {pc : Nat} {x : In} (h : x.1 = 4 ∨ x.1 = 5) (hi : (f.2.length : Int) ≤ x.2.2.2.2) : fineB fs f pc x = false := by
  have : jumpsB f.2 x = false := by unfold jumpsB hasB; rw [if_pos h]; exact decide_eq_false (by omega)
  simp [fineB, this]
theorem fine_no4 {fs : List Fu} {f : Fu} {pc : Nat} {x : In} (h : x.1 = 8 ∨ x.1 = 10) (hi : (fs.length : Int) ≤ x.2.2.2.2) : fineB fs f pc x = false := by
  have : handsB fs x = false := by unfold handsB hasB; rw [if_pos h, decide_eq_false (by omega)]; rfl
  simp [fineB, this]
theorem fine_no5 {fs : List Fu} {f : Fu} {pc : Nat} {x : In} (h : x.1 = 8 ∨ x.1 = 10) (hi : ¬ x.2.2.2.1 ≤ (fs.getD x.2.2.2.2.toNat zF).1) : fineB fs f pc x = false := by
  have : handsB fs x = false := by unfold handsB; rw [if_pos h, decide_eq_false hi, Bool.and_false]
  simp [fineB, this]
theorem fine_is {fs : List Fu} {f : Fu} {pc : Nat} {x : In} (hm : mayI x = true) (hr : regsI x ≤ f.1) (hj : x.1 = 4 ∨ x.1 = 5 → 0 ≤ x.2.2.2.2 ∧ x.2.2.2.2 < (f.2.length : Int)) (hh : x.1 = 8 ∨ x.1 = 10 → (0 ≤ x.2.2.2.2 ∧ x.2.2.2.2 < (fs.length : Int)) ∧ x.2.2.2.1 ≤ (fs.getD x.2.2.2.2.toNat zF).1) : fineB fs f pc x = leavesB f.2 pc x := by
  have h1 : jumpsB f.2 x = true := by
    unfold jumpsB hasB
    split
    · rename_i h; exact decide_eq_true (hj h)
    · rfl
  have h2 : handsB fs x = true := by
    unfold handsB hasB
    split
    · rename_i h; rw [decide_eq_true (hh h).1, decide_eq_true (hh h).2]; rfl
    · rfl
  simp [fineB, hm, hr, h1, h2]
theorem leaves_yes {c : List In} {pc : Nat} {x : In} (h : pc + 1 < c.length) : leavesB c pc x = true := by unfold leavesB hasB; rw [decide_eq_true (by omega)]; rfl
theorem leaves_end {c : List In} {pc : Nat} {x : In} (h : ¬ pc + 1 < c.length) : leavesB c pc x = leavesI x := by unfold leavesB hasB; rw [decide_eq_false (by omega)]; rfl
end Go.Proofs.YthhegcngkpfcoaaGreatDoor
