/- A memory, as plain facts: words by addresses; what a page holds; how many words are not 0. -/
namespace Go.Proofs.YtleihmmkonakhaaDoor

/-- The words of page p. -/
def pgW (S : Nat → Nat) (p i : Nat) : Nat := S (p * 4096 + i)
/-- How many of the first n are not 0. -/
def cntN (f : Nat → Nat) : Nat → Nat
  | 0 => 0
  | n + 1 => cntN f n + if f n = 0 then 0 else 1
def cntP (f : Nat → Nat) : Nat := cntN f 4096
/-- A word stored. -/
def setW (S : Nat → Nat) (a v x : Nat) : Nat := if x = a then v else S x

theorem cntN_congr {f g : Nat → Nat} : ∀ n, (∀ i, i < n → (f i = 0 ↔ g i = 0)) → cntN f n = cntN g n
  | 0, _ => rfl
  | n + 1, h => by
    simp only [cntN]
    rw [cntN_congr n (fun i hi => h i (by omega))]
    have := h n (by omega)
    by_cases h0 : f n = 0 <;> simp_all
theorem cntN_le (f : Nat → Nat) : ∀ n, cntN f n ≤ n
  | 0 => Nat.le_refl _
  | n + 1 => by
    simp only [cntN]
    have := cntN_le f n
    split <;> omega
theorem cntN_zero (f : Nat → Nat) : ∀ n, cntN f n = 0 ↔ ∀ i, i < n → f i = 0
  | 0 => by simp [cntN]
  | n + 1 => by
    simp only [cntN]
    have ih := cntN_zero f n
    constructor
    · intro h i hi
      by_cases h0 : f n = 0
      · rw [if_pos h0] at h
        by_cases e : i = n
        · rw [e]; exact h0
        · exact ih.1 (by omega) i (by omega)
      · rw [if_neg h0] at h; omega
    · intro h
      rw [if_pos (h n (by omega)), ih.2 (fun i hi => h i (by omega))]
theorem cntN_set (f : Nat → Nat) (a v : Nat) : ∀ n, a < n → cntN (setW f a v) n + (if f a = 0 then 0 else 1) = cntN f n + if v = 0 then 0 else 1
  | 0, h => by omega
  | n + 1, h => by
    simp only [cntN]
    by_cases e : a = n
    · subst e
      have h1 : cntN (setW f a v) a = cntN f a := cntN_congr _ (fun i hi => by rw [setW, if_neg (by omega)])
      rw [h1]
      have h2 : setW f a v a = v := by simp [setW]
      rw [h2]; omega
    · have ih := cntN_set f a v n (by omega)
      have h2 : setW f a v n = f n := by rw [setW, if_neg (by omega)]
      rw [h2]; omega
theorem cntP_congr {f g : Nat → Nat} (h : ∀ i, i < 4096 → (f i = 0 ↔ g i = 0)) : cntP f = cntP g := cntN_congr _ h
theorem cntP_le (f : Nat → Nat) : cntP f ≤ 4096 := cntN_le f _
theorem cntP_zero (f : Nat → Nat) : cntP f = 0 ↔ ∀ i, i < 4096 → f i = 0 := cntN_zero f _
theorem cntP_set (f : Nat → Nat) (a v : Nat) (h : a < 4096) : cntP (setW f a v) + (if f a = 0 then 0 else 1) = cntP f + if v = 0 then 0 else 1 := cntN_set f a v _ h
theorem pgW_set_same (S : Nat → Nat) (a v : Nat) : pgW (setW S a v) (a / 4096) = setW (pgW S (a / 4096)) (a % 4096) v := by
  funext i
  unfold pgW setW
  have := Nat.div_add_mod a 4096
  by_cases h : i = a % 4096
  · rw [if_pos h, if_pos (by omega)]
  · rw [if_neg h, if_neg (by omega)]
theorem pgW_set_other (S : Nat → Nat) (a v p i : Nat) (h : p ≠ a / 4096) (hi : i < 4096) : pgW (setW S a v) p i = pgW S p i := by
  unfold pgW setW
  rw [if_neg (by omega)]
end Go.Proofs.YtleihmmkonakhaaDoor
