/- A vector under way: what raising clock by clock comes to. -/
import Derived.Test.YtcimppggemdidaaDoorVG1
namespace Go.Proofs.YtcimppggemdidaaDoor
open Go Go.RowKit

theorem gD_set {l : List UInt64} {x : Nat} (hx : x < l.length) (c : UInt64) (k : Nat) : gD (l.set x c) k = if k = x then c else gD l k := by
  unfold gD
  simp only [List.getD_eq_getElem?_getD, List.getElem?_set]
  by_cases h : x = k
  · subst h; simp [hx]
  · rw [if_neg h, if_neg (fun e => h e.symm)]
theorem vRaise_length {l : List UInt64} {x : Nat} (hx : x < l.length) (c : UInt64) : (vRaise l x c).length = l.length := by
  unfold vRaise
  split
  · rfl
  · rw [List.length_set, reach_length]; omega
theorem gD_vRaise {l : List UInt64} {x : Nat} (hx : x < l.length) (c : UInt64) (k : Nat) : gD (vRaise l x c) k = if k = x then mx (gD l x) c else gD l k := by
  unfold vRaise
  by_cases h : c ≤ gD l x
  · rw [if_pos h]
    by_cases hk : k = x
    · subst hk
      rw [if_pos rfl]
      unfold mx
      by_cases h2 : gD l k ≤ c
      · rw [if_pos h2]
        exact UInt64.toNat_inj.1 (Nat.le_antisymm (UInt64.le_iff_toNat_le.1 h2) (UInt64.le_iff_toNat_le.1 h))
      · rw [if_neg h2]
    · rw [if_neg hk]
  · rw [if_neg h, gD_set (by rw [reach_length]; omega)]
    by_cases hk : k = x
    · subst hk
      rw [if_pos rfl, if_pos rfl]
      unfold mx
      rw [if_pos (UInt64.le_iff_toNat_le.2 (by have h3 : ¬ (c.toNat ≤ (gD l k).toNat) := fun h' => h (UInt64.le_iff_toNat_le.2 h'); omega))]
    · rw [if_neg hk, if_neg hk, gD_reach]
/-- The clocks of c, one by one, raised in s. -/
def rz (c : List UInt64) (s : List UInt64) (pre : List Nat) : List UInt64 := pre.foldl (fun s i => vRaise s i (gD c i)) s
theorem rz_snoc (c s : List UInt64) (pre : List Nat) (x : Nat) : rz c s (pre ++ [x]) = vRaise (rz c s pre) x (gD c x) := by simp [rz]
theorem nz_lt {c : List UInt64} {x : Nat} (h : gD c x ≠ 0) : x < tN c := by
  rcases Nat.lt_or_ge x (tN c) with h1 | h1
  · exact h1
  · exact absurd (tN_ge c x h1) h
theorem rz_at (c s : List UInt64) (hs : tN c ≤ s.length) : ∀ i, (rz c s (nzT c i)).length = s.length ∧ ∀ k, gD (rz c s (nzT c i)) k = if k < i then mx (gD s k) (gD c k) else gD s k
  | 0 => ⟨rfl, fun k => rfl⟩
  | i + 1 => by
    obtain ⟨h1, h2⟩ := rz_at c s hs i
    by_cases h : gD c i = 0
    · rw [nzT_no h]
      refine ⟨h1, fun k => ?_⟩
      rw [h2]
      by_cases hk : k < i
      · rw [if_pos hk, if_pos (by omega)]
      · rw [if_neg hk]
        by_cases hk2 : k = i
        · subst hk2; rw [if_pos (by omega), h, mx_zero]
        · rw [if_neg (by omega)]
    · have hi : i < (rz c s (nzT c i)).length := by rw [h1]; have := nz_lt h; omega
      rw [nzT_yes h, rz_snoc]
      refine ⟨by rw [vRaise_length hi, h1], fun k => ?_⟩
      rw [gD_vRaise hi, h2, h2]
      by_cases hk : k = i
      · subst hk; rw [if_pos rfl, if_neg (by omega), if_pos (by omega)]
      · rw [if_neg hk]
        by_cases hk2 : k < i
        · rw [if_pos hk2, if_pos (by omega)]
        · rw [if_neg hk2, if_neg (by omega)]
theorem rz_all (c s : List UInt64) : rz c (vReach (tN c) s) (nzT c c.length) = vTake s c := by
  obtain ⟨h1, h2⟩ := rz_at c (vReach (tN c) s) (by rw [reach_length]; omega) c.length
  refine ext_gD ?_ fun k => ?_
  · rw [h1, reach_length, vTake_length]; omega
  · rw [h2, gD_vTake, gD_reach]
    by_cases hk : k < c.length
    · rw [if_pos hk]
    · rw [if_neg hk, gD_ge (l := c) (by omega), mx_zero]
end Go.Proofs.YtcimppggemdidaaDoor
