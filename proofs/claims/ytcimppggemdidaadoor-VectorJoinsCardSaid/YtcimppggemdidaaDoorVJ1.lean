/- The reference's Join: what it comes to clock by clock. -/
import Derived.Test.YtcimppggemdidaaDoorVT1
namespace Go.Proofs.YtcimppggemdidaaDoor
open Go Go.RowKit

/-- s, the first k clocks of c taken in. -/
def jk (s c : List UInt64) (k : Nat) : List UInt64 := mkL (max s.length k) fun p => if p < k then mx (gD s p) (gD c p) else gD s p
theorem jk_length (s c : List UInt64) (k : Nat) : (jk s c k).length = max s.length k := mkL_length _ _
theorem gD_jk (s c : List UInt64) (k p : Nat) : gD (jk s c k) p = if p < k then mx (gD s p) (gD c p) else gD s p := by
  unfold jk
  rw [gD_mkL]
  by_cases h : p < max s.length k
  · rw [if_pos h]
  · rw [if_neg h, if_neg (by omega), gD_ge (by omega)]
theorem jk_zero (s c : List UInt64) : jk s c 0 = s := ext_gD (by rw [jk_length]; omega) fun p => by rw [gD_jk, if_neg (by omega)]
theorem gD_snoc0 (s : List UInt64) (p : Nat) : gD (s ++ [0]) p = gD s p := by
  have := gD_reach (s.length + 1) s p
  unfold vReach at this
  rw [Nat.add_sub_cancel_left] at this
  exact this
theorem jk_same (s c : List UInt64) (k : Nat) (h : k < (jk s c k).length) : (jk s c k).set k (mx (gD (jk s c k) k) (gD c k)) = jk s c (k + 1) := by
  refine ext_gD ?_ fun p => ?_
  · rw [List.length_set, jk_length, jk_length]; rw [jk_length] at h; omega
  · rw [gD_set h, gD_jk, gD_jk, gD_jk]
    by_cases hp : p = k
    · subst hp; rw [if_pos rfl, if_neg (by omega), if_pos (by omega)]
    · rw [if_neg hp]
      by_cases h2 : p < k
      · rw [if_pos h2, if_pos (by omega)]
      · rw [if_neg h2, if_neg (by omega)]
theorem jk_grow (s c : List UInt64) (k : Nat) (h : k = (jk s c k).length) : (jk s c k ++ [0]).set k (mx (gD (jk s c k ++ [0]) k) (gD c k)) = jk s c (k + 1) := by
  refine ext_gD ?_ fun p => ?_
  · rw [List.length_set, List.length_append, List.length_singleton, jk_length, jk_length]; rw [jk_length] at h; omega
  · rw [gD_set (by rw [List.length_append, ← h]; simp), gD_snoc0, gD_snoc0, gD_jk, gD_jk, gD_jk]
    by_cases hp : p = k
    · subst hp; rw [if_pos rfl, if_neg (by omega), if_pos (by omega)]
    · rw [if_neg hp]
      by_cases h2 : p < k
      · rw [if_pos h2, if_pos (by omega)]
      · rw [if_neg h2, if_neg (by omega)]
def jF (s c : List UInt64) : List UInt64 := jk s c c.length
theorem gD_jF (s c : List UInt64) (p : Nat) : gD (jF s c) p = mx (gD s p) (gD c p) := by
  unfold jF
  rw [gD_jk]
  by_cases h : p < c.length
  · rw [if_pos h]
  · rw [if_neg h, gD_ge (l := c) (by omega), mx_zero]
theorem foldF_gD : ∀ (ls : List (List UInt64)) (s t : List UInt64), (∀ p, gD s p = gD t p) → ∀ p, gD (ls.foldl jF s) p = gD (ls.foldl vTake t) p
  | [], _, _, h, p => h p
  | c :: ls, s, t, h, p => foldF_gD ls (jF s c) (vTake t c) (fun p => by rw [gD_jF, gD_vTake, h]) p
theorem foldF_trim (ls : List (List UInt64)) : vTrim (ls.foldl jF []) = vJoin ls := by
  rw [trim_congr (foldF_gD ls [] [] fun _ => rfl)]
  exact trim_self (vJoin_trimmed ls)
theorem foldF_length : ∀ (ls : List (List UInt64)) (s : List UInt64) (B : Nat), s.length ≤ B → (∀ c ∈ ls, c.length ≤ B) → (ls.foldl jF s).length ≤ B
  | [], _, _, h, _ => h
  | c :: ls, s, B, h, hc => foldF_length ls (jF s c) B (by unfold jF; rw [jk_length]; have := hc c (by simp); omega) fun d hd => hc d (by simp [hd])
theorem foldF_snoc (s : List UInt64) (ls : List (List UInt64)) (k : Nat) (h : k < ls.length) : (ls.take (k + 1)).foldl jF s = jF ((ls.take k).foldl jF s) (ls.getD k []) := by
  rw [List.take_succ_eq_append_getElem h, List.foldl_append]
  simp [h]
end Go.Proofs.YtcimppggemdidaaDoor
