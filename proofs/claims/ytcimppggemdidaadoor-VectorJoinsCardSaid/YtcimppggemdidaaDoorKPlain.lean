/- Plain functions on numbers and bytes that say what package epoch answers; nothing of the program. -/
import Derived.Lib.ParseIntBCases
import Derived.Lib.ItoaNum
import Derived.Lib.IndexMore
namespace Go.Proofs.YtcimppggemdidaaDoor
open Go.Lib

/-- An epoch's text: both numbers' digits, an @ between them. -/
def txtE (e : Nat) : List UInt8 := decDigits (e / 281474976710656) ++ 64 :: decDigits (e % 281474976710656)

theorem dec_step (P : Nat → Prop) (h1 : ∀ n, n < 10 → P n) (h2 : ∀ n, ¬ n < 10 → P (n / 10) → P n) (n : Nat) : P n := by
  induction n using Nat.strongRecOn with
  | _ n ih =>
    by_cases h : n < 10
    · exact h1 n h
    · exact h2 n h (ih _ (by omega))

theorem dec_small {n : Nat} (h : n < 10) : decDigits n = [UInt8.ofNat (48 + n)] := by rw [decDigits, dif_pos h]
theorem dec_big {n : Nat} (h : ¬ n < 10) : decDigits n = decDigits (n / 10) ++ [UInt8.ofNat (48 + n % 10)] := by rw [decDigits, dif_neg h]
theorem digit_val {d : Nat} (h : d < 10) : (UInt8.ofNat (48 + d)).toNat = 48 + d := by rw [UInt8.toNat_ofNat']; omega

theorem dec_digit (n : Nat) : ∀ c ∈ decDigits n, 48 ≤ c.toNat ∧ c.toNat ≤ 57 := by
  induction n using dec_step with
  | h1 n h => rw [dec_small h]; intro c hc; simp only [List.mem_singleton] at hc; subst hc; rw [digit_val h]; omega
  | h2 n h ih =>
    rw [dec_big h]; intro c hc
    rcases List.mem_append.1 hc with hc | hc
    · exact ih c hc
    · simp only [List.mem_singleton] at hc; subst hc; rw [digit_val (by omega)]; omega
theorem dec_ne (n : Nat) : decDigits n ≠ [] := by
  intro h
  have := decDigits_length n
  rw [h] at this
  have := nDigits_pos n
  simp at *; omega

theorem parseM_append (M : Nat) : ∀ (l r : List UInt8) (acc a : Nat), parseUintM M acc l = .ok a → parseUintM M acc (l ++ r) = parseUintM M a r
  | [], r, acc, a, h => by simp only [parseUintM] at h; injection h with h; subst h; rfl
  | c :: l, r, acc, a, h => by
    simp only [List.cons_append, parseUintM] at h ⊢
    split
    · rename_i h1
      rw [if_pos h1] at h
      split
      · rename_i h2; rw [if_pos h2] at h; cases h
      · rename_i h2
        rw [if_neg h2] at h
        split
        · rename_i h3; rw [if_pos h3] at h; cases h
        · rename_i h3; rw [if_neg h3] at h; exact parseM_append M l r _ a h
    · rename_i h1; rw [if_neg h1] at h; cases h
theorem parseM_dec (n : Nat) : n < 18446744073709551616 → parseUintM 18446744073709551615 0 (decDigits n) = .ok n := by
  induction n using dec_step with
  | h1 n h =>
    intro _
    rw [dec_small h]
    simp only [parseUintM, digit_val h]
    rw [if_pos (by omega), if_neg (by omega), if_neg (by omega)]
    congr 1; omega
  | h2 n h ih =>
    intro hn
    rw [dec_big h, parseM_append _ _ _ _ _ (ih (by omega))]
    simp only [parseUintM, digit_val (show n % 10 < 10 by omega)]
    rw [if_pos (by omega), if_neg (by omega), if_neg (by omega)]
    congr 1; omega
/-- What is told is read. -/
theorem parse_dec (n : Nat) (h : n < 18446744073709551616) : parseUintB 64 (decDigits n) = .ok n := by
  unfold parseUintB
  rw [if_neg (dec_ne n)]
  exact parseM_dec n h

/-- The document's way to read digits. -/
def dgsF (acc : Nat) : List UInt8 → Option Nat
  | [] => some acc
  | c :: r => if 48 ≤ c.toNat ∧ c.toNat ≤ 57 ∧ acc ≤ 281474976710655 then dgsF (10 * acc + (c.toNat - 48)) r else none
def dgs (l : List UInt8) : Option Nat := if l = [] then none else dgsF 0 l
theorem dgsF_append : ∀ (l r : List UInt8) (acc a : Nat), dgsF acc l = some a → dgsF acc (l ++ r) = dgsF a r
  | [], r, acc, a, h => by simp only [dgsF] at h; injection h with h; subst h; rfl
  | c :: l, r, acc, a, h => by
    simp only [List.cons_append, dgsF] at h ⊢
    split
    · rename_i h1; rw [if_pos h1] at h; exact dgsF_append l r _ a h
    · rename_i h1; rw [if_neg h1] at h; cases h
theorem dgsF_dec (n : Nat) : n ≤ 281474976710655 → dgsF 0 (decDigits n) = some n := by
  induction n using dec_step with
  | h1 n h =>
    intro _
    rw [dec_small h]
    simp only [dgsF, digit_val h]
    rw [if_pos (by omega)]
    congr 1; omega
  | h2 n h ih =>
    intro hn
    rw [dec_big h, dgsF_append _ _ _ _ (ih (by omega))]
    simp only [dgsF, digit_val (show n % 10 < 10 by omega)]
    rw [if_pos (by omega)]
    congr 1; omega
theorem dgs_dec (n : Nat) (h : n ≤ 281474976710655) : dgs (decDigits n) = some n := by
  unfold dgs; rw [if_neg (dec_ne n)]; exact dgsF_dec n h
theorem dgsF_bound : ∀ (l : List UInt8) (acc a : Nat), acc ≤ 2814749767106559 → dgsF acc l = some a → a ≤ 2814749767106559
  | [], acc, a, h, e => by simp only [dgsF] at e; injection e with e; omega
  | c :: r, acc, a, h, e => by
    simp only [dgsF] at e
    split at e
    · exact dgsF_bound r _ a (by omega) e
    · cases e
theorem dgs_bound {l : List UInt8} {a : Nat} (h : dgs l = some a) : a ≤ 2814749767106559 := by
  unfold dgs at h
  split at h
  · cases h
  · exact dgsF_bound l 0 a (by omega) h

theorem dec_inj {m n : Nat} (hm : m < 18446744073709551616) (hn : n < 18446744073709551616) (h : decDigits m = decDigits n) : m = n := by
  have h1 := parse_dec m hm
  rw [h, parse_dec n hn] at h1
  injection h1 with h1
  exact h1.symm

/-- Behind what has no @ the first @ stands. -/
theorem index_at : ∀ (a b : List UInt8), (∀ c ∈ a, c ≠ 64) → index (a ++ 64 :: b) [64] = a.length
  | [], b, _ => by simp [index, List.isPrefixOf]
  | c :: a, b, h => by
    have ih := index_at a b (fun x hx => h x (by simp [hx]))
    have hc : c ≠ 64 := h c (by simp)
    have e : ([64] : List UInt8).isPrefixOf (c :: (a ++ 64 :: b)) = false := by simp [List.isPrefixOf, Ne.symm hc]
    simp only [List.cons_append, index, e, ih, List.length_cons]
    have h2 : ((a.length : Int) == -1) = false := by simp
    simp [h2]
theorem cut_at (a b : List UInt8) (h : ∀ c ∈ a, c ≠ 64) : cut (a ++ 64 :: b) [64] = (a, b, true) := by
  unfold cut
  rw [index_at a b h, if_pos (by omega)]
  have e1 : ((a.length : Int)).toNat = a.length := by omega
  rw [e1, List.length_singleton, ← List.drop_drop, List.drop_left]
  simp
theorem dec_no_at (n : Nat) : ∀ c ∈ decDigits n, c ≠ 64 := fun c hc e => by
  have := dec_digit n c hc
  subst e
  have : (64 : UInt8).toNat = 64 := rfl
  omega
theorem cut_txt (e : Nat) : cut (txtE e) [64] = (decDigits (e / 281474976710656), decDigits (e % 281474976710656), true) := cut_at _ _ (dec_no_at _)

theorem txt_inj {m n : Nat} (hm : m < 18446744073709551616) (hn : n < 18446744073709551616) (h : txtE m = txtE n) : m = n := by
  have h1 := cut_txt m
  rw [h, cut_txt n] at h1
  injection h1 with h1 h2
  injection h2 with h2 h3
  have := dec_inj (by omega) (by omega) h1
  have := dec_inj (by omega) (by omega) h2
  omega

theorem nDigits_le (k : Nat) : ∀ n, n < 10 ^ (k + 1) → nDigits n ≤ k + 1 := by
  induction k with
  | zero => intro n h; rw [nDigits_small (by simpa using h)]; omega
  | succ k ih =>
    intro n h
    by_cases hn : n < 10
    · rw [nDigits_small hn]; omega
    · rw [nDigits_big hn]
      have := ih (n / 10) (by rw [Nat.div_lt_iff_lt_mul (by decide)]; rwa [Nat.pow_succ] at h)
      omega
theorem dec_le20 (n : Nat) (h : n < 18446744073709551616) : (decDigits n).length ≤ 20 := by
  rw [decDigits_length]
  exact nDigits_le 19 n (by have : (10 : Nat) ^ (19 + 1) = 100000000000000000000 := by decide
                            omega)
theorem txt_le (e : Nat) (h : e < 18446744073709551616) : (txtE e).length ≤ 41 := by
  unfold txtE
  have h1 := dec_le20 (e / 281474976710656) (by omega)
  have h2 := dec_le20 (e % 281474976710656) (by omega)
  simp only [List.length_append, List.length_cons]
  omega
theorem txt_pos (e : Nat) : txtE e ≠ [] := by unfold txtE; simp
end Go.Proofs.YtcimppggemdidaaDoor
