/- A sum of 64 bits over bytes, as plain functions, and what follows of them; nothing of the program. -/
import Derived.Test.YtleihmmkonakhaaDoorPlain
namespace Go.Proofs.YtleihmmkonakhaaDoor

/-- All bits go one place down; the laid number comes onto them where a 1 went out. -/
def dn (x : Nat) : Nat := if x % 2 = 1 then (x / 2) ^^^ 14514072000185962306 else x / 2
def dnK : Nat → Nat → Nat
  | 0, x => x
  | k + 1, x => dnK k (dn x)
/-- A byte is taken in. -/
def byS (s : Nat) (b : UInt8) : Nat := dnK 8 (s ^^^ b.toNat)
def foldS (s : Nat) (l : List UInt8) : Nat := l.foldl byS s
def all1 : Nat := 18446744073709551615
/-- The bits of a sum behind all that was written. -/
def bitsS (l : List UInt8) : Nat := foldS all1 l
/-- The sum. -/
def sumS (l : List UInt8) : Nat := all1 - bitsS l

theorem xor_right {a b c : Nat} (h : a ^^^ c = b ^^^ c) : a = b := by
  have h1 := congrArg (· ^^^ c) h
  simpa [Nat.xor_assoc] using h1
theorem xor_left {a b c : Nat} (h : c ^^^ a = c ^^^ b) : a = b := by
  rw [Nat.xor_comm c, Nat.xor_comm c] at h
  exact xor_right h
theorem dn_lt {x : Nat} (h : x < 18446744073709551616) : dn x < 18446744073709551616 := by
  unfold dn
  split
  · exact Nat.xor_lt_two_pow (n := 64) (by omega) (by omega)
  · omega
theorem dnK_lt : ∀ (k : Nat) {x : Nat}, x < 18446744073709551616 → dnK k x < 18446744073709551616
  | 0, _, h => h
  | k + 1, _, h => dnK_lt k (dn_lt h)
theorem dnK_snoc : ∀ (k x : Nat), dnK (k + 1) x = dn (dnK k x)
  | 0, _ => rfl
  | k + 1, x => dnK_snoc k (dn x)
theorem byS_lt {s : Nat} (b : UInt8) (h : s < 18446744073709551616) : byS s b < 18446744073709551616 :=
  dnK_lt 8 (Nat.xor_lt_two_pow (n := 64) h (Nat.lt_trans b.toNat_lt (by decide)))
theorem foldS_lt : ∀ (l : List UInt8) {s : Nat}, s < 18446744073709551616 → foldS s l < 18446744073709551616
  | [], _, h => h
  | b :: l, _, h => foldS_lt l (byS_lt b h)
theorem all1_lt : all1 < 18446744073709551616 := by unfold all1; omega
theorem bitsS_lt (l : List UInt8) : bitsS l < 18446744073709551616 := foldS_lt l all1_lt
theorem foldS_append (s : Nat) (l m : List UInt8) : foldS s (l ++ m) = foldS (foldS s l) m := List.foldl_append
theorem foldS_snoc (s : Nat) (l : List UInt8) (b : UInt8) : foldS s (l ++ [b]) = byS (foldS s l) b := by rw [foldS_append]; rfl
theorem bitsS_append (l m : List UInt8) : bitsS (l ++ m) = foldS (bitsS l) m := foldS_append _ _ _

theorem dn_xor (x y : Nat) : dn (x ^^^ y) = dn x ^^^ dn y := by
  have h2 : (x ^^^ y) / 2 = (x / 2) ^^^ (y / 2) := Nat.xor_div_two
  have h1 : (x ^^^ y) % 2 = (x % 2 + y % 2) % 2 := by
    have h := Nat.xor_mod_two_pow (a := x) (b := y) (n := 1)
    rw [Nat.pow_one] at h
    rw [h]
    rcases Nat.mod_two_eq_zero_or_one x with hx | hx <;> rcases Nat.mod_two_eq_zero_or_one y with hy | hy <;> rw [hx, hy] <;> decide
  unfold dn
  rw [h2, h1]
  rcases Nat.mod_two_eq_zero_or_one x with hx | hx <;> rcases Nat.mod_two_eq_zero_or_one y with hy | hy <;> simp only [hx, hy]
  · simp
  · simp [Nat.xor_assoc]
  · simp only [reduceIte, Nat.zero_ne_one]
    rw [Nat.xor_assoc, Nat.xor_assoc, Nat.xor_comm (y / 2)]
  · simp
    rw [Nat.xor_assoc, ← Nat.xor_assoc 14514072000185962306, Nat.xor_comm 14514072000185962306, Nat.xor_assoc (y / 2), Nat.xor_self, Nat.xor_zero]
theorem dnK_xor : ∀ (k x y : Nat), dnK k (x ^^^ y) = dnK k x ^^^ dnK k y
  | 0, _, _ => rfl
  | k + 1, x, y => by rw [dnK, dn_xor, dnK_xor k]; rfl
theorem dn_even (x : Nat) : dn (2 * x) = x := by unfold dn; rw [if_neg (by omega)]; omega
theorem dnK_low : ∀ (k x : Nat), dnK k (2 ^ k * x) = x
  | 0, x => by simp [dnK]
  | k + 1, x => by
    rw [dnK, show 2 ^ (k + 1) * x = 2 * (2 ^ k * x) by rw [Nat.pow_succ']; rw [Nat.mul_assoc], dn_even]
    exact dnK_low k x
/-- A byte by the table: what its eight bits come to, laid on what stood above them. -/
theorem byS_tab (s : Nat) (b : UInt8) : byS s b = dnK 8 ((s % 256) ^^^ b.toNat) ^^^ (s / 256) := by
  have e : s ^^^ b.toNat = ((s % 256) ^^^ b.toNat) ^^^ (2 ^ 8 * (s / 256)) := by
    have h : s = (s % 256) ^^^ (2 ^ 8 * (s / 256)) := by
      apply Nat.eq_of_testBit_eq
      intro i
      rw [Nat.testBit_xor, show (256 : Nat) = 2 ^ 8 by decide, Nat.testBit_mod_two_pow, Nat.testBit_two_pow_mul, Nat.testBit_div_two_pow]
      by_cases hi : i < 8
      · simp [hi, Nat.not_le.2 hi]
      ·
        simp [hi, Nat.le_of_not_lt hi]
    conv => lhs; rw [h]
    rw [Nat.xor_assoc, Nat.xor_assoc, Nat.xor_comm b.toNat]
  unfold byS
  rw [e, dnK_xor, dnK_low]

/-- Unlike bits stay unlike. -/
theorem dn_inj {x y : Nat} (hx : x < 18446744073709551616) (hy : y < 18446744073709551616) (h : dn x = dn y) : x = y := by
  have top : ∀ z, z < 18446744073709551616 → (dn z).testBit 63 = decide (z % 2 = 1) := by
    intro z hz
    have h63 : (z / 2).testBit 63 = false := Nat.testBit_lt_two_pow (by omega)
    have hL : (14514072000185962306 : Nat).testBit 63 = true := by decide
    unfold dn
    split
    · rename_i hz1; rw [Nat.testBit_xor, h63, hL]; simp [hz1]
    · rename_i hz1; rw [h63]; simp [hz1]
  have h1 := top x hx
  have h2 := top y hy
  rw [h] at h1
  have h3 : decide (x % 2 = 1) = decide (y % 2 = 1) := h1.symm.trans h2
  have hm : x % 2 = y % 2 := by
    rw [decide_eq_decide] at h3
    omega
  unfold dn at h
  rw [hm] at h
  split at h
  · have : x / 2 = y / 2 := xor_right h
    omega
  · omega
theorem dnK_inj : ∀ (k : Nat) {x y : Nat}, x < 18446744073709551616 → y < 18446744073709551616 → dnK k x = dnK k y → x = y
  | 0, _, _, _, _, h => h
  | k + 1, _, _, hx, hy, h => dn_inj hx hy (dnK_inj k (dn_lt hx) (dn_lt hy) h)
theorem byS_inj {s t : Nat} (b : UInt8) (hs : s < 18446744073709551616) (ht : t < 18446744073709551616) (h : byS s b = byS t b) : s = t := by
  have hb : b.toNat < 2 ^ 64 := Nat.lt_trans b.toNat_lt (by decide)
  exact xor_right (dnK_inj 8 (Nat.xor_lt_two_pow (n := 64) hs hb) (Nat.xor_lt_two_pow (n := 64) ht hb) h)
theorem byS_inj2 {s : Nat} {b c : UInt8} (hs : s < 18446744073709551616) (h : byS s b = byS s c) : b = c := by
  have hb : b.toNat < 2 ^ 64 := Nat.lt_trans b.toNat_lt (by decide)
  have hc : c.toNat < 2 ^ 64 := Nat.lt_trans c.toNat_lt (by decide)
  exact UInt8.toNat.inj (xor_left (dnK_inj 8 (Nat.xor_lt_two_pow (n := 64) hs hb) (Nat.xor_lt_two_pow (n := 64) hs hc) h))
theorem foldS_inj : ∀ (l : List UInt8) {s t : Nat}, s < 18446744073709551616 → t < 18446744073709551616 → foldS s l = foldS t l → s = t
  | [], _, _, _, _, h => h
  | b :: l, _, _, hs, ht, h => byS_inj b hs ht (foldS_inj l (byS_lt b hs) (byS_lt b ht) h)
/-- Bytes that differ in one byte have unlike sums. -/
theorem sumS_ne (l : List UInt8) (i : Nat) (hi : i < l.length) (b : UInt8) (hb : b ≠ l.getD i 0) : sumS l ≠ sumS (l.set i b) := by
  intro h
  have h1 := bitsS_lt l
  have h2 := bitsS_lt (l.set i b)
  have h3 : bitsS l = bitsS (l.set i b) := by
    unfold sumS all1 at h
    omega
  have e1 : l = l.take i ++ l.getD i 0 :: l.drop (i + 1) := by
    conv => lhs; rw [← List.take_append_drop i l]
    rw [List.drop_eq_getElem_cons hi]
    simp [hi]
  have e2 : l.set i b = l.take i ++ b :: l.drop (i + 1) := List.set_eq_take_append_cons_drop.trans (by rw [if_pos hi])
  rw [e2] at h3
  rw [e1] at h3
  unfold bitsS at h3
  have e3 : (l.take i ++ l.getD i 0 :: l.drop (i + 1)).take i = l.take i := by rw [← e1]
  have e4 : (l.take i ++ l.getD i 0 :: l.drop (i + 1)).drop (i + 1) = l.drop (i + 1) := by rw [← e1]
  rw [e3, e4, foldS_append, foldS_append] at h3
  have hs := foldS_lt (l.take i) all1_lt
  exact hb (byS_inj2 hs (foldS_inj _ (byS_lt _ hs) (byS_lt _ hs) h3)).symm

theorem sumS_nil : sumS [] = 0 := by decide
theorem sumS_row2 : sumS ([49, 50] ++ [51, 52, 53, 54, 55, 56, 57]) = 11051210869376104954 := by decide +kernel
theorem sum_cut (a b : List UInt8) : all1 - foldS (foldS all1 a) b = sumS (a ++ b) := by rw [← foldS_append]; rfl
theorem sumS_row : sumS [49, 50, 51, 52, 53, 54, 55, 56, 57] = 11051210869376104954 := by decide +kernel
end Go.Proofs.YtleihmmkonakhaaDoor
