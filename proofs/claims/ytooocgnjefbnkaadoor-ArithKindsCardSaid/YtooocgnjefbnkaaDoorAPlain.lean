/- What is reckoned with two words, as plain functions on numbers; nothing of the program. -/
namespace Go.Proofs.YtooocgnjefbnkaaDoor

/-- What a kind makes of two words. -/
def doN : Nat → Nat → Nat → Nat
  | 1, a, b => (a + b) % 4294967296
  | 2, a, b => (a + (4294967296 - b)) % 4294967296
  | 3, a, b => a * b % 4294967296
  | 4, a, b => a / b
  | 5, a, b => a % b
  | 6, a, b => a &&& b
  | 7, a, b => a ||| b
  | 8, a, b => a ^^^ b
  | 9, a, b => a * 2 ^ (b % 32) % 4294967296
  | 10, a, b => a / 2 ^ (b % 32)
  | 11, a, b => if a < b then 1 else 0
  | 12, a, b => if a = b then 1 else 0
  | _, _, _ => 0
/-- A kind that divides, by nothing. -/
def byNone (k b : Nat) : Bool := b == 0 && (k == 4 || k == 5)
def isKind (x : Int) : Prop := 1 ≤ x ∧ x ≤ 12

theorem doN_lt {k a b : Nat} (ha : a < 4294967296) (hb : b < 4294967296) (hz : byNone k b = false) : doN k a b < 4294967296 := by
  unfold doN
  split
  · omega
  · omega
  · omega
  · exact Nat.lt_of_le_of_lt (Nat.div_le_self _ _) ha
  · exact Nat.lt_of_le_of_lt (Nat.mod_le _ _) ha
  · exact Nat.lt_of_le_of_lt Nat.and_le_left ha
  · exact Nat.or_lt_two_pow (n := 32) ha hb
  · exact Nat.xor_lt_two_pow (n := 32) ha hb
  · omega
  · exact Nat.lt_of_le_of_lt (Nat.div_le_self _ _) ha
  · split <;> omega
  · split <;> omega
  · omega
end Go.Proofs.YtooocgnjefbnkaaDoor
