/- Plain functions on bytes that say what package octet answers, and what follows of them; nothing of the program. -/
namespace Go.Proofs.YtoeoeeomnbggkaaGreatDoor

/-- A number of 64 bits (behind a name). -/
def U64 (n : Nat) : Prop := n < 18446744073709551616

/-- The lowest k bytes of a number, the lowest one first. -/
def leB : Nat → Nat → List UInt8
  | 0, _ => []
  | k + 1, n => UInt8.ofNat n :: leB k (n / 256)
/-- The number that stands as these bytes. -/
def unB : List UInt8 → Nat
  | [] => 0
  | b :: r => b.toNat + 256 * unB r

theorem leB_length : ∀ k n, (leB k n).length = k
  | 0, _ => rfl
  | k + 1, n => by simp [leB, leB_length k]
theorem unB_leB : ∀ k n, unB (leB k n) = n % 256 ^ k
  | 0, n => by simp [leB, unB, Nat.mod_one]
  | k + 1, n => by
    have e : (UInt8.ofNat n).toNat = n % 256 := UInt8.toNat_ofNat'
    simp only [leB, unB, unB_leB k]
    rw [e, Nat.pow_succ', Nat.mod_mul]
theorem unB_lt : ∀ l, unB l < 256 ^ l.length
  | [] => by simp [unB]
  | b :: r => by
    have := unB_lt r
    have hb := b.toNat_lt
    simp only [unB, List.length_cons, Nat.pow_succ]
    omega
theorem leB_snoc : ∀ k n, leB (k + 1) n = leB k n ++ [UInt8.ofNat (n / 256 ^ k)]
  | 0, n => by simp [leB]
  | k + 1, n => by
    rw [leB, leB_snoc k, leB, List.cons_append, Nat.div_div_eq_div_mul, Nat.pow_succ, Nat.mul_comm 256]
theorem unB_snoc : ∀ l (b : UInt8), unB (l ++ [b]) = unB l + 256 ^ l.length * b.toNat
  | [], b => by simp [unB]
  | c :: l, b => by
    simp only [List.cons_append, unB, unB_snoc l, List.length_cons, Nat.pow_succ']
    rw [Nat.mul_add, Nat.add_assoc, ← Nat.mul_assoc]
theorem unB_append : ∀ l m, unB (l ++ m) = unB l + 256 ^ l.length * unB m
  | [], m => by simp [unB]
  | c :: l, m => by
    simp only [List.cons_append, unB, unB_append l, List.length_cons, Nat.pow_succ']
    rw [Nat.mul_add, Nat.add_assoc, ← Nat.mul_assoc]

/-- A number's bytes: groups of seven bits. -/
def numB (n : Nat) : List UInt8 :=
  if n < 128 then [UInt8.ofNat n] else UInt8.ofNat (n % 128 + 128) :: numB (n / 128)
termination_by n
decreasing_by omega

/-- What is read of bytes behind k groups that came to acc: the number, how many bytes, the error's number. -/
def rdF (k acc : Nat) : List UInt8 → Nat × Nat × Int
  | [] => (0, 0, 110)
  | b :: r =>
    if (0 < k ∧ b.toNat = 0) ∨ (k = 9 ∧ 1 < b.toNat) then (0, 0, 111)
    else if b.toNat < 128 then (acc + b.toNat * 128 ^ k, k + 1, 0)
    else rdF (k + 1) (acc + b.toNat % 128 * 128 ^ k) r
def rdN (l : List UInt8) : Nat × Nat × Int := rdF 0 0 l

theorem numB_lt {n : Nat} (h : n < 128) : numB n = [UInt8.ofNat n] := by rw [numB, if_pos h]
theorem numB_ge {n : Nat} (h : ¬ n < 128) : numB n = UInt8.ofNat (n % 128 + 128) :: numB (n / 128) := by rw [numB, if_neg h]
theorem numB_pos (n : Nat) : 0 < (numB n).length := by
  by_cases h : n < 128
  · rw [numB_lt h]; simp
  · rw [numB_ge h]; simp

theorem numB_length : ∀ (k n : Nat), n < 128 ^ (k + 1) → (numB n).length ≤ k + 1
  | 0, n, h => by rw [numB_lt (by simpa using h)]; simp
  | k + 1, n, h => by
    by_cases hn : n < 128
    · rw [numB_lt hn]; simp
    · rw [numB_ge hn]
      have := numB_length k (n / 128) (by rw [Nat.div_lt_iff_lt_mul (by decide)]; rwa [Nat.pow_succ] at h)
      simp only [List.length_cons]; omega
theorem numB_length10 {n : Nat} (h : n < 18446744073709551616) : (numB n).length ≤ 10 := numB_length 9 n (by
  have : (128 : Nat) ^ (9 + 1) = 1180591620717411303424 := by decide
  omega)

/-- What was told is read. -/
theorem rdF_numB : ∀ (d n k acc : Nat) (r : List UInt8), k + d = 9 → n * 128 ^ k < 18446744073709551616 → (0 < k → 0 < n) →
    rdF k acc (numB n ++ r) = (acc + n * 128 ^ k, k + (numB n).length, 0) := by
  intro d
  induction d with
  | zero =>
    intro n k acc r hk hn hp
    obtain rfl : k = 9 := by omega
    have e : (128 : Nat) ^ 9 = 9223372036854775808 := by decide
    have h2 : n < 2 := by rw [e] at hn; omega
    have h0 : 0 < n := hp (by omega)
    obtain rfl : n = 1 := by omega
    rw [numB_lt (by decide)]
    simp [rdF]
  | succ d ih =>
    intro n k acc r hk hn hp
    by_cases h : n < 128
    · rw [numB_lt h]
      have hb : (UInt8.ofNat n).toNat = n := by rw [UInt8.toNat_ofNat']; omega
      simp only [List.cons_append, List.nil_append, rdF, hb, List.length_cons, List.length_nil]
      rw [if_neg (by omega), if_pos h]
    · rw [numB_ge h]
      have hb : (UInt8.ofNat (n % 128 + 128)).toNat = n % 128 + 128 := by rw [UInt8.toNat_ofNat']; omega
      simp only [List.cons_append, rdF, hb, List.length_cons]
      rw [if_neg (by omega), if_neg (by omega)]
      have e : (n % 128 + 128) % 128 = n % 128 := by omega
      rw [e, ih (n / 128) (k + 1) _ r (by omega) _ (by omega)]
      · have e2 : acc + n % 128 * 128 ^ k + n / 128 * 128 ^ (k + 1) = acc + n * 128 ^ k := by
          rw [Nat.pow_succ, Nat.mul_comm (128 ^ k) 128, ← Nat.mul_assoc, Nat.add_assoc, ← Nat.add_mul]
          congr 2; omega
        rw [e2]
        congr 2; omega
      · have : n / 128 * 128 ^ (k + 1) ≤ n * 128 ^ k := by
          rw [Nat.pow_succ, Nat.mul_comm (128 ^ k) 128, ← Nat.mul_assoc]
          exact Nat.mul_le_mul_right _ (by omega)
        omega
theorem rdN_numB (n : Nat) (r : List UInt8) (h : n < 18446744073709551616) : rdN (numB n ++ r) = (n, (numB n).length, 0) := by
  unfold rdN
  rw [rdF_numB 9 n 0 0 r (by omega) (by simpa using h) (by omega)]
  simp

/-- What is told of what was read is what was read. -/
theorem rdF_back : ∀ (l : List UInt8) (k acc n m : Nat), k ≤ 9 → rdF k acc l = (n, m, 0) →
    ∃ d, m = k + d ∧ d ≤ l.length ∧ 0 < d ∧ ∃ x, n = acc + x * 128 ^ k ∧ l.take d = numB x ∧ (0 < k → 0 < x) ∧ (acc < 128 ^ k → n < 18446744073709551616) := by
  intro l
  induction l with
  | nil => intro k acc n m _ h; simp [rdF] at h
  | cons b r ih =>
    intro k acc n m hk h
    rw [rdF] at h
    have hb8 := b.toNat_lt
    by_cases h1 : (0 < k ∧ b.toNat = 0) ∨ (k = 9 ∧ 1 < b.toNat)
    · rw [if_pos h1] at h; simp at h
    · rw [if_neg h1] at h
      by_cases h2 : b.toNat < 128
      · rw [if_pos h2] at h
        simp only [Prod.mk.injEq, and_true] at h
        obtain ⟨rfl, rfl⟩ := h
        refine ⟨1, rfl, by simp, by omega, b.toNat, rfl, ?_, by omega, ?_⟩
        · rw [numB_lt h2]; simp
        · intro ha
          have hle : b.toNat ≤ 127 ∧ (k = 9 → b.toNat ≤ 1) := by omega
          rcases Nat.lt_or_ge k 9 with h9 | h9
          · have e : acc + b.toNat * 128 ^ k < 128 ^ (k + 1) := by
              rw [Nat.pow_succ]
              have : b.toNat * 128 ^ k ≤ 127 * 128 ^ k := Nat.mul_le_mul_right _ hle.1
              omega
            have e2 : 128 ^ (k + 1) ≤ 128 ^ 9 := Nat.pow_le_pow_right (by decide) (by omega)
            have e3 : (128 : Nat) ^ 9 = 9223372036854775808 := by decide
            omega
          · obtain rfl : k = 9 := by omega
            have e3 : (128 : Nat) ^ 9 = 9223372036854775808 := by decide
            rw [e3] at ha ⊢
            have := hle.2 rfl
            omega
      · rw [if_neg h2] at h
        have hk9 : k ≠ 9 := by rintro rfl; exact h1 (.inr ⟨rfl, by omega⟩)
        obtain ⟨d, e1, e2, e3, x, e4, e5, e6, e7⟩ := ih (k + 1) _ n m (by omega) h
        refine ⟨d + 1, by omega, by simp; omega, by omega, b.toNat % 128 + 128 * x, ?_, ?_, by omega, ?_⟩
        · rw [e4, Nat.pow_succ, Nat.add_mul, Nat.mul_comm (128 ^ k) 128, Nat.mul_assoc 128 x, Nat.mul_left_comm x 128]
          omega
        · have hx := e6 (by omega)
          rw [numB_ge (by omega)]
          have a1 : (b.toNat % 128 + 128 * x) % 128 + 128 = b.toNat := by omega
          have a2 : (b.toNat % 128 + 128 * x) / 128 = x := by omega
          rw [a1, a2, List.take_succ_cons, e5]
          simp
        · intro ha
          apply e7
          rw [Nat.pow_succ]
          have : b.toNat % 128 * 128 ^ k ≤ 127 * 128 ^ k := Nat.mul_le_mul_right _ (by omega)
          omega
theorem rdN_back {l : List UInt8} {n m : Nat} (h : rdN l = (n, m, 0)) : m ≤ l.length ∧ 0 < m ∧ l.take m = numB n ∧ n < 18446744073709551616 := by
  obtain ⟨d, e1, e2, e3, x, e4, e5, _, e7⟩ := rdF_back l 0 0 n m (by omega) h
  obtain rfl : m = d := by omega
  obtain rfl : n = x := by simpa using e4
  exact ⟨e2, e3, e5, e7 (by simp)⟩

/-- What is none leaves the number and the count at zero; the error is one of three. -/
theorem rdF_cases : ∀ (l : List UInt8) (k acc : Nat), (rdF k acc l).2.2 = 0 ∨ rdF k acc l = (0, 0, 110) ∨ rdF k acc l = (0, 0, 111)
  | [], k, acc => by simp [rdF]
  | b :: r, k, acc => by
    rw [rdF]
    split
    · simp
    · split
      · simp
      · exact rdF_cases r _ _
theorem rdN_cases (l : List UInt8) : (∃ n m, rdN l = (n, m, 0)) ∨ rdN l = (0, 0, 110) ∨ rdN l = (0, 0, 111) := by
  rcases rdF_cases l 0 0 with h | h | h
  · exact .inl ⟨(rdN l).1, (rdN l).2.1, by rw [← h]; rfl⟩
  · exact .inr (.inl h)
  · exact .inr (.inr h)

/-- A text's bytes; what is read of one. -/
def txtB (s : List UInt8) : List UInt8 := numB s.length ++ s
def rdT (l : List UInt8) : List UInt8 × Nat × Int :=
  if (rdN l).2.2 ≠ 0 then ([], 0, (rdN l).2.2)
  else if l.length - (rdN l).2.1 < (rdN l).1 then ([], 0, 110)
  else ((l.drop (rdN l).2.1).take (rdN l).1, (rdN l).2.1 + (rdN l).1, 0)
theorem rdT_txtB (s r : List UInt8) (h : s.length < 18446744073709551616) : rdT (txtB s ++ r) = (s, (txtB s).length, 0) := by
  unfold rdT txtB
  rw [List.append_assoc, rdN_numB _ _ h]
  simp only [ne_eq, not_true_eq_false, if_false, List.length_append, List.drop_left]
  rw [if_neg (by omega), List.take_left]

/-- No number's bytes begin another one's. -/
theorem numB_free {m n : Nat} (hm : m < 18446744073709551616) (hn : n < 18446744073709551616) {r : List UInt8} (h : numB m ++ r = numB n) : m = n := by
  have e1 := rdN_numB m r hm
  have e2 := rdN_numB n [] hn
  rw [List.append_nil, ← h, e1] at e2
  simp only [Prod.mk.injEq] at e2
  exact e2.1
theorem numB_inj {m n : Nat} (hm : m < 18446744073709551616) (hn : n < 18446744073709551616) (h : numB m = numB n) : m = n :=
  numB_free hm hn (r := []) (by rw [List.append_nil]; exact h)
end Go.Proofs.YtoeoeeomnbggkaaGreatDoor
