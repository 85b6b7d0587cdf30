/- Merged: Plain, Lib, Bits, Small, W1, W2, App, App2. -/
import Derived.WalkKit
import Derived.WalkSpells
import Derived.WalkLawsBesides
import Derived.Laws.AppendOwnNone
import Derived.Lib.Hide
import Derived.Test.YtbinmgpfkjmijaaGreatDoorRows
import Derived.Lib.LaidTab
namespace Go.Proofs.YtbinmgpfkjmijaaGreatDoor

/-- A number of 64 bits (behind a name). -/
def U64 (n : Nat) : Prop := n < 18446744073709551616

/-- The lowest k bytes of a number, the lowest one first. -/
def leB : Nat → Nat → List UInt8
  | 0, _ => []
  | k + 1, n => UInt8.ofNat n :: leB k (n / 256)
/-- The number that stands as these bytes. -/
def unB : List UInt8 → Nat
  | [] => 0
  | b :: r => b.toNat + 256 * unB r

theorem leB_length : ∀ k n, (leB k n).length = k
  | 0, _ => rfl
  | k + 1, n => by simp [leB, leB_length k]
theorem unB_leB : ∀ k n, unB (leB k n) = n % 256 ^ k
  | 0, n => by simp [leB, unB, Nat.mod_one]
  | k + 1, n => by
    have e : (UInt8.ofNat n).toNat = n % 256 := UInt8.toNat_ofNat'
    simp only [leB, unB, unB_leB k]
    rw [e, Nat.pow_succ', Nat.mod_mul]
theorem unB_lt : ∀ l, unB l < 256 ^ l.length
  | [] => by simp [unB]
  | b :: r => by
    have := unB_lt r
    have hb := b.toNat_lt
    simp only [unB, List.length_cons, Nat.pow_succ]
    omega
theorem leB_snoc : ∀ k n, leB (k + 1) n = leB k n ++ [UInt8.ofNat (n / 256 ^ k)]
  | 0, n => by simp [leB]
  | k + 1, n => by
    rw [leB, leB_snoc k, leB, List.cons_append, Nat.div_div_eq_div_mul, Nat.pow_succ, Nat.mul_comm 256]
theorem unB_snoc : ∀ l (b : UInt8), unB (l ++ [b]) = unB l + 256 ^ l.length * b.toNat
  | [], b => by simp [unB]
  | c :: l, b => by
    simp only [List.cons_append, unB, unB_snoc l, List.length_cons, Nat.pow_succ']
    rw [Nat.mul_add, Nat.add_assoc, ← Nat.mul_assoc]
theorem unB_append : ∀ l m, unB (l ++ m) = unB l + 256 ^ l.length * unB m
  | [], m => by simp [unB]
  | c :: l, m => by
    simp only [List.cons_append, unB, unB_append l, List.length_cons, Nat.pow_succ']
    rw [Nat.mul_add, Nat.add_assoc, ← Nat.mul_assoc]

/-- A number's bytes: groups of seven bits. -/
def numB (n : Nat) : List UInt8 :=
  if n < 128 then [UInt8.ofNat n] else UInt8.ofNat (n % 128 + 128) :: numB (n / 128)
termination_by n
decreasing_by omega

/-- What is read of bytes behind k groups that came to acc: the number, how many bytes, the error's number. -/
def rdF (k acc : Nat) : List UInt8 → Nat × Nat × Int
  | [] => (0, 0, 110)
  | b :: r =>
    if (0 < k ∧ b.toNat = 0) ∨ (k = 9 ∧ 1 < b.toNat) then (0, 0, 111)
    else if b.toNat < 128 then (acc + b.toNat * 128 ^ k, k + 1, 0)
    else rdF (k + 1) (acc + b.toNat % 128 * 128 ^ k) r
def rdN (l : List UInt8) : Nat × Nat × Int := rdF 0 0 l

theorem numB_lt {n : Nat} (h : n < 128) : numB n = [UInt8.ofNat n] := by rw [numB, if_pos h]
theorem numB_ge {n : Nat} (h : ¬ n < 128) : numB n = UInt8.ofNat (n % 128 + 128) :: numB (n / 128) := by rw [numB, if_neg h]
theorem numB_pos (n : Nat) : 0 < (numB n).length := by
  by_cases h : n < 128
  · rw [numB_lt h]; simp
  · rw [numB_ge h]; simp

theorem numB_length : ∀ (k n : Nat), n < 128 ^ (k + 1) → (numB n).length ≤ k + 1
  | 0, n, h => by rw [numB_lt (by simpa using h)]; simp
  | k + 1, n, h => by
    by_cases hn : n < 128
    · rw [numB_lt hn]; simp
    · rw [numB_ge hn]
      have := numB_length k (n / 128) (by rw [Nat.div_lt_iff_lt_mul (by decide)]; rwa [Nat.pow_succ] at h)
      simp only [List.length_cons]; omega
theorem numB_length10 {n : Nat} (h : n < 18446744073709551616) : (numB n).length ≤ 10 := numB_length 9 n (by
  have : (128 : Nat) ^ (9 + 1) = 1180591620717411303424 := by decide
  omega)

/-- What was told is read. -/
theorem rdF_numB : ∀ (d n k acc : Nat) (r : List UInt8), k + d = 9 → n * 128 ^ k < 18446744073709551616 → (0 < k → 0 < n) →
    rdF k acc (numB n ++ r) = (acc + n * 128 ^ k, k + (numB n).length, 0) := by
  intro d
  induction d with
  | zero =>
    intro n k acc r hk hn hp
    obtain rfl : k = 9 := by omega
    have e : (128 : Nat) ^ 9 = 9223372036854775808 := by decide
    have h2 : n < 2 := by rw [e] at hn; omega
    have h0 : 0 < n := hp (by omega)
    obtain rfl : n = 1 := by omega
    rw [numB_lt (by decide)]
    simp [rdF]
  | succ d ih =>
    intro n k acc r hk hn hp
    by_cases h : n < 128
    · rw [numB_lt h]
      have hb : (UInt8.ofNat n).toNat = n := by rw [UInt8.toNat_ofNat']; omega
      simp only [List.cons_append, List.nil_append, rdF, hb, List.length_cons, List.length_nil]
      rw [if_neg (by omega), if_pos h]
    · rw [numB_ge h]
      have hb : (UInt8.ofNat (n % 128 + 128)).toNat = n % 128 + 128 := by rw [UInt8.toNat_ofNat']; omega
      simp only [List.cons_append, rdF, hb, List.length_cons]
      rw [if_neg (by omega), if_neg (by omega)]
      have e : (n % 128 + 128) % 128 = n % 128 := by omega
      rw [e, ih (n / 128) (k + 1) _ r (by omega) _ (by omega)]
      · have e2 : acc + n % 128 * 128 ^ k + n / 128 * 128 ^ (k + 1) = acc + n * 128 ^ k := by
          rw [Nat.pow_succ, Nat.mul_comm (128 ^ k) 128, ← Nat.mul_assoc, Nat.add_assoc, ← Nat.add_mul]
          congr 2; omega
        rw [e2]
        congr 2; omega
      · have : n / 128 * 128 ^ (k + 1) ≤ n * 128 ^ k := by
          rw [Nat.pow_succ, Nat.mul_comm (128 ^ k) 128, ← Nat.mul_assoc]
          exact Nat.mul_le_mul_right _ (by omega)
        omega
theorem rdN_numB (n : Nat) (r : List UInt8) (h : n < 18446744073709551616) : rdN (numB n ++ r) = (n, (numB n).length, 0) := by
  unfold rdN
  rw [rdF_numB 9 n 0 0 r (by omega) (by simpa using h) (by omega)]
  simp

/-- What is told of what was read is what was read. -/
theorem rdF_back : ∀ (l : List UInt8) (k acc n m : Nat), k ≤ 9 → rdF k acc l = (n, m, 0) →
    ∃ d, m = k + d ∧ d ≤ l.length ∧ 0 < d ∧ ∃ x, n = acc + x * 128 ^ k ∧ l.take d = numB x ∧ (0 < k → 0 < x) ∧ (acc < 128 ^ k → n < 18446744073709551616) := by
  intro l
  induction l with
  | nil => intro k acc n m _ h; simp [rdF] at h
  | cons b r ih =>
    intro k acc n m hk h
    rw [rdF] at h
    have hb8 := b.toNat_lt
    by_cases h1 : (0 < k ∧ b.toNat = 0) ∨ (k = 9 ∧ 1 < b.toNat)
    · rw [if_pos h1] at h; simp at h
    · rw [if_neg h1] at h
      by_cases h2 : b.toNat < 128
      · rw [if_pos h2] at h
        simp only [Prod.mk.injEq, and_true] at h
        obtain ⟨rfl, rfl⟩ := h
        refine ⟨1, rfl, by simp, by omega, b.toNat, rfl, ?_, by omega, ?_⟩
        · rw [numB_lt h2]; simp
        · intro ha
          have hle : b.toNat ≤ 127 ∧ (k = 9 → b.toNat ≤ 1) := by omega
          rcases Nat.lt_or_ge k 9 with h9 | h9
          · have e : acc + b.toNat * 128 ^ k < 128 ^ (k + 1) := by
              rw [Nat.pow_succ]
              have : b.toNat * 128 ^ k ≤ 127 * 128 ^ k := Nat.mul_le_mul_right _ hle.1
              omega
            have e2 : 128 ^ (k + 1) ≤ 128 ^ 9 := Nat.pow_le_pow_right (by decide) (by omega)
            have e3 : (128 : Nat) ^ 9 = 9223372036854775808 := by decide
            omega
          · obtain rfl : k = 9 := by omega
            have e3 : (128 : Nat) ^ 9 = 9223372036854775808 := by decide
            rw [e3] at ha ⊢
            have := hle.2 rfl
            omega
      · rw [if_neg h2] at h
        have hk9 : k ≠ 9 := by rintro rfl; exact h1 (.inr ⟨rfl, by omega⟩)
        obtain ⟨d, e1, e2, e3, x, e4, e5, e6, e7⟩ := ih (k + 1) _ n m (by omega) h
        refine ⟨d + 1, by omega, by simp; omega, by omega, b.toNat % 128 + 128 * x, ?_, ?_, by omega, ?_⟩
        · rw [e4, Nat.pow_succ, Nat.add_mul, Nat.mul_comm (128 ^ k) 128, Nat.mul_assoc 128 x, Nat.mul_left_comm x 128]
          omega
        · have hx := e6 (by omega)
          rw [numB_ge (by omega)]
          have a1 : (b.toNat % 128 + 128 * x) % 128 + 128 = b.toNat := by omega
          have a2 : (b.toNat % 128 + 128 * x) / 128 = x := by omega
          rw [a1, a2, List.take_succ_cons, e5]
          simp
        · intro ha
          apply e7
          rw [Nat.pow_succ]
          have : b.toNat % 128 * 128 ^ k ≤ 127 * 128 ^ k := Nat.mul_le_mul_right _ (by omega)
          omega
theorem rdN_back {l : List UInt8} {n m : Nat} (h : rdN l = (n, m, 0)) : m ≤ l.length ∧ 0 < m ∧ l.take m = numB n ∧ n < 18446744073709551616 := by
  obtain ⟨d, e1, e2, e3, x, e4, e5, _, e7⟩ := rdF_back l 0 0 n m (by omega) h
  obtain rfl : m = d := by omega
  obtain rfl : n = x := by simpa using e4
  exact ⟨e2, e3, e5, e7 (by simp)⟩

/-- What is none leaves the number and the count at zero; the error is one of three. -/
theorem rdF_cases : ∀ (l : List UInt8) (k acc : Nat), (rdF k acc l).2.2 = 0 ∨ rdF k acc l = (0, 0, 110) ∨ rdF k acc l = (0, 0, 111)
  | [], k, acc => by simp [rdF]
  | b :: r, k, acc => by
    rw [rdF]
    split
    · simp
    · split
      · simp
      · exact rdF_cases r _ _
theorem rdN_cases (l : List UInt8) : (∃ n m, rdN l = (n, m, 0)) ∨ rdN l = (0, 0, 110) ∨ rdN l = (0, 0, 111) := by
  rcases rdF_cases l 0 0 with h | h | h
  · exact .inl ⟨(rdN l).1, (rdN l).2.1, by rw [← h]; rfl⟩
  · exact .inr (.inl h)
  · exact .inr (.inr h)

/-- A text's bytes; what is read of one. -/
def txtB (s : List UInt8) : List UInt8 := numB s.length ++ s
def rdT (l : List UInt8) : List UInt8 × Nat × Int :=
  if (rdN l).2.2 ≠ 0 then ([], 0, (rdN l).2.2)
  else if l.length - (rdN l).2.1 < (rdN l).1 then ([], 0, 110)
  else ((l.drop (rdN l).2.1).take (rdN l).1, (rdN l).2.1 + (rdN l).1, 0)
theorem rdT_txtB (s r : List UInt8) (h : s.length < 18446744073709551616) : rdT (txtB s ++ r) = (s, (txtB s).length, 0) := by
  unfold rdT txtB
  rw [List.append_assoc, rdN_numB _ _ h]
  simp only [ne_eq, not_true_eq_false, if_false, List.length_append, List.drop_left]
  rw [if_neg (by omega), List.take_left]

/-- No number's bytes begin another one's. -/
theorem numB_free {m n : Nat} (hm : m < 18446744073709551616) (hn : n < 18446744073709551616) {r : List UInt8} (h : numB m ++ r = numB n) : m = n := by
  have e1 := rdN_numB m r hm
  have e2 := rdN_numB n [] hn
  rw [List.append_nil, ← h, e1] at e2
  simp only [Prod.mk.injEq] at e2
  exact e2.1
theorem numB_inj {m n : Nat} (hm : m < 18446744073709551616) (hn : n < 18446744073709551616) (h : numB m = numB n) : m = n :=
  numB_free hm hn (r := []) (by rw [List.append_nil]; exact h)
end Go.Proofs.YtbinmgpfkjmijaaGreatDoor
namespace Go.Proofs.YtbinmgpfkjmijaaGreatDoor
open Go Go.RowKit

def byteV (b : UInt8) : Value := .int .u8 b.toNat
theorem byteV_one (b : UInt8) : (byteV b).oneCell' = true := rfl

/-- v is a slice whose bytes read l in w; they lie in blocks below n. -/
def Bytes (n : Nat) (w : World) (v : Value) (l : List UInt8) : Prop :=
  ∃ ao cap, v = .slice ao l.length cap ∧ l.length ≤ cap ∧ cap ≤ maxLen ∧
    (l ≠ [] → ∃ b off, ao = some ⟨b, off, none⟩ ∧ b < n ∧ ∀ i, i < l.length → w.cell? ⟨b, off + i, none⟩ = some (byteV (l.getD i 0)))

theorem Bytes.below {n : Nat} {w w' : World} {v : Value} {l : List UInt8} (h : Bytes n w v l) (hb : Below n w w') : Bytes n w' v l := by
  obtain ⟨ao, cap, rfl, h1, h2, h3⟩ := h
  refine ⟨ao, cap, rfl, h1, h2, fun hl => ?_⟩
  obtain ⟨b, off, e, hbn, hc⟩ := h3 hl
  exact ⟨b, off, e, hbn, fun i hi => (hb.cell (p := ⟨b, off + i, none⟩) hbn).trans (hc i hi)⟩
theorem Bytes.mono {n m : Nat} {w : World} {v : Value} {l : List UInt8} (h : Bytes n w v l) (hm : n ≤ m) : Bytes m w v l := by
  obtain ⟨ao, cap, rfl, h1, h2, h3⟩ := h
  refine ⟨ao, cap, rfl, h1, h2, fun hl => ?_⟩
  obtain ⟨b, off, e, hbn, hc⟩ := h3 hl
  exact ⟨b, off, e, by omega, hc⟩
/-- The blocks are those that are there. -/
theorem Bytes.here {n : Nat} {w : World} {v : Value} {l : List UInt8} (h : Bytes n w v l) : Bytes w.heap.size w v l := by
  obtain ⟨ao, cap, rfl, h1, h2, h3⟩ := h
  refine ⟨ao, cap, rfl, h1, h2, fun hl => ?_⟩
  obtain ⟨b, off, e, hbn, hc⟩ := h3 hl
  exact ⟨b, off, e, World.block_lt_of_cell? w _ (hc 0 (List.length_pos_iff.2 hl)), hc⟩
theorem Bytes.nil {n : Nat} (w : World) : Bytes n w (.slice none 0 0) [] := ⟨none, 0, rfl, by simp, by simp, fun h => absurd rfl h⟩

/-- A slice of it. -/
theorem Bytes.sliced {n : Nat} {w : World} {ao : Option Addr} {len cap : Nat} {l : List UInt8} (h : Bytes n w (.slice ao len cap) l) (lo hi m : Nat) (h1 : lo ≤ hi) (h2 : hi ≤ len) (h3 : hi ≤ m) (h4 : m ≤ cap) :
    Bytes n w (.slice (if m = lo then ao else ao.map (·.add (lo * 1))) (hi - lo) (m - lo)) ((l.drop lo).take (hi - lo)) := by
  obtain ⟨ao', cap', e, e1, e2, e3⟩ := h
  simp only [Value.slice.injEq] at e
  obtain ⟨rfl, rfl, rfl⟩ := e
  have hl : ((l.drop lo).take (hi - lo)).length = hi - lo := by simp; omega
  refine ⟨_, _, by rw [hl], by rw [hl]; omega, by omega, fun hne => ?_⟩
  have hlt : 0 < hi - lo := by rw [← hl]; exact List.length_pos_iff.2 hne
  obtain ⟨b, off, rfl, hbn, hc⟩ := e3 (by rintro rfl; simp at h2; omega)
  refine ⟨b, off + lo, ?_, hbn, fun i hi' => ?_⟩
  · rw [if_neg (by omega)]; simp [Addr.add]
  · rw [hl] at hi'
    have := hc (lo + i) (by omega)
    rw [Nat.add_assoc, this]
    simp only [List.getD_eq_getElem?_getD, List.getElem?_take, List.getElem?_drop, if_pos hi']

/-- A row of bytes that the call has made. -/
def OwnB (w : World) (base : Nat) (v : Value) (l : List UInt8) : Prop := w.ownsRow base 5 1 v l.length (l.map byteV)

theorem OwnB.bytes {w : World} {base : Nat} {v : Value} {l : List UInt8} (h : OwnB w base v l) : Bytes w.heap.size w v l := by
  obtain ⟨h1, h2⟩ := h
  rcases h2 with ⟨rfl, h2⟩ | ⟨g, cap, cur, rfl, hb, hg, hn, hm, hs, ht⟩
  · have : l = [] := List.eq_nil_of_length_eq_zero h2
    subst this; exact Bytes.nil w
  · refine ⟨_, cap, rfl, hn, hm, fun _ => ⟨g, 0, rfl, (Array.getElem?_eq_some_iff.1 hg).1, fun i hi => ?_⟩⟩
    have hx : (l.map byteV)[i]? = some (byteV (l.getD i 0)) := by simp [hi]
    rw [← ht, List.getElem?_take, if_pos (by omega)] at hx
    simp only [Nat.zero_add]
    rw [cell_of_row w g i cur _ _ hg]
    simpa using hx
theorem OwnB.nil (w : World) (base : Nat) : OwnB w base (.slice none 0 0) [] := World.ownsRow_nil _ _ _ _

theorem OwnB.form {w : World} {base : Nat} {v : Value} {l : List UInt8} (h : OwnB w base v l) (hl : l ≠ []) : ∃ g cap, v = .slice (some ⟨g, 0, none⟩) l.length cap ∧ base ≤ g ∧ g < w.heap.size := by
  obtain ⟨h1, h2⟩ := h
  rcases h2 with ⟨rfl, h2⟩ | ⟨g, cap, cur, rfl, hb, hg, hn, hm, hs, ht⟩
  · exact absurd (List.eq_nil_of_length_eq_zero h2) hl
  · exact ⟨g, cap, rfl, hb, (Array.getElem?_eq_some_iff.1 hg).1⟩
theorem OwnB.below {w w' : World} {base n : Nat} {v : Value} {l : List UInt8} (h : OwnB w base v l) (hb : Below n w w') (hg : ∀ g, v.ownBlock = some g → g < n) : OwnB w' base v l := by
  refine ⟨h.1, ?_⟩
  rcases h.2 with hn | ⟨g, cap, cur, rfl, hbg, hgg, rest⟩
  · exact .inl hn
  · exact .inr ⟨g, cap, cur, rfl, hbg, by rw [hb.block g (hg g rfl)]; exact hgg, rest⟩
theorem OwnB.lower {w : World} {base b : Nat} {v : Value} {l : List UInt8} (h : OwnB w base v l) (hb : b ≤ base) : OwnB w b v l := by
  refine ⟨h.1, ?_⟩
  rcases h.2 with hn | ⟨g, cap, cur, rfl, hbg, rest⟩
  · exact .inl hn
  · exact .inr ⟨g, cap, cur, rfl, by omega, rest⟩
/-- A literal of bytes, in a block of its own. -/
theorem OwnB.lit (w : World) (l : List UInt8) (hl : l.length ≤ maxLen) : OwnB (w.alloc (.cells (l.map byteV).toArray 5)) w.heap.size (.slice (some ⟨w.heap.size, 0, none⟩) l.length l.length) l := by
  have := World.ownsRow_lit (size := 1) (e := 5) w (l.map byteV).toArray l.length (Nat.le_refl _) hl (by simp)
  exact this

/-- A string of bytes. -/
def str (l : List UInt8) : ByteArray := ⟨l.toArray⟩

/-- The string that a slice of bytes is turned into. -/
theorem Bytes.str {P : Program} {n : Nat} {w : World} {v : Value} {l : List UInt8} (h : Bytes n w v l) (src dst e : TypeId) (hs : P.underlying src = some (.slice e)) (he : P.underlying e = some (.int .u8)) (hd : P.underlying dst = some .string) :
    (convert src dst v).run P w = .ok (.string (str l)) w := by
  obtain ⟨ao, cap, rfl, h1, h2, h3⟩ := h
  cases ao with
  | none =>
    have hl : l = [] := by
      rcases l with _ | ⟨x, l⟩
      · rfl
      · obtain ⟨b, off, e, _⟩ := h3 (by simp)
        cases e
    subst hl
    exact run_convert_bytes_nil w src e hs he _ _ dst hd
  | some a =>
    have hl : (loadCells a l.length).run P w = .ok ((l.map fun b => (b.toNat : Int)).map (Value.int .u8)).toArray w := by
      have := run_loadCells_list (P := P) w a ((l.map fun b => (b.toNat : Int)).map (Value.int .u8)) (fun j v hj => by
        have hjl : j < l.length := by
          rcases Nat.lt_or_ge j l.length with h | h
          · exact h
          · rw [List.getElem?_eq_none (by simpa using h)] at hj; cases hj
        obtain ⟨b, off, e, _, hc⟩ := h3 (by rintro rfl; simp at hjl)
        simp only [Option.some.injEq] at e
        subst e
        have hplain : (⟨b, off, none⟩ : Addr).add j = ⟨b, off + j, none⟩ := by unfold Addr.add; split <;> simp_all
        rw [hplain, hc j hjl]
        simp [List.getElem?_eq_getElem hjl] at hj
        subst hj
        simp [byteV, hjl])
      simpa using this
    rw [run_convert_bytes_string w src dst e _ _ cap hs he hd, run_bytesToString w _ _ cap _ hl, foldl_push_bytes]
    have e2 : (l.map fun b => (b.toNat : Int)).map (fun n => UInt8.ofNat n.toNat) = l := by
      rw [List.map_map]
      conv => rhs; rw [← List.map_id l]
      exact List.map_congr_left fun b _ => by simp
    rw [e2]
    have e3 : (⟨ByteArray.empty.data ++ l.toArray⟩ : ByteArray) = Go.Proofs.YtbinmgpfkjmijaaGreatDoor.str l := by
      show (⟨#[] ++ l.toArray⟩ : ByteArray) = _
      rw [Array.empty_append]; rfl
    rw [e3]

/-- What only makes memory, and turns nothing that was there. -/
def Adds (w w' : World) : Prop := Below w.heap.size w w'
theorem Adds.refl (w : World) : Adds w w := Below.refl _ _
theorem Adds.trans {a b c : World} (h : Adds a b) (k : Adds b c) : Adds a c := Below.trans h (Below.mono k h.size)
theorem Adds.drew (w : World) : Adds w w.drew := (Below.refl _ _).drew
theorem Adds.drewN (w : World) (n : Nat) : Adds w (w.drewN n) := ⟨rfl, rfl, rfl, Nat.le_refl _, fun _ _ => rfl⟩
theorem Bytes.adds {w w' : World} {v : Value} {l : List UInt8} (h : Bytes w.heap.size w v l) (ha : Adds w w') : Bytes w'.heap.size w' v l := (h.below ha).here
theorem bytes_adds {n : Nat} {w w' : World} {v : Value} {l : List UInt8} (h : Bytes n w v l) (ha : Adds w w') : Bytes w'.heap.size w' v l := h.here.adds ha

/-- The cells of a row of bytes, as an append asks for them. -/
theorem Bytes.news {n : Nat} {w : World} {a : Addr} {len cap : Nat} {l : List UInt8} (h : Bytes n w (.slice (some a) len cap) l) :
    len = l.length ∧ ∀ j u, (l.map byteV)[j]? = some u → w.cell? (a.add j) = some u := by
  obtain ⟨ao, cap', e, e1, e2, e3⟩ := h
  simp only [Value.slice.injEq] at e
  obtain ⟨rfl, rfl, rfl⟩ := e
  refine ⟨rfl, fun j u hu => ?_⟩
  have hj : j < l.length := by
    rcases Nat.lt_or_ge j l.length with h | h
    · exact h
    · rw [List.getElem?_eq_none (by simpa using h)] at hu; cases hu
  obtain ⟨b, off, e, _, hc⟩ := e3 (by rintro rfl; simp at hj)
  simp only [Option.some.injEq] at e
  subst e
  have ea : (⟨b, off, none⟩ : Addr).add j = ⟨b, off + j, none⟩ := by unfold Addr.add; split <;> simp_all
  rw [ea, hc j hj]
  simp only [List.getElem?_map, List.getElem?_eq_getElem hj, Option.map_some, Option.some.injEq] at hu
  simp [← hu, hj]

/-- A scope whose run jumps forward to one label, once. -/
theorem wp_scope_fwd {P : Program} {a : Act} {w : World} {Q : Exit → Act → World → Prop} {c rest : Code} (l : Nat) (hf : findLabel c l = some rest)
    (first : c.wp P (Exit.jump l (fun a' w' => rest.wp P (Exit.noGoto Q) a' w') Q) a w) : (Code.scope c).wp P Q a w :=
  wp_scope_jumps l (fun a' w' => rest.wp P (Exit.noGoto Q) a' w') (fun _ _ => 0) hf first fun a' w' h => Code.wp_mono (fun e a'' w'' he => by cases e <;> first | exact he | exact False.elim he) h
end Go.Proofs.YtbinmgpfkjmijaaGreatDoor
namespace Go.Proofs.YtbinmgpfkjmijaaGreatDoor
open Go Go.RowKit

theorem ret_int {k : IntKind} {a b : Int} (h : a = b) : Ending.returned (.int k a) = .returned (.int k b) := by rw [h]
theorem ret_bool {a b : Bool} (h : a = b) : Ending.returned (.bool a) = .returned (.bool b) := by rw [h]
theorem int_eq {k : IntKind} {a b : Int} (h : a = b) : Value.int k a = .int k b := by rw [h]

theorem u64_in {a : Nat} (h : a < 18446744073709551616) : IntKind.u64.wrap (a : Int) = a := by
  rw [IntKind.wrap_u64]; omega
theorem u8_in {a : Nat} (h : a < 256) : IntKind.u8.wrap (a : Int) = a := by
  rw [IntKind.wrap_u8']; omega

theorem pow256 (k : Nat) : (2 : Nat) ^ (8 * k) = 256 ^ k := by rw [Nat.pow_mul]

/-- A byte laid at its place over what lies below it. -/
theorem or_shl (a x k : Nat) (hk : k < 8) (ha : a < 256 ^ k) (hx : x < 256) :
    bits .or .u64 (a : Int) (IntKind.u64.wrap ((x : Int) * 2 ^ (8 * k))) = ((a + 256 ^ k * x : Nat) : Int) := by
  have e : ((x : Int) * 2 ^ (8 * k)) = ((x * 256 ^ k : Nat) : Int) := by
    rw [← pow256]; simp
  have h1 : 256 ^ (k + 1) ≤ 256 ^ 8 := Nat.pow_le_pow_right (by decide) (by omega)
  have h2 : (256 : Nat) ^ 8 = 18446744073709551616 := by decide
  have h3 : x * 256 ^ k + 256 ^ k ≤ 256 ^ (k + 1) := by
    rw [Nat.pow_succ, Nat.mul_comm (256 ^ k) 256, ← Nat.succ_mul]
    exact Nat.mul_le_mul_right _ (by omega)
  rw [e, u64_in (by omega), u64_or_nat _ _ (by omega) (by omega), Nat.or_comm, nat_join (8 * k) _ _ (by rw [pow256]; simp) (by rw [pow256]; exact ha), Nat.mul_comm, Nat.add_comm]

/-- A group of seven bits laid at its place over what lies below it. -/
theorem or_shl7 (a x k : Nat) (hk : k ≤ 9) (ha : a < 128 ^ k) (hx : x < 128) (h9 : k = 9 → x ≤ 1) :
    bits .or .u64 (a : Int) (IntKind.u64.wrap ((x : Int) * 2 ^ (7 * k))) = ((a + x * 128 ^ k : Nat) : Int) := by
  have p7 : (2 : Nat) ^ (7 * k) = 128 ^ k := by rw [Nat.pow_mul]
  have e : ((x : Int) * 2 ^ (7 * k)) = ((x * 128 ^ k : Nat) : Int) := by
    rw [← p7]; simp
  have hb : x * 128 ^ k + 128 ^ k ≤ 18446744073709551616 := by
    rcases Nat.lt_or_ge k 9 with h | h
    · have h1 : 128 ^ (k + 1) ≤ 128 ^ 9 := Nat.pow_le_pow_right (by decide) (by omega)
      have h2 : (128 : Nat) ^ 9 = 9223372036854775808 := by decide
      have h3 : x * 128 ^ k + 128 ^ k ≤ 128 ^ (k + 1) := by
        rw [Nat.pow_succ, Nat.mul_comm (128 ^ k) 128, ← Nat.succ_mul]
        exact Nat.mul_le_mul_right _ (by omega)
      omega
    · obtain rfl : k = 9 := by omega
      have h2 : (128 : Nat) ^ 9 = 9223372036854775808 := by decide
      have := h9 rfl
      rw [h2]; omega
  rw [e, u64_in (by omega), u64_or_nat _ _ (by omega) (by omega), Nat.or_comm, nat_join (7 * k) _ _ (by rw [p7]; simp) (by rw [p7]; exact ha), Nat.add_comm]
end Go.Proofs.YtbinmgpfkjmijaaGreatDoor
namespace Go.Proofs.YtbinmgpfkjmijaaGreatDoor
open Go.RowKit

/-- The widths, as a Bool of its own. -/
def isW (x : Int) : Bool := x == 1 || x == 2 || x == 4 || x == 8

set_option maxHeartbeats 400000 in
theorem right_any (x : Int) (w : World) :
    Calls Tryz.prog 82 #[.int .i64 x] w fun e w' => e = .returned (.bool (isW x)) ∧ w = w' := by
  by_cases h1 : x = 1
  · subst h1; go_enter Tryz.func82, Tryz.ntmps82; go_wp2; go_ret; exact ⟨rfl, rfl⟩
  by_cases h2 : x = 2
  · subst h2; go_enter Tryz.func82, Tryz.ntmps82; go_wp2; go_ret; exact ⟨rfl, rfl⟩
  by_cases h4 : x = 4
  · subst h4; go_enter Tryz.func82, Tryz.ntmps82; go_wp2; go_ret; exact ⟨rfl, rfl⟩
  go_enter Tryz.func82, Tryz.ntmps82
  go_wp2
  go_ret
  exact ⟨rfl, rfl⟩

theorem gW : Tryz.prog.globalNamed "linesman/octet.widths" = some 3 := by kernel_rfl

/-- What the table of widths holds. -/
structure Widths (w : World) : Prop where
  c0 : w.cell? ⟨3, 0, none⟩ = some (.int .i64 1)
  c1 : w.cell? ⟨3, 1, none⟩ = some (.int .i64 2)
  c2 : w.cell? ⟨3, 2, none⟩ = some (.int .i64 4)
  c3 : w.cell? ⟨3, 3, none⟩ = some (.int .i64 8)
theorem Widths.below {w w' : World} (h : Widths w) (hb : Below w.heap.size w w') : Widths w' :=
  ⟨(hb.cell (World.block_lt_of_cell? w _ h.c0)).trans h.c0, (hb.cell (World.block_lt_of_cell? w _ h.c1)).trans h.c1, (hb.cell (World.block_lt_of_cell? w _ h.c2)).trans h.c2, (hb.cell (World.block_lt_of_cell? w _ h.c3)).trans h.c3⟩

set_option maxHeartbeats 1000000 in
theorem isWidth_any (x : Int) (w : World) (h : Widths w) :
    Calls Tryz.prog 101 #[.int .i64 x] w fun e w' => e = .returned (.bool (isW x)) ∧ w = w' := by
  have c0 := h.c0
  have c1 := h.c1
  have c2 := h.c2
  have c3 := h.c3
  clear h
  have i0 : ∀ w : World, (Instr.index 160 (.agg #[.int .i64 1, .int .i64 2, .int .i64 4, .int .i64 8]) (.int .i64 0)).run Tryz.prog w = .ok (.int .i64 1) w := fun _ => by kernel_rfl
  have i1 : ∀ w : World, (Instr.index 160 (.agg #[.int .i64 1, .int .i64 2, .int .i64 4, .int .i64 8]) (.int .i64 1)).run Tryz.prog w = .ok (.int .i64 2) w := fun _ => by kernel_rfl
  have i2 : ∀ w : World, (Instr.index 160 (.agg #[.int .i64 1, .int .i64 2, .int .i64 4, .int .i64 8]) (.int .i64 2)).run Tryz.prog w = .ok (.int .i64 4) w := fun _ => by kernel_rfl
  have i3 : ∀ w : World, (Instr.index 160 (.agg #[.int .i64 1, .int .i64 2, .int .i64 4, .int .i64 8]) (.int .i64 3)).run Tryz.prog w = .ok (.int .i64 8) w := fun _ => by kernel_rfl
  by_cases h1 : x = 1
  · subst h1
    go_enter Tryz.func101, Tryz.ntmps101
    go_wp2
    refine wp_loop_rounds 1 ?_
    rw [rounds_succ]
    go_wp2
    go_ret
    exact ⟨rfl, rfl⟩
  by_cases h2 : x = 2
  · subst h2
    go_enter Tryz.func101, Tryz.ntmps101
    go_wp2
    refine wp_loop_rounds 2 ?_
    iterate 2 (rw [rounds_succ]; go_wp2)
    go_ret
    exact ⟨rfl, rfl⟩
  by_cases h4 : x = 4
  · subst h4
    go_enter Tryz.func101, Tryz.ntmps101
    go_wp2
    refine wp_loop_rounds 3 ?_
    iterate 3 (rw [rounds_succ]; go_wp2)
    go_ret
    exact ⟨rfl, rfl⟩
  by_cases h8 : x = 8
  · subst h8
    go_enter Tryz.func101, Tryz.ntmps101
    go_wp2
    refine wp_loop_rounds 4 ?_
    iterate 4 (rw [rounds_succ]; go_wp2)
    go_ret
    exact ⟨rfl, rfl⟩
  have hn : isW x = false := by simp [isW, h1, h2, h4, h8]
  rw [hn]; clear hn
  go_enter Tryz.func101, Tryz.ntmps101
  go_wp2
  refine wp_loop_rounds 5 ?_
  iterate 5 (rw [rounds_succ]; go_wp2)
  go_ret
  exact ⟨rfl, rfl⟩
end Go.Proofs.YtbinmgpfkjmijaaGreatDoor
namespace Go.Proofs.YtbinmgpfkjmijaaGreatDoor
open Go.RowKit

set_option maxHeartbeats 400000 in
theorem fits_1 (n : Nat) (w : World) :
    Calls Tryz.prog 102 #[.int .u64 n, .int .i64 1] w fun e w' => e = .returned (.bool (decide (n < 256))) ∧ w = w' := by
  go_enter Tryz.func102, Tryz.ntmps102
  go_wp2
  go_ret
  exact ⟨ret_bool (by rw [Bool.eq_iff_iff, beq_iff_eq, decide_eq_true_eq]; omega), rfl⟩
set_option maxHeartbeats 400000 in
theorem fits_2 (n : Nat) (w : World) :
    Calls Tryz.prog 102 #[.int .u64 n, .int .i64 2] w fun e w' => e = .returned (.bool (decide (n < 65536))) ∧ w = w' := by
  go_enter Tryz.func102, Tryz.ntmps102
  go_wp2
  go_ret
  exact ⟨ret_bool (by rw [Bool.eq_iff_iff, beq_iff_eq, decide_eq_true_eq]; omega), rfl⟩
set_option maxHeartbeats 400000 in
theorem fits_4 (n : Nat) (w : World) :
    Calls Tryz.prog 102 #[.int .u64 n, .int .i64 4] w fun e w' => e = .returned (.bool (decide (n < 4294967296))) ∧ w = w' := by
  go_enter Tryz.func102, Tryz.ntmps102
  go_wp2
  go_ret
  exact ⟨ret_bool (by rw [Bool.eq_iff_iff, beq_iff_eq, decide_eq_true_eq]; omega), rfl⟩
set_option maxHeartbeats 400000 in
theorem fits_8 (n : Nat) (w : World) :
    Calls Tryz.prog 102 #[.int .u64 n, .int .i64 8] w fun e w' => e = .returned (.bool (decide (n < 18446744073709551616))) ∧ w = w' := by
  go_enter Tryz.func102, Tryz.ntmps102
  go_wp2
  go_ret
  exact ⟨ret_bool (by rw [Bool.eq_iff_iff, beq_iff_eq, decide_eq_true_eq]; omega), rfl⟩

theorem unB_take (l : List UInt8) (k : Nat) (h : k < l.length) : unB (l.take (k + 1)) = unB (l.take k) + 256 ^ k * (l.getD k 0).toNat := by
  rw [List.take_succ_eq_append_getElem h, unB_snoc]
  simp [Nat.min_eq_left (Nat.le_of_lt h), h]
theorem unB_take_lt (l : List UInt8) (k : Nat) (h : k ≤ l.length) : unB (l.take k) < 256 ^ k := by
  have := unB_lt (l.take k)
  rwa [List.length_take, Nat.min_eq_left h] at this

set_option maxHeartbeats 400000 in
theorem value_any (b off cap : Nat) (l : List UInt8) (hl : l.length ≤ 8) (w : World) (hc : ∀ i, i < l.length → w.cell? ⟨b, off + i, none⟩ = some (byteV (l.getD i 0))) :
    Calls Tryz.prog 137 #[.slice (some ⟨b, off, none⟩) l.length cap] w fun e w' => e = .returned (.int .u64 (unB l)) ∧ w = w' := by
  have HC := Lib.hid hc; clear hc
  go_enter Tryz.func137, Tryz.ntmps137
  go_wp2
  go_loop [3, 8] (fun n i => ∃ k : Nat, k ≤ l.length ∧ i = .int .i64 k ∧ n = .int .u64 (unB (l.take k))) (fun _ i => l.length - (intOf i).toNat)
  case atStart => exact ⟨0, Nat.zero_le _, rfl, rfl⟩
  case round =>
    obtain ⟨k, hk, rfl, rfl⟩ := hrel
    by_cases hlt : k < l.length
    · obtain ⟨x, hx⟩ : ∃ x, l.getD k 0 = x := ⟨_, rfl⟩
      have hcell : w.cell? ⟨b, off + k, none⟩ = some (.int .u8 x.toNat) := by have := HC.out k hlt; rwa [hx] at this
      have HX := Lib.hid hx; clear hx
      have hx8 : x.toNat < 256 := x.toNat_lt
      go_wp2
      go_round
      case rel => exact ⟨k + 1, by omega, by go_num, int_eq (by rw [or_shl _ _ _ (by omega) (unB_take_lt l k hk) hx8, unB_take l k hlt, HX.out])⟩
      case measure => simp [intOf]; omega
    · go_wp2
      go_ret
      exact ⟨ret_int (by rw [List.take_of_length_le (by omega)]), rfl⟩
end Go.Proofs.YtbinmgpfkjmijaaGreatDoor
namespace Go.Proofs.YtbinmgpfkjmijaaGreatDoor
open Go.RowKit

theorem run_mk (n : Nat) (hn : n ≤ 65536) (w : World) :
    (Instr.makeSlice 37 (.int .i64 (n : Int)) (.int .i64 (n : Int))).run Tryz.prog w = .ok (.slice (some ⟨w.heap.size, 0, none⟩) n n) (w.alloc (.cells (madeCells #[.int .u8 0] n) 5)) := by
  obtain ⟨i0, hi, hz, hs, hb⟩ := info_parts (show (Tryz.prog.info? 5).map (fun i => (i.zero, i.size, i.bytes)) = some (some (.int .u8 0), 1, 1) by kernel_rfl)
  have h := run_make (P := Tryz.prog) w 37 5 i0 (.int .u8 0) Tryz.underlying37 hi hz .i64 .i64 n n (by omega) (by omega) (by rw [hb]; omega) (by omega)
  rw [hs] at h
  simpa [Value.cells] using h

theorem madeCells_toList (n : Nat) : (madeCells #[.int .u8 0] n).toList = List.replicate n (.int .u8 0) := by
  unfold madeCells
  apply List.ext_getElem
  · simp
  · intro i h1 h2
    simp [Nat.mod_one]

/-- A row in the making: k bytes are there, zeros behind them. -/
def rowK (x k n : Nat) : List Value := (leB k n).map byteV ++ List.replicate (x - k) (.int .u8 0)
theorem rowK_length (x k n : Nat) (h : k ≤ x) : (rowK x k n).length = x := by simp [rowK, leB_length]; omega
theorem rowK_at (x k n : Nat) (h : k < x) : (rowK x k n)[k]? = some (.int .u8 0) := by
  rw [rowK, List.getElem?_append_right (by simp [leB_length])]
  simp only [leB_length, List.length_map, Nat.sub_self]
  rw [List.getElem?_replicate, if_pos (by omega)]
theorem byteV_ofNat (m : Nat) : byteV (UInt8.ofNat m) = .int .u8 ((m % 256 : Nat) : Int) := by
  unfold byteV; rw [show (UInt8.ofNat m).toNat = m % 256 from UInt8.toNat_ofNat']
theorem rowK_set (x k n : Nat) (h : k < x) : (rowK x k n).set k (.int .u8 ((n / 256 ^ k % 256 : Nat) : Int)) = rowK x (k + 1) n := by
  have e : x - k = (x - (k + 1)) + 1 := by omega
  unfold rowK
  rw [List.set_append_right _ _ (by simp [leB_length]), leB_snoc, e, List.replicate_succ]
  simp [leB_length, byteV_ofNat]
theorem rowK_end (x n : Nat) : rowK x x n = (leB x n).map byteV := by simp [rowK]

/-- What a call hands back: bytes in memory that it has made, in the place of v. -/
def GivesB (l : List UInt8) (mk : Value → Value) (w : World) (e : Ending) (w' : World) : Prop := ∃ v, e = .returned (mk v) ∧ OwnB w' w.heap.size v l ∧ Adds w w'

theorem div256 (n k : Nat) : n / 256 ^ k / 256 = n / 256 ^ (k + 1) := by rw [Nat.div_div_eq_div_mul, Nat.pow_succ]
theorem byte_wrap (m : Nat) : IntKind.u8.wrap (m : Int) = ((m % 256 : Nat) : Int) := by rw [IntKind.wrap_u8']; omega

set_option maxHeartbeats 1000000 in
theorem lowestFirst_any (n x : Nat) (hx : x ≤ 8) (w : World) :
    Calls Tryz.prog 103 #[.int .u64 n, .int .i64 x] w (GivesB (leB x n) (fun v => v) w) := by
  have hmk := run_mk x (by omega)
  go_enter Tryz.func103, Tryz.ntmps103
  go_wp2
  clear hmk
  go_loopw [0, 11] (fun a i wr => ∃ k : Nat, k ≤ x ∧ i = .int .i64 k ∧ a = .int .u64 ((n / 256 ^ k : Nat) : Int) ∧ wr.ownsRow w.heap.size 5 1 (.slice (some ⟨w.heap.size, 0, none⟩) x x) x (rowK x k n) ∧ Below w.heap.size w wr) (fun _ i _ => x - (intOf i).toNat)
  case atStart =>
    refine ⟨0, Nat.zero_le _, rfl, by simp, ?_, (Below.refl _ _).alloc (Nat.le_refl _) _⟩
    have := World.ownsRow_lit (size := 1) (e := 5) w (madeCells #[.int .u8 0] x) x (Nat.le_refl _) (by unfold maxLen; omega) (by rw [size_madeCells]; omega)
    rw [madeCells_toList] at this
    simpa [rowK, leB] using this
  case round =>
    obtain ⟨k, hk, rfl, rfl, hown, hb⟩ := hrel
    by_cases hlt : k < x
    · have hc : wr.cell? ⟨w.heap.size, k, none⟩ = some (.int .u8 0) := by rw [hown.cellAt k (by omega), rowK_at x k n hlt]
      have hf := hown.frozenAt k
      have HO := Lib.hid hown; clear hown
      obtain ⟨m, hm⟩ : ∃ m, n / 256 ^ k = m := ⟨_, rfl⟩
      rw [hm]
      have HM := Lib.hid hm; clear hm
      go_wp2
      go_round
      case rel =>
        refine ⟨k + 1, by omega, by go_num, int_eq (by rw [← div256, HM.out]; omega), ?_, hb.setCell (by simp) _⟩
        have := (HO.out.stored k (.int .u8 ((m % 256 : Nat) : Int))).1
        rw [← HM.out, rowK_set x k n hlt, HM.out] at this
        exact this
      case measure => simp [intOf]; omega
    · go_wp2
      go_ret
      obtain rfl : k = x := by omega
      rw [rowK_end] at hown
      exact ⟨.slice (some ⟨w.heap.size, 0, none⟩) k k, rfl, by simpa [OwnB, leB_length] using hown, hb⟩

def fixE (n : Nat) (x : Int) : Int := if isW x then (if n < 256 ^ x.toNat then 0 else 4) else 2
def fixB (n : Nat) (x : Int) : List UInt8 := if fixE n x = 0 then leB x.toNat n else []

theorem fits_any (n : Nat) (x : Int) (h : isW x = true) (w : World) :
    Calls Tryz.prog 102 #[.int .u64 n, .int .i64 x] w fun e w' => e = .returned (.bool (decide (n < 256 ^ x.toNat))) ∧ w = w' := by
  have hx : x = 1 ∨ x = 2 ∨ x = 4 ∨ x = 8 := by simpa [isW, or_assoc] using h
  rcases hx with rfl | rfl | rfl | rfl
  · exact fits_1 n w
  · exact fits_2 n w
  · exact fits_4 n w
  · exact fits_8 n w

theorem isW_nat {x : Int} (h : isW x = true) : ∃ k : Nat, x = k ∧ k ≤ 8 := by
  have hx : x = 1 ∨ x = 2 ∨ x = 4 ∨ x = 8 := by simpa [isW, or_assoc] using h
  exact ⟨x.toNat, by omega, by omega⟩

set_option maxHeartbeats 1000000 in
theorem fixed_any (n : Nat) (x : Int) (w : World) (hw : Widths w) :
    Calls Tryz.prog 76 #[.int .u64 n, .int .i64 x] w (GivesB (fixB n x) (fun v => .tuple #[v, .int .i64 (fixE n x)]) w) := by
  have HW := Lib.hid hw; clear hw
  cases h : isW x with
  | false =>
    have e1 : fixE n x = 2 := by simp [fixE, h]
    have e2 : fixB n x = [] := by simp [fixB, e1]
    rw [e1, e2]; clear e1 e2
    have H := Lib.hid h; clear h
    go_enter Tryz.func76, Tryz.ntmps76
    go_wp2
    refine wp_scope_fwd 0 rfl ?_
    go_wp2_with (go_at_call 101; refine (isWidth_any _ _ HW.out).mono ?_; rintro e w' ⟨rfl, rfl⟩; rw [H.out])
    go_step3
    refine ⟨rfl, ?_⟩
    go_wp2
    rw [Exit.noGoto_ret]
    go_ret2
    exact ⟨.slice none 0 0, rfl, OwnB.nil _ _, Adds.refl _⟩
  | true =>
    by_cases hn : n < 256 ^ x.toNat
    · have e1 : fixE n x = 0 := by simp [fixE, h, hn]
      have e2 : fixB n x = leB x.toNat n := by simp [fixB, e1]
      rw [e1, e2]; clear e1 e2
      obtain ⟨k, rfl, hk⟩ := isW_nat h
      have hd : decide (n < 256 ^ ((k : Nat) : Int).toNat) = true := by simpa using hn
      have H := Lib.hid h; clear h
      have HD := Lib.hid hd; clear hd hn
      simp only [Int.toNat_natCast]
      go_enter Tryz.func76, Tryz.ntmps76
      go_wp2
      refine wp_scope_fwd 0 rfl ?_
      go_wp2_with (first
        | (go_at_call 101; refine (isWidth_any _ _ HW.out).mono ?_; rintro e w' ⟨rfl, rfl⟩; rw [H.out])
        | (go_at_call 102; refine (fits_any _ _ H.out _).mono ?_; rintro e w' ⟨rfl, rfl⟩; rw [HD.out])
        | (go_at_call 103; refine (lowestFirst_any n k hk _).mono ?_; rintro e w' ⟨v, rfl, hv, ha⟩; have HV := Lib.hid hv; clear hv; have HA := Lib.hid ha; clear ha))
      simp only [Exit.jump]
      go_ret2
      rename_i v w1 HV HA
      exact ⟨v, rfl, HV.out, HA.out⟩
    · have e1 : fixE n x = 4 := by simp [fixE, h, hn]
      have e2 : fixB n x = [] := by simp [fixB, e1]
      rw [e1, e2]; clear e1 e2
      have hd : decide (n < 256 ^ x.toNat) = false := by simpa using hn
      have H := Lib.hid h; clear h
      have HD := Lib.hid hd; clear hd hn
      go_enter Tryz.func76, Tryz.ntmps76
      go_wp2
      refine wp_scope_fwd 0 rfl ?_
      go_wp2_with (first
        | (go_at_call 101; refine (isWidth_any _ _ HW.out).mono ?_; rintro e w' ⟨rfl, rfl⟩; rw [H.out])
        | (go_at_call 102; refine (fits_any _ _ H.out _).mono ?_; rintro e w' ⟨rfl, rfl⟩; rw [HD.out]))
      go_step3
      refine ⟨rfl, ?_⟩
      go_wp2
      rw [Exit.noGoto_ret]
      go_ret2
      exact ⟨.slice none 0 0, rfl, OwnB.nil _ _, Adds.refl _⟩
end Go.Proofs.YtbinmgpfkjmijaaGreatDoor
namespace Go.Proofs.YtbinmgpfkjmijaaGreatDoor
open Go Go.RowKit

theorem info8 : (Tryz.prog.info? 5).map (fun i => (i.zero, i.size, i.bytes)) = some (some (.int .u8 0), 1, 1) := by kernel_rfl

theorem wp_append {w : World} {ops : Array Oper} {rest : List Oper} {o : Oper} {a : Act} {Q : Exit → Act → World → Prop} (hgd : o.guard = none) (s x : Operand)
    (ho : o.op = .call { callee := .builtin .append, args := #[s, x], argTypes := #[37, 37] }) (base : Nat) (v : Value) (pre : List UInt8) (hs : a.eval s = v) (hown : OwnB w base v pre)
    (ad : Addr) (c : Nat) (l : List UInt8) (hx : a.eval x = .slice (some ad) l.length c) (hnews : ∀ j u, (l.map byteV)[j]? = some u → w.cell? (ad.add j) = some u)
    (hlen : pre.length + l.length ≤ 140737488355328) (hbase : base ≤ w.heap.size)
    (h : ∀ v' w', OwnB w' base v' (pre ++ l) → Below base w w' → wpList Tryz.prog ops Q rest (a.put o.dst v') w') : wpList Tryz.prog ops Q (o :: rest) a w := by
  obtain ⟨i0, hi, hz0, hz1, hz2⟩ := info_parts info8
  refine wpList_append_own w hgd s x 37 ho base 5 i0 (.int .u8 0) 1 1 Tryz.underlying37 hi hz0 hz1 hz2 rfl (by decide) v pre.length (pre.map byteV) hs hown ad l.length c (l.map byteV) hx (by simp) hnews
    (fun u hu => by obtain ⟨b, _, rfl⟩ := List.mem_map.1 hu; rfl) (by unfold maxLen; omega) (by omega) hbase fun v' w' h1 h2 _ => h v' w' ?_ ?_
  · unfold OwnB; rw [List.length_append, List.map_append]; exact h1
  · refine ((Below.refl base w).grown h2 hbase fun k hk => ?_)
    have := hown.lt k hk.symm.symm
    exact this.1

/-- One byte: it lies in a block of its own first. -/
theorem wp_append1 {w : World} {ops : Array Oper} {rest : List Oper} {o : Oper} {a : Act} {Q : Exit → Act → World → Prop} (hgd : o.guard = none) (s x : Operand)
    (ho : o.op = .call { callee := .builtin .append, args := #[s, x], argTypes := #[37, 37] }) (base : Nat) (v : Value) (pre : List UInt8) (z : Int) (hs : a.eval s = v) (hown : OwnB w base v pre)
    (b : UInt8) (hz : z = b.toNat) (hx : a.eval x = .slice (some ⟨w.heap.size, 0, none⟩) 1 1)
    (hlen : pre.length + 1 ≤ 140737488355328) (hbase : base ≤ w.heap.size)
    (h : ∀ v' w', OwnB w' base v' (pre ++ [b]) → Below base w w' → wpList Tryz.prog ops Q rest (a.put o.dst v') w') : wpList Tryz.prog ops Q (o :: rest) a (w.alloc (.cells #[.int .u8 z] 5)) := by
  subst hz
  refine wp_append hgd s x ho base v pre hs (World.ownsRow.alloc hown _) ⟨w.heap.size, 0, none⟩ 1 [b] hx (cell_one_new _ _ _) hlen (by simp; omega) fun v' w' h1 h2 => h v' w' h1 ?_
  exact ((Below.refl base w).alloc hbase _).trans h2

theorem byte_of {m : Nat} (h : m < 256) : ((m : Nat) : Int) = ((UInt8.ofNat m).toNat : Int) := by
  rw [show (UInt8.ofNat m).toNat = m % 256 from UInt8.toNat_ofNat']; omega
theorem or128 (m : Nat) : bits .or .u8 ((m : Int) % 256) 128 = ((m % 128 + 128 : Nat) : Int) := by
  have h : ∀ x : Nat, x < 256 → x ||| 128 = x % 128 + 128 := by decide +kernel
  have e : ((m : Int) % 256) = ((m % 256 : Nat) : Int) := by omega
  rw [e, show (128 : Int) = ((128 : Nat) : Int) from rfl, u8_or_nat _ _ (by omega) (by decide), h _ (by omega)]
  congr 2; omega
end Go.Proofs.YtbinmgpfkjmijaaGreatDoor
namespace Go.Proofs.YtbinmgpfkjmijaaGreatDoor
open Go Go.RowKit

theorem run_append_none {P : Program} {w : World} (base : Nat) (t ty e : TypeId) (i : TypeInfo) (size : Nat) (ht : P.underlying t = some (.slice e)) (hi : P.info? e = some i)
    (v : Value) (n c : Nat) (xs : List Value) (hown : w.ownsRow base e size v n xs) :
    (Builtin.append_ #[t, t] ty #[v, .slice none 0 c]).run P w = .ok v w := by
  rcases hown.2 with ⟨rfl, rfl⟩ | ⟨g, cap, cur, rfl, _, _, hnc, _⟩
  · simp [Builtin.append_, run_underlying ht, sizeOf, typeInfo, hi, Builtin.lenOf, Builtin.firstCells]
  · simp [Builtin.append_, run_underlying ht, sizeOf, typeInfo, hi, Builtin.lenOf, Builtin.firstCells, hnc, storeCells]

theorem wp_append_bytes {w : World} {ops : Array Oper} {rest : List Oper} {o : Oper} {a : Act} {Q : Exit → Act → World → Prop} (hgd : o.guard = none) (s x : Operand)
    (ho : o.op = .call { callee := .builtin .append, args := #[s, x], argTypes := #[37, 37] }) (base : Nat) (v : Value) (pre : List UInt8) (hs : a.eval s = v) (hown : OwnB w base v pre)
    (v2 : Value) (l : List UInt8) (n : Nat) (hx : a.eval x = v2) (hv : Bytes n w v2 l)
    (hlen : pre.length + l.length ≤ 140737488355328) (hbase : base ≤ w.heap.size)
    (h : ∀ v' w', OwnB w' base v' (pre ++ l) → Below base w w' → wpList Tryz.prog ops Q rest (a.put o.dst v') w') : wpList Tryz.prog ops Q (o :: rest) a w := by
  obtain ⟨ao, cap, rfl, h1, h2, h3⟩ := id hv
  cases ao with
  | none =>
    have hl : l = [] := by
      rcases l with _ | ⟨y, l⟩
      · rfl
      · obtain ⟨b, off, e, _⟩ := h3 (by simp)
        cases e
    subst hl
    obtain ⟨i0, hi, hz0, hz1, hz2⟩ := info_parts info8
    refine wpList_plain hgd fun K hK => ?_
    have hrun := run_append_none (P := Tryz.prog) (w := w) base 37 o.type 5 i0 1 Tryz.underlying37 hi v pre.length cap (pre.map byteV) hown
    unfold Oper.wp
    simp only [List.length_nil] at hx
    simp [execOp, ho, resolve, invoke, builtin, hs, hx, hrun, Result.andThen]
    exact hK _ _ (h v w (by simpa using hown) (Below.refl _ _))
  | some ad => exact wp_append hgd s x ho base v pre hs hown ad cap l hx hv.news.2 hlen hbase h
theorem own_empty (w : World) : OwnB (w.alloc (.cells #[] 5)) w.heap.size (.slice (some ⟨w.heap.size, 0, none⟩) 0 0) [] := OwnB.lit w [] (by simp [maxLen])
theorem strAt {w : World} {v : Value} {l : List UInt8} (h : Bytes w.heap.size w v l) : (convert 37 9 v).run Tryz.prog w = .ok (.string (str l)) w :=
  h.str _ _ _ Tryz.underlying37 Tryz.underlying5 Tryz.underlying9
def TrueAdds (w : World) (e : Ending) (w' : World) : Prop := e = .returned (.bool true) ∧ Adds w w'
theorem OwnB.adds {w w' : World} {b : Nat} {v : Value} {l : List UInt8} (h : OwnB w b v l) (ha : Adds w w') : OwnB w' b v l := h.below ha fun g hg => (World.ownsRow.lt h g hg).2
end Go.Proofs.YtbinmgpfkjmijaaGreatDoor
