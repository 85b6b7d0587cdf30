/- Plain functions on sites, pairs, texts and bytes that say what package site answers; nothing of the program. -/
import Derived.Lib.AtoiAllCases
import Derived.Lib.ItoaNum
import Derived.Lib.Strings
import Derived.Lib.SlTrimSet
import Derived.Test.YtbinmgpfkjmijaaGreatDoorBA
namespace Go.Proofs.YtbinmgpfkjmijaaGreatDoor
open Go.Lib

/-- A site: a function's number, a place. -/
abbrev Si := Int × Int
abbrev Pr := Si × Si
def ordI (x y : Int) : Int := if x < y then -1 else if y < x then 1 else 0
def ordS (a b : Si) : Int := if ordI a.1 b.1 = 0 then ordI a.2 b.2 else ordI a.1 b.1
def ordP (x y : Pr) : Int := if ordS x.1 y.1 = 0 then ordS x.2 y.2 else ordS x.1 y.1
def rightS (s : Si) : Bool := decide (0 ≤ s.1 ∧ s.1 < 32 ∧ 0 ≤ s.2 ∧ s.2 < 512)
def mayP (x : Pr) : Bool := rightS x.1 && rightS x.2 && decide (ordS x.1 x.2 ≤ 0)
def ofP (a b : Si) : Pr := if 0 < ordS a b then (b, a) else (a, b)
def txtS (s : Si) : List UInt8 := 102 :: (decDigits s.1.toNat ++ 58 :: decDigits s.2.toNat)
def dig10 : List UInt8 := [48, 49, 50, 51, 52, 53, 54, 55, 56, 57]

theorem rightS_iff {s : Si} : rightS s = true ↔ 0 ≤ s.1 ∧ s.1 < 32 ∧ 0 ≤ s.2 ∧ s.2 < 512 := by unfold rightS; simp

/-! ### The order -/
theorem ordI_eq {x y : Int} : ordI x y = 0 ↔ x = y := by unfold ordI; split <;> (try split) <;> omega
theorem ordI_neg (x y : Int) : ordI y x = -ordI x y := by unfold ordI; split <;> split <;> (try split) <;> omega
theorem ordI_lt {x y : Int} : ordI x y < 0 ↔ x < y := by unfold ordI; split <;> (try split) <;> omega
theorem ordI_cases (x y : Int) : ordI x y = -1 ∨ ordI x y = 0 ∨ ordI x y = 1 := by unfold ordI; split <;> (try split) <;> simp
theorem ordS_cases (a b : Si) : ordS a b = -1 ∨ ordS a b = 0 ∨ ordS a b = 1 := by unfold ordS; split <;> exact ordI_cases _ _
theorem ordP_cases (a b : Pr) : ordP a b = -1 ∨ ordP a b = 0 ∨ ordP a b = 1 := by unfold ordP; split <;> exact ordS_cases _ _
theorem ordS_neg (a b : Si) : ordS b a = -ordS a b := by
  unfold ordS
  rw [ordI_neg a.1 b.1, ordI_neg a.2 b.2]
  by_cases h : ordI a.1 b.1 = 0
  · simp [h]
  · rw [if_neg h, if_neg (by omega)]
theorem ordS_eq {a b : Si} : ordS a b = 0 ↔ a = b := by
  unfold ordS
  by_cases h : ordI a.1 b.1 = 0
  · rw [if_pos h, ordI_eq, Prod.ext_iff]
    have := ordI_eq.1 h
    simp [this]
  · rw [if_neg h]
    constructor
    · intro e; exact absurd e h
    · rintro rfl; exact absurd (ordI_eq.2 rfl) h
theorem ordS_lt {a b : Si} : ordS a b < 0 ↔ a.1 < b.1 ∨ (a.1 = b.1 ∧ a.2 < b.2) := by
  unfold ordS
  by_cases h : ordI a.1 b.1 = 0
  · rw [if_pos h, ordI_lt]
    have := ordI_eq.1 h
    omega
  · rw [if_neg h, ordI_lt]
    have : a.1 ≠ b.1 := fun e => h (ordI_eq.2 e)
    omega
theorem ordS_trans {a b c : Si} (h1 : ordS a b ≤ 0) (h2 : ordS b c ≤ 0) : ordS a c ≤ 0 := by
  have e : ∀ x y : Si, ordS x y ≤ 0 ↔ (x.1 < y.1 ∨ (x.1 = y.1 ∧ x.2 ≤ y.2)) := fun x y => by
    rw [show ordS x y ≤ 0 ↔ (ordS x y < 0 ∨ ordS x y = 0) by omega, ordS_lt, ordS_eq, Prod.ext_iff]; omega
  rw [e] at *
  omega
theorem ordP_neg (a b : Pr) : ordP b a = -ordP a b := by
  unfold ordP
  rw [ordS_neg a.1 b.1, ordS_neg a.2 b.2]
  by_cases h : ordS a.1 b.1 = 0
  · simp [h]
  · rw [if_neg h, if_neg (by omega)]
theorem ordP_eq {a b : Pr} : ordP a b = 0 ↔ a = b := by
  unfold ordP
  by_cases h : ordS a.1 b.1 = 0
  · rw [if_pos h, ordS_eq, Prod.ext_iff (x := a)]
    have := ordS_eq.1 h
    simp [this]
  · rw [if_neg h]
    constructor
    · intro e; exact absurd e h
    · rintro rfl; exact absurd (ordS_eq.2 rfl) h
theorem ordP_lt {a b : Pr} : ordP a b < 0 ↔ ordS a.1 b.1 < 0 ∨ (a.1 = b.1 ∧ ordS a.2 b.2 < 0) := by
  unfold ordP
  by_cases h : ordS a.1 b.1 = 0
  · rw [if_pos h]
    have := ordS_eq.1 h
    simp [this, (ordS_eq (a := b.1) (b := b.1)).2 rfl]
  · rw [if_neg h]
    have : a.1 ≠ b.1 := fun e => h (ordS_eq.2 e)
    simp [this]
theorem ordP_flat {a b : Pr} : ordP a b < 0 ↔ a.1.1 < b.1.1 ∨ (a.1.1 = b.1.1 ∧ (a.1.2 < b.1.2 ∨ (a.1.2 = b.1.2 ∧ (a.2.1 < b.2.1 ∨ (a.2.1 = b.2.1 ∧ a.2.2 < b.2.2))))) := by
  rw [ordP_lt, ordS_lt, ordS_lt, Prod.ext_iff]; omega
theorem ordP_trans {a b c : Pr} (h1 : ordP a b < 0) (h2 : ordP b c < 0) : ordP a c < 0 := by
  rw [ordP_flat] at *; omega

theorem ofP_swap (a b : Si) : ofP a b = ofP b a := by
  unfold ofP
  rw [ordS_neg a b]
  rcases ordS_cases a b with h | h | h
  · rw [h]; simp
  · have := ordS_eq.1 h
    subst this; rw [h]; rfl
  · rw [h]; simp
theorem ofP_le (a b : Si) : ordS (ofP a b).1 (ofP a b).2 ≤ 0 := by
  unfold ofP
  split
  · show ordS b a ≤ 0
    rw [ordS_neg a b]; omega
  · show ordS a b ≤ 0
    omega
theorem mayP_of (a b : Si) : mayP (ofP a b) = (rightS a && rightS b) := by
  have h := ofP_le a b
  unfold mayP
  rw [decide_eq_true h, Bool.and_true]
  unfold ofP
  split
  · exact Bool.and_comm _ _
  · rfl

/-! ### Texts -/
theorem dec_step7 (P : Nat → Prop) (h1 : ∀ n, n < 10 → P n) (h2 : ∀ n, ¬ n < 10 → P (n / 10) → P n) (n : Nat) : P n := by
  induction n using Nat.strongRecOn with
  | _ n ih =>
    by_cases h : n < 10
    · exact h1 n h
    · exact h2 n h (ih _ (by omega))
theorem dec_lo {n : Nat} (h : n < 10) : decDigits n = [UInt8.ofNat (48 + n)] := by rw [decDigits, dif_pos h]
theorem dec_hi {n : Nat} (h : ¬ n < 10) : decDigits n = decDigits (n / 10) ++ [UInt8.ofNat (48 + n % 10)] := by rw [decDigits, dif_neg h]
theorem digit_nat {d : Nat} (h : d < 10) : (UInt8.ofNat (48 + d)).toNat = 48 + d := by rw [UInt8.toNat_ofNat']; omega
theorem dec_isDigit (n : Nat) : ∀ c ∈ decDigits n, 48 ≤ c.toNat ∧ c.toNat ≤ 57 := by
  induction n using dec_step7 with
  | h1 n h => rw [dec_lo h]; intro c hc; simp only [List.mem_singleton] at hc; subst hc; rw [digit_nat h]; omega
  | h2 n h ih =>
    rw [dec_hi h]; intro c hc
    rcases List.mem_append.1 hc with hc | hc
    · exact ih c hc
    · simp only [List.mem_singleton] at hc; subst hc; rw [digit_nat (by omega)]; omega
theorem dec_some (n : Nat) : decDigits n ≠ [] := by
  intro h
  have := decDigits_length n
  rw [h] at this
  have := nDigits_pos n
  simp at *; omega
theorem dig10_fin : ∀ k : Fin 256, dig10.contains (UInt8.ofNat k.val) = decide (48 ≤ k.val ∧ k.val ≤ 57) := by decide +kernel
theorem dig10_has (c : UInt8) : dig10.contains c = decide (48 ≤ c.toNat ∧ c.toNat ≤ 57) := by
  have h := dig10_fin ⟨c.toNat, c.toNat_lt⟩
  simpa using h
theorem p10_append : ∀ (l r : List UInt8) (acc a : Nat), parseUint10 acc l = .ok a → parseUint10 acc (l ++ r) = parseUint10 a r
  | [], r, acc, a, h => by simp only [parseUint10] at h; injection h with h; subst h; rfl
  | c :: l, r, acc, a, h => by
    simp only [List.cons_append, parseUint10] at h ⊢
    split
    · rename_i h1
      rw [if_pos h1] at h
      split
      · rename_i h2; rw [if_pos h2] at h; cases h
      · rename_i h2
        rw [if_neg h2] at h
        split
        · rename_i h3; rw [if_pos h3] at h; cases h
        · rename_i h3; rw [if_neg h3] at h; exact p10_append l r _ a h
    · rename_i h1; rw [if_neg h1] at h; cases h
theorem p10_dec (n : Nat) : n < 100000 → parseUint10 0 (decDigits n) = .ok n := by
  induction n using dec_step7 with
  | h1 n h =>
    intro _
    rw [dec_lo h]
    simp only [parseUint10, digit_nat h]
    rw [if_pos (by omega), if_neg (by omega), if_neg (by omega)]
    congr 1; omega
  | h2 n h ih =>
    intro hn
    rw [dec_hi h, p10_append _ _ _ _ (ih (by omega))]
    simp only [parseUint10, digit_nat (show n % 10 < 10 by omega)]
    rw [if_pos (by omega), if_neg (by omega), if_neg (by omega)]
    congr 1; omega
theorem atoi_dec (n : Nat) (hn : n < 100000) : atoiAll (decDigits n) = .ok (n : Int) := by
  have hp := p10_dec n hn
  have hd := dec_isDigit n
  have hne := dec_some n
  cases h : decDigits n with
  | nil => exact absurd h hne
  | cons c r =>
    rw [h] at hp hd
    have hc := hd c (by simp)
    rw [atoiAll_plain c r (by omega) (by omega)]
    unfold parseMag
    rw [if_neg (by simp), hp]
    unfold signless
    simp only
    rw [if_neg (by omega)]

/-- One number behind its mark, and what is behind it. -/
def partT (m : UInt8) (l : List UInt8) : Option (Int × List UInt8) :=
  if hasPrefix l [m] = true then
    match atoiAll (trimSuffix (trimPrefix l [m]) (trimLeftS (trimPrefix l [m]) dig10)) with
    | .ok v => some (v, trimLeftS (trimPrefix l [m]) dig10)
    | _ => none
  else none
def readT (l : List UInt8) : Option Si :=
  match partT 102 l with
  | some (f, r) => match partT 58 r with
    | some (p, _) => if rightS (f, p) then some (f, p) else none
    | none => none
  | none => none
def parseT (l : List UInt8) : Option Si :=
  match readT l with
  | some s => if txtS s = l then some s else none
  | none => none

theorem partT_dec (m : UInt8) (n : Nat) (hn : n < 100000) (r : List UInt8) (hr : ∀ c, r.head? = some c → ¬ (48 ≤ c.toNat ∧ c.toNat ≤ 57)) : partT m (m :: (decDigits n ++ r)) = some ((n : Int), r) := by
  have h1 : hasPrefix (m :: (decDigits n ++ r)) [m] = true := by simp [hasPrefix]
  have h2 : trimPrefix (m :: (decDigits n ++ r)) [m] = decDigits n ++ r := by unfold trimPrefix; rw [if_pos h1]; rfl
  have h3 : trimLeftS (decDigits n ++ r) dig10 = r := by
    unfold trimLeftS
    rw [List.dropWhile_append_of_pos (fun c hc => by rw [dig10_has]; exact decide_eq_true (dec_isDigit n c hc))]
    cases r with
    | nil => rfl
    | cons c t => rw [List.dropWhile_cons_of_neg]; rw [dig10_has]; simpa using hr c rfl
  have h4 : trimSuffix (decDigits n ++ r) r = decDigits n := by
    unfold trimSuffix
    rw [if_pos (by unfold hasSuffix; rw [List.isSuffixOf_iff_suffix]; exact List.suffix_append _ _)]
    simp
  unfold partT
  rw [if_pos h1, h2, h3, h4, atoi_dec n hn]
theorem readT_txt {s : Si} (h : rightS s = true) : readT (txtS s) = some s := by
  have hr := rightS_iff.1 h
  obtain ⟨f, p⟩ := s
  simp only at hr
  unfold readT txtS
  simp only
  rw [partT_dec 102 f.toNat (by omega) _ (fun c hc => by simp at hc; subst hc; decide)]
  simp only
  have := partT_dec 58 p.toNat (by omega) [] (fun c hc => by simp at hc)
  rw [List.append_nil] at this
  rw [this]
  simp only
  rw [show ((f.toNat : Nat) : Int) = f by omega, show ((p.toNat : Nat) : Int) = p by omega, if_pos h]
theorem readT_right {l : List UInt8} {s : Si} (h : readT l = some s) : rightS s = true := by
  unfold readT at h
  split at h
  · split at h
    · split at h
      · injection h with h; subst h; assumption
      · cases h
    · cases h
  · cases h
theorem parseT_iff {l : List UInt8} {s : Si} : parseT l = some s ↔ rightS s = true ∧ txtS s = l := by
  constructor
  · intro h
    unfold parseT at h
    split at h
    · rename_i s' h'
      split at h
      · injection h with h; subst h
        exact ⟨readT_right h', by assumption⟩
      · cases h
    · cases h
  · rintro ⟨h1, rfl⟩
    unfold parseT
    rw [readT_txt h1]
    simp
theorem txtS_inj {a b : Si} (ha : rightS a = true) (hb : rightS b = true) (h : txtS a = txtS b) : a = b := by
  have h1 := parseT_iff.2 ⟨ha, rfl⟩
  rw [h, parseT_iff.2 ⟨hb, rfl⟩] at h1
  injection h1 with h1
  exact h1.symm

/-- The document's way to read digits. -/
def digF (acc : Nat) : List UInt8 → Option Nat
  | [] => some acc
  | c :: r => if 48 ≤ c.toNat ∧ c.toNat ≤ 57 ∧ acc ≤ 999 then digF (10 * acc + (c.toNat - 48)) r else none
def digR (l : List UInt8) : Option Nat := if l = [] then none else digF 0 l
theorem digF_append : ∀ (l r : List UInt8) (acc a : Nat), digF acc l = some a → digF acc (l ++ r) = digF a r
  | [], r, acc, a, h => by simp only [digF] at h; injection h with h; subst h; rfl
  | c :: l, r, acc, a, h => by
    simp only [List.cons_append, digF] at h ⊢
    split
    · rename_i h1; rw [if_pos h1] at h; exact digF_append l r _ a h
    · rename_i h1; rw [if_neg h1] at h; cases h
theorem digF_dec (n : Nat) : n < 10000 → digF 0 (decDigits n) = some n := by
  induction n using dec_step7 with
  | h1 n h =>
    intro _
    rw [dec_lo h]
    simp only [digF, digit_nat h]
    rw [if_pos (by omega)]
    congr 1; omega
  | h2 n h ih =>
    intro hn
    rw [dec_hi h, digF_append _ _ _ _ (ih (by omega))]
    simp only [digF, digit_nat (show n % 10 < 10 by omega)]
    rw [if_pos (by omega)]
    congr 1; omega
theorem digR_dec (n : Nat) (h : n < 10000) : digR (decDigits n) = some n := by
  unfold digR; rw [if_neg (dec_some n)]; exact digF_dec n h
theorem digF_bound : ∀ (l : List UInt8) (acc a : Nat), acc ≤ 9999 → digF acc l = some a → a ≤ 9999
  | [], acc, a, h, e => by simp only [digF] at e; injection e with e; omega
  | c :: r, acc, a, h, e => by
    simp only [digF] at e
    split at e
    · exact digF_bound r _ a (by omega) e
    · cases e
theorem digR_bound {l : List UInt8} {a : Nat} (h : digR l = some a) : a ≤ 9999 := by
  unfold digR at h
  split at h
  · cases h
  · exact digF_bound l 0 a (by omega) h
/-- What the document's Parse looks at at place i. -/
def refAt (l : List UInt8) (i : Nat) : Option Si :=
  if l.getD 0 0 = 102 ∧ l.getD i 0 = 58 then
    match digR ((l.take i).drop 1), digR (l.drop (i + 1)) with
    | some f, some p => if rightS ((f : Int), (p : Int)) = true ∧ txtS ((f : Int), (p : Int)) = l then some ((f : Int), (p : Int)) else none
    | _, _ => none
  else none
theorem refAt_parse {l : List UInt8} {i : Nat} {s : Si} (h : refAt l i = some s) : parseT l = some s := by
  unfold refAt at h
  split at h
  · split at h
    · split at h
      · rename_i hh
        injection h with h; subst h
        exact parseT_iff.2 hh
      · cases h
    · cases h
  · cases h
theorem parse_refAt {l : List UInt8} {s : Si} (h : parseT l = some s) : ∃ i, 1 ≤ i ∧ i < l.length ∧ refAt l i = some s := by
  obtain ⟨hr, rfl⟩ := parseT_iff.1 h
  have hr' := rightS_iff.1 hr
  obtain ⟨f, p⟩ := s
  simp only at hr'
  have hl := decDigits_length f.toNat
  refine ⟨(decDigits f.toNat).length + 1, by omega, by simp [txtS], ?_⟩
  have e1 : (txtS (f, p)).getD 0 0 = 102 := rfl
  have e2 : (txtS (f, p)).getD ((decDigits f.toNat).length + 1) 0 = 58 := by simp [txtS]
  have e3 : ((txtS (f, p)).take ((decDigits f.toNat).length + 1)).drop 1 = decDigits f.toNat := by simp [txtS]
  have e4 : (txtS (f, p)).drop ((decDigits f.toNat).length + 1 + 1) = decDigits p.toNat := by
    unfold txtS
    rw [List.drop_succ_cons, List.drop_append]
    simp
  unfold refAt
  rw [if_pos ⟨e1, e2⟩, e3, e4, digR_dec _ (by omega), digR_dec _ (by omega)]
  simp only
  rw [show ((f.toNat : Nat) : Int) = f by omega, show ((p.toNat : Nat) : Int) = p by omega, if_pos ⟨hr, rfl⟩]

/-! ### Bytes -/
def byS (s : Si) : List UInt8 := leB 1 s.1.toNat ++ leB 2 s.2.toNat
def siteB (l : List UInt8) : Si := (((unB (l.take 1) : Nat) : Int), ((unB ((l.drop 1).take 2) : Nat) : Int))
def readB (l : List UInt8) : Si × Int := if l.length < 3 then ((0, 0), 110) else if rightS (siteB l) then (siteB l, 0) else ((0, 0), 170)
theorem byS_length (s : Si) : (byS s).length = 3 := by simp [byS, leB_length]
theorem readB_by {s : Si} (h : rightS s = true) (r : List UInt8) : readB (byS s ++ r) = (s, 0) := by
  have hr := rightS_iff.1 h
  have e : siteB (byS s ++ r) = s := by
    unfold siteB byS
    have e1 : (leB 1 s.1.toNat ++ leB 2 s.2.toNat ++ r).take 1 = leB 1 s.1.toNat := by
      rw [List.append_assoc, List.take_left' (leB_length _ _)]
    have e2 : ((leB 1 s.1.toNat ++ leB 2 s.2.toNat ++ r).drop 1).take 2 = leB 2 s.2.toNat := by
      rw [List.append_assoc, List.drop_left' (leB_length _ _), List.take_left' (leB_length _ _)]
    rw [e1, e2, unB_leB, unB_leB]
    apply Prod.ext
    · show ((s.1.toNat % 256 ^ 1 : Nat) : Int) = s.1
      omega
    · show ((s.2.toNat % 256 ^ 2 : Nat) : Int) = s.2
      omega
  unfold readB
  rw [if_neg (by simp [byS_length]), e, if_pos h]
end Go.Proofs.YtbinmgpfkjmijaaGreatDoor
