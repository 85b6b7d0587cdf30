/- Instructions' texts, and the instruction of a text: plain. -/
import Derived.Test.YtkodjmdghjcndaaGreatDoorIX3
import Derived.Test.YtkodjmdghjcndaaGreatDoorIQ1
namespace Go.Proofs.YtkodjmdghjcndaaGreatDoor
open Go Go.RowKit Go.Shelf Go.Lib

theorem isD_fin : ∀ k : Fin 256, isD (UInt8.ofNat k.val) = decide (48 ≤ k.val ∧ k.val ≤ 57) := by decide +kernel
theorem isD_has (c : UInt8) : isD c = decide (48 ≤ c.toNat ∧ c.toNat ≤ 57) := by
  have h := isD_fin ⟨c.toNat, c.toNat_lt⟩
  simpa using h
theorem parseM_app (M : Nat) : ∀ (l r : List UInt8) (acc a : Nat), parseUintM M acc l = .ok a → parseUintM M acc (l ++ r) = parseUintM M a r
  | [], r, acc, a, h => by simp only [parseUintM] at h; injection h with h; subst h; rfl
  | c :: l, r, acc, a, h => by
    simp only [List.cons_append, parseUintM] at h ⊢
    split
    · rename_i h1
      rw [if_pos h1] at h
      split
      · rename_i h2; rw [if_pos h2] at h; cases h
      · rename_i h2
        rw [if_neg h2] at h
        split
        · rename_i h3; rw [if_pos h3] at h; cases h
        · rename_i h3; rw [if_neg h3] at h; exact parseM_app M l r _ a h
    · rename_i h1; rw [if_neg h1] at h; cases h
theorem parse32_dec (n : Nat) : n < 4294967296 → parseUintM 4294967295 0 (decDigits n) = .ok n := by
  induction n using dec_step7 with
  | h1 n h =>
    intro _
    rw [dec_lo h]
    simp only [parseUintM, digit_nat h]
    rw [if_pos (by omega), if_neg (by omega), if_neg (by omega)]
    congr 1; omega
  | h2 n h ih =>
    intro hn
    rw [dec_hi h, parseM_app _ _ _ _ _ (ih (by omega))]
    simp only [parseUintM, digit_nat (show n % 10 < 10 by omega)]
    rw [if_pos (by omega), if_neg (by omega), if_neg (by omega)]
    congr 1; omega
theorem parseB_dec (n : Nat) (h : n < 4294967296) : parseUintB 32 (decDigits n) = .ok n := by
  unfold parseUintB
  rw [if_neg (dec_some n)]
  exact parse32_dec n h
theorem digsOf_dec (n : Nat) (rest : List UInt8) (hr : ∀ c, rest.head? = some c → isD c = false) : digsOf (decDigits n ++ rest) = decDigits n := by
  unfold digsOf
  rw [List.takeWhile_append_of_pos (fun c hc => by rw [isD_has]; exact decide_eq_true (dec_isDigit n c hc))]
  cases rest with
  | nil => simp
  | cons c t => rw [List.takeWhile_cons_of_neg (by rw [hr c rfl]; decide)]; simp
theorem wordN_tok (mk : List UInt8) (n : Nat) (rest : List UInt8) (hn : n < 4294967296) (hr : ∀ c, rest.head? = some c → isD c = false) :
    wordN mk (32 :: (mk ++ decDigits n) ++ rest) = some (n, (32 :: (mk ++ decDigits n)).length) := by
  have e : 32 :: (mk ++ decDigits n) ++ rest = (32 :: mk) ++ (decDigits n ++ rest) := by simp
  have hp : isP (32 :: mk) ((32 :: mk) ++ (decDigits n ++ rest)) = true := List.isPrefixOf_iff_prefix.2 (List.prefix_append _ _)
  have hb : behindP (32 :: mk) ((32 :: mk) ++ (decDigits n ++ rest)) = decDigits n ++ rest := by
    unfold behindP
    rw [if_pos hp, List.drop_left]
  unfold wordN
  rw [e, if_pos hp, hb, digsOf_dec n rest hr, parseB_dec n hn]
  simp only [List.length_cons, List.length_append, Option.some.injEq, Prod.mk.injEq, true_and]
  omega
def flatT (P : List (Nat × Nat)) (x : In) : List UInt8 := P.flatMap fun p => if p.2 = 3 then [] else 32 :: tokP p x
theorem flatT_cons (p : Nat × Nat) (t : List (Nat × Nat)) (x : In) : flatT (p :: t) x = (if p.2 = 3 then [] else 32 :: tokP p x) ++ flatT t x := by simp [flatT]
theorem flatT_head : ∀ (P : List (Nat × Nat)) (x : In) (c : UInt8), (flatT P x).head? = some c → c = 32
  | [], x, c, h => by simp [flatT] at h
  | p :: t, x, c, h => by
    rw [flatT_cons] at h
    by_cases h3 : p.2 = 3
    · rw [if_pos h3, List.nil_append] at h
      exact flatT_head t x c h
    · rw [if_neg h3] at h
      simpa using h.symm
def fillT (P : List (Nat × Nat)) (x y : In) : In := P.foldl (fun r p => if p.2 = 3 then r else putP p.1 r (getP p.1 x)) y
theorem textPl_flat : ∀ (P : List (Nat × Nat)) (pre : List UInt8) (x y : In), (∀ p ∈ P, boundP p x) → textPl P (pre ++ flatT P x) pre.length y = some (fillT P x y)
  | [], pre, x, y, _ => by simp [textPl, fillT]
  | p :: t, pre, x, y, h => by
    have hb := h p List.mem_cons_self
    rw [flatT_cons, textPl]
    by_cases h3 : p.2 = 3
    · rw [if_pos h3, if_pos h3, List.nil_append, textPl_flat t pre x y (fun q hq => h q (List.mem_cons_of_mem _ hq))]
      simp [fillT, h3]
    · have hw := wordN_tok (markN p.2) (getP p.1 x).toNat (flatT t x) (by have := hb.2.1; have := hb.1; omega) (fun c hc => by rw [flatT_head t x c hc]; decide)
      rw [if_neg h3, if_neg h3, List.drop_left]
      unfold tokP
      rw [hw]
      have e0 : ((wU (some ((getP p.1 x).toNat, (32 :: (markN p.2 ++ decDigits (getP p.1 x).toNat)).length)) : Nat) : Int) = getP p.1 x := by
        show (((getP p.1 x).toNat : Nat) : Int) = _
        have := hb.1
        omega
      rw [e0]
      show (if (0 : Int) = 0 then textPl t _ (pre.length + (32 :: (markN p.2 ++ decDigits (getP p.1 x).toNat)).length) _ else none) = _
      rw [if_pos rfl, ← List.append_assoc, ← List.length_append, textPl_flat t _ x _ (fun q hq => h q (List.mem_cons_of_mem _ hq))]
      simp [fillT, h3]
def startI (x : In) : In := if x.1 = 3 then (3, 0, 0, 0, x.2.2.2.2) else (x.1, 0, 0, 0, 0)
theorem may_text {op : Nat} (h1 : 1 ≤ op) (h2 : op ≤ 19) {x : In} (hx : x.1 = op) (h : holdsL (partsN op) x = true) :
    fillT (partsN op) x (startI x) = x ∧ (op = 3 → 1 ≤ x.2.2.2.2 ∧ x.2.2.2.2 ≤ 12) := by
  obtain ⟨o, a, b, c, i⟩ := x
  obtain rfl : o = op := hx
  match op, h1, h2 with
  | 1, _, _ | 2, _, _ | 3, _, _ | 4, _, _ | 5, _, _ | 6, _, _ | 7, _, _ | 8, _, _ | 9, _, _ | 10, _, _ | 11, _, _ | 12, _, _ | 13, _, _ | 14, _, _ | 15, _, _ | 16, _, _ | 17, _, _ | 18, _, _ | 19, _, _ =>
    simp [holdsL, partsN, holdsP, bare, putP, getP, loN, hiN] at h
    simp [partsN, fillT, putP, getP, startI] <;> omega
  | k + 20, _, h => exact absurd h (by omega)
theorem kinds_read : ∀ k : Fin 12, pN (str (nmB.getD k.val [])) 12 = k.val + 1 ∧ ∀ c ∈ nmB.getD k.val [], c ≠ 32 := by decide +kernel
theorem ops_read : ∀ k : Fin 20, k.val ≠ 0 → k.val ≠ 3 → (pN (str (nmIB.getD k.val [])) 12 = 0 ∧ opN (str (nmIB.getD k.val [])) 20 = k.val ∧ nmIB.getD k.val [] ≠ []) ∧ ∀ c ∈ nmIB.getD k.val [], c ≠ 32 := by decide +kernel
theorem headOf_app (f r : List UInt8) (hf : ∀ c ∈ f, c ≠ 32) (hr : ∀ c, r.head? = some c → c = 32) : headOf (f ++ r) = f := by
  unfold headOf
  rw [List.takeWhile_append_of_pos (fun c hc => by simpa using hf c hc)]
  cases r with
  | nil => simp
  | cons c t => rw [List.takeWhile_cons_of_neg (by rw [hr c rfl]; decide)]; simp
theorem begunI_eq {l : List UInt8} {k m : Nat} {f : List UInt8} (hf : headOf l = f) (hk : pN (str f) 12 = k) (hm : opN (str f) 20 = m) : begunI l = begunN k m (str f) := by
  unfold begunI begunS
  rw [hf, hk, hm]
theorem begunN_kind {k m : Nat} {s : ByteArray} (h : k ≠ 0) : begunN k m s = some ((3, 0, 0, 0, (k : Int)), s.size) := by unfold begunN; exact if_pos h
theorem begunN_op {m : Nat} {s : ByteArray} (h : s ≠ str []) (hm : m ≠ 0) : begunN 0 m s = some (((m : Int), 0, 0, 0, 0), s.size) := by
  unfold begunN
  rw [if_neg (by omega)]
  exact if_pos ⟨h, hm⟩
theorem begunI_text {x : In} (hm : mayI x = true) (r : List UInt8) (hr : ∀ c, r.head? = some c → c = 32) : begunI (firstI x ++ r) = some (startI x, (firstI x).length) := by
  obtain ⟨op, hop, o1, o2, hl⟩ := mayI_op hm
  have ht := (may_text o1 o2 hop hl).2
  by_cases h3 : op = 3
  · have hx3 : x.1 = 3 := by rw [hop, h3]; rfl
    have hi := ht h3
    obtain ⟨k, hk⟩ : ∃ k : Nat, (x.2.2.2.2 - 1).toNat = k := ⟨_, rfl⟩
    obtain ⟨q1, q2⟩ := kinds_read ⟨k, by omega⟩
    have e : firstI x = nmB.getD k [] := by unfold firstI; rw [if_pos hx3, hk]
    simp only [] at q1 q2
    rw [e]
    generalize nmB.getD k [] = f at q1 q2 ⊢
    rw [begunI_eq (headOf_app f r q2 hr) q1 rfl, begunN_kind (by omega), str_size8]
    unfold startI
    rw [if_pos hx3, show ((k + 1 : Nat) : Int) = x.2.2.2.2 by omega]
  · have hx3 : x.1 ≠ 3 := by rw [hop]; omega
    obtain ⟨⟨q1, q2, q3⟩, q4⟩ := ops_read ⟨op, by omega⟩ (by show op ≠ 0; omega) (by show op ≠ 3; exact h3)
    have e : firstI x = nmIB.getD op [] := by unfold firstI; rw [if_neg hx3, hop]; rfl
    simp only [] at q1 q2 q3 q4
    rw [e]
    generalize nmIB.getD op [] = f at q1 q2 q3 q4 ⊢
    rw [begunI_eq (headOf_app f r q4 hr) q1 q2, begunN_op (fun h => q3 (str_inj h)) (by omega), str_size8]
    unfold startI
    rw [if_neg hx3, hop]
/-- What is told is read. -/
theorem textR_text {x : In} (hm : mayI x = true) : textR (textI x) = some x := by
  obtain ⟨op, hop, o1, o2, hl⟩ := mayI_op hm
  have e : textI x = firstI x ++ flatT (partsN op) x := by rw [textI_cons, hop]; rfl
  have hb := begunI_text hm (flatT (partsN op) x) (flatT_head _ x)
  unfold textR
  rw [e, hb]
  show (if (0 : Int) = 0 then textPl (partsN (startI x).1.toNat) _ (firstI x).length (startI x) else none) = _
  have hs : (startI x).1.toNat = op := by
    unfold startI
    split
    · rename_i h; show (3 : Int).toNat = op; omega
    · show x.1.toNat = op; omega
  rw [if_pos rfl, hs, textPl_flat _ _ _ _ (may_parts o1 o2 hop hl).1, (may_text o1 o2 hop hl).1]
theorem first_ne {x : In} (hm : mayI x = true) : firstI x ≠ [] := by
  obtain ⟨op, hop, o1, o2, hl⟩ := mayI_op hm
  have ht := (may_text o1 o2 hop hl).2
  by_cases h3 : op = 3
  · have hx3 : x.1 = 3 := by rw [hop, h3]; rfl
    have hi := ht h3
    have e : firstI x = nmB.getD (x.2.2.2.2 - 1).toNat [] := by unfold firstI; rw [if_pos hx3]
    rw [e]
    have h : ∀ k : Fin 12, nmB.getD k.val [] ≠ [] := by decide
    exact h ⟨(x.2.2.2.2 - 1).toNat, by omega⟩
  · have hx3 : x.1 ≠ 3 := by rw [hop]; omega
    have e : firstI x = nmIB.getD op [] := by unfold firstI; rw [if_neg hx3, hop]; rfl
    rw [e]
    exact (ops_read ⟨op, by omega⟩ (by show op ≠ 0; omega) (by show op ≠ 3; exact h3)).1.2.2
theorem text_ne {x : In} (hm : mayI x = true) : textI x ≠ [] := by
  rw [textI_cons]
  intro h
  exact first_ne hm (List.append_eq_nil_iff.1 h).1
theorem textI_inj {x y : In} (hx : mayI x = true) (hy : mayI y = true) (h : textI x = textI y) : x = y := by
  have h1 := textR_text hx
  rw [h, textR_text hy] at h1
  exact (Option.some.inj h1).symm
theorem parseI_yes {x : In} (hm : mayI x = true) : parseI (textI x) = (x, 0) := by
  rw [parseI_is, textR_text hm]
  exact parseO_yes (by unfold txtI; rw [if_pos hm])
/-- Either it is the text of one that may be, or none's. -/
theorem parseI_cases (l : List UInt8) : (∃ x, mayI x = true ∧ textI x = l ∧ parseI l = (x, 0)) ∨ ((∀ x, mayI x = true → textI x ≠ l) ∧ parseI l = ((0, 0, 0, 0, 0), 180)) := by
  by_cases h : ∃ x, mayI x = true ∧ textI x = l
  · obtain ⟨x, h1, h2⟩ := h
    exact .inl ⟨x, h1, h2, by rw [← h2]; exact parseI_yes h1⟩
  · refine .inr ⟨fun x h1 h2 => h ⟨x, h1, h2⟩, ?_⟩
    rw [parseI_is]
    cases hr : textR l with
    | none => exact parseO_none l
    | some x =>
      refine parseO_no fun ht => ?_
      unfold txtI at ht
      cases hm : mayI x
      · rw [hm] at ht
        simp only [Bool.false_eq_true, if_false] at ht
        rw [← ht] at hr
        have : textR ([] : List UInt8) = none := by decide +kernel
        rw [this] at hr
        cases hr
      · rw [hm] at ht
        exact h ⟨x, hm, ht⟩
end Go.Proofs.YtkodjmdghjcndaaGreatDoor
