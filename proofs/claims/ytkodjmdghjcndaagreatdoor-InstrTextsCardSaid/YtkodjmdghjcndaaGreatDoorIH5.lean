/- The document's reading of a text is the package's: plain. -/
import Derived.Test.YtkodjmdghjcndaaGreatDoorIH4
namespace Go.Proofs.YtkodjmdghjcndaaGreatDoor
open Go Go.RowKit Go.Shelf

theorem valD_dec (n : Nat) : valD (Lib.decDigits n) = n := by
  induction n using dec_step7 with
  | h1 n h =>
    rw [dec_lo h]
    show 10 * 0 + ((UInt8.ofNat (48 + n)).toNat - 48) = n
    rw [digit_nat h]; omega
  | h2 n h ih =>
    rw [dec_hi h, valD_one, ih, digit_nat (show n % 10 < 10 by omega)]; omega
theorem numOk_dec (n : Nat) (h : n < 4294967296) : numOk (Lib.decDigits n) = true := by
  refine numOk_yes ?_ ?_ (by rw [valD_dec]; omega)
  · exact List.length_pos_iff.2 (fun e => by have := dec_some n; rw [e] at this; simp at this)
  · rw [List.all_eq_true]
    intro c hc
    rw [isD_has]
    exact decide_eq_true (dec_isDigit n c hc)
theorem dec_no32 (n : Nat) : ∀ c ∈ Lib.decDigits n, c ≠ 32 := by
  intro c hc e
  have := dec_isDigit n c hc
  subst e
  have h32 : (32 : UInt8).toNat = 32 := rfl
  omega
/-- The Op of a first word, among the first k; of kinds their number too. -/
def opD (f : List UInt8) : Nat → Nat
  | 0 => 0
  | k + 1 => if k ≠ 2 ∧ wdB k = f then k + 1 else opD f k
def begD (f : List UInt8) : Nat × Nat := if 0 < pN (str f) 12 then (3, pN (str f) 12) else (opD f 19, 0)
def lettD (op : Nat) : List UInt8 := if op = 3 then [97, 98, 99] else lettN op
def markD (c : UInt8) : UInt8 := if c = 110 ∨ c = 105 then 0 else if c = 102 then 102 else 114
def putD (c : UInt8) (x : In) (n : Int) : In := if c = 97 then putP 0 x n else if c = 98 then putP 1 x n else if c = 99 ∨ c = 110 then putP 2 x n else putP 3 x n
def runD : List UInt8 → List (List UInt8) → In → Option In
  | [], _, x => some x
  | _ :: _, [], _ => none
  | c :: cs, w :: r, x => if numA (markD c) w = true then runD cs r (putD c x ((numV (markD c) w : Nat) : Int)) else none
def endD (l : List UInt8) (o : Option In) : In × Int := match o with | none => ((0, 0, 0, 0, 0), 180) | some x => if mayI x = true ∧ textI x = l then (x, 0) else ((0, 0, 0, 0, 0), 180)
def docI (l : List UInt8) : In × Int :=
  if (begD ((wordsL l).headD [])).1 = 0 ∨ (wordsL l).length ≠ (lettD (begD ((wordsL l).headD [])).1).length + 1 then ((0, 0, 0, 0, 0), 180)
  else endD l (runD (lettD (begD ((wordsL l).headD [])).1) (wordsL l).tail (((begD ((wordsL l).headD [])).1 : Int), 0, 0, 0, ((begD ((wordsL l).headD [])).2 : Int)))
/-- A letter's word. -/
def tkL (a b c i : Nat) (l : UInt8) : List UInt8 :=
  if l = 97 then 114 :: Lib.decDigits a else if l = 98 then 114 :: Lib.decDigits b else if l = 99 then 114 :: Lib.decDigits c else if l = 110 then Lib.decDigits c else if l = 105 then Lib.decDigits i else 102 :: Lib.decDigits i
def fieldL (a b c i : Nat) (l : UInt8) : Nat := if l = 97 then a else if l = 98 then b else if l = 99 ∨ l = 110 then c else i
theorem tk_no32 (a b c i : Nat) (l : UInt8) : ∀ d ∈ tkL a b c i l, d ≠ 32 := by
  intro d hd e
  subst e
  unfold tkL at hd
  repeat' split at hd
  all_goals first
    | exact dec_no32 _ _ hd rfl
    | (rcases List.mem_cons.1 hd with h | h
       · exact absurd h (by decide)
       · exact dec_no32 _ _ h rfl)
theorem tok_tk (a b c i : Nat) (l : UInt8) (h : l = 97 ∨ l = 98 ∨ l = 99 ∨ l = 110 ∨ l = 105 ∨ l = 102 ∨ l = 107) : tokL a b c i l = if l = 107 then [] else 32 :: tkL a b c i l := by
  rcases h with rfl | rfl | rfl | rfl | rfl | rfl | rfl <;> simp [tokL, tkL]
theorem words_flat (a b c i : Nat) : ∀ (L : List UInt8) (f : List UInt8), (∀ d ∈ f, d ≠ 32) → (∀ l ∈ L, l = 97 ∨ l = 98 ∨ l = 99 ∨ l = 110 ∨ l = 105 ∨ l = 102 ∨ l = 107) →
    wordsL (f ++ L.flatMap (tokL a b c i)) = f :: (L.filter (fun l => l != 107)).map (tkL a b c i)
  | [], f, hf, _ => by simp [wordsL_one f hf]
  | l :: t, f, hf, hL => by
    have ht := fun m hm => hL m (List.mem_cons_of_mem _ hm)
    rw [List.flatMap_cons, tok_tk a b c i l (hL l List.mem_cons_self)]
    by_cases h : l = 107
    · subst h
      rw [if_pos rfl, List.nil_append, words_flat a b c i t f hf ht]
      simp
    · rw [if_neg h, List.cons_append, wordsL_app f _ hf, words_flat a b c i t _ (tk_no32 a b c i l) ht]
      simp [h]
theorem run_tk (a b c i : Nat) (ha : a < 4294967296) (hb : b < 4294967296) (hc : c < 4294967296) (hi : i < 4294967296) : ∀ (L : List UInt8) (y : In), (∀ l ∈ L, l = 97 ∨ l = 98 ∨ l = 99 ∨ l = 110 ∨ l = 105 ∨ l = 102) →
    runD L (L.map (tkL a b c i)) y = some (L.foldl (fun y l => putD l y ((fieldL a b c i l : Nat) : Int)) y)
  | [], y, _ => rfl
  | l :: t, y, hL => by
    have key : numA (markD l) (tkL a b c i l) = true ∧ numV (markD l) (tkL a b c i l) = fieldL a b c i l := by
      have e102 : (102 : UInt8) ≠ 0 := by decide
      have e114 : (114 : UInt8) ≠ 0 := by decide
      rcases hL l List.mem_cons_self with rfl | rfl | rfl | rfl | rfl | rfl
      · exact ⟨by show numA 114 (114 :: Lib.decDigits a) = true; rw [numA_cons e114]; exact numOk_dec _ ha, by show valD (Lib.decDigits a) = a; exact valD_dec a⟩
      · exact ⟨by show numA 114 (114 :: Lib.decDigits b) = true; rw [numA_cons e114]; exact numOk_dec _ hb, by show valD (Lib.decDigits b) = b; exact valD_dec b⟩
      · exact ⟨by show numA 114 (114 :: Lib.decDigits c) = true; rw [numA_cons e114]; exact numOk_dec _ hc, by show valD (Lib.decDigits c) = c; exact valD_dec c⟩
      · exact ⟨by show numA 0 (Lib.decDigits c) = true; rw [numA_zero]; exact numOk_dec _ hc, by show valD (Lib.decDigits c) = c; exact valD_dec c⟩
      · exact ⟨by show numA 0 (Lib.decDigits i) = true; rw [numA_zero]; exact numOk_dec _ hi, by show valD (Lib.decDigits i) = i; exact valD_dec i⟩
      · exact ⟨by show numA 102 (102 :: Lib.decDigits i) = true; rw [numA_cons e102]; exact numOk_dec _ hi, by show valD (Lib.decDigits i) = i; exact valD_dec i⟩
    rw [List.map_cons, runD, if_pos key.1, key.2, run_tk a b c i ha hb hc hi t _ (fun m hm => hL m (List.mem_cons_of_mem _ hm))]
    rfl
theorem lettD_is (op : Nat) (h1 : 1 ≤ op) (h2 : op ≤ 19) : (lettN op).filter (fun l => l != 107) = lettD op := by
  have h : ∀ k : Fin 20, k.val ≠ 0 → (lettN k.val).filter (fun l => l != 107) = lettD k.val := by decide
  exact h ⟨op, by omega⟩ (by show op ≠ 0; omega)
theorem lettD_mem (op : Nat) (h1 : 1 ≤ op) (h2 : op ≤ 19) : ∀ l ∈ lettD op, l = 97 ∨ l = 98 ∨ l = 99 ∨ l = 110 ∨ l = 105 ∨ l = 102 := by
  have h : ∀ k : Fin 20, k.val ≠ 0 → ∀ l ∈ lettD k.val, l = 97 ∨ l = 98 ∨ l = 99 ∨ l = 110 ∨ l = 105 ∨ l = 102 := by decide
  exact h ⟨op, by omega⟩ (by show op ≠ 0; omega)
theorem opD_read : ∀ k : Fin 20, k.val ≠ 0 → k.val ≠ 3 → opD (nmIB.getD k.val []) 19 = k.val := by decide +kernel
set_option maxHeartbeats 8000000 in
theorem fold_back {op a b c i : Nat} (o1 : 1 ≤ op) (o2 : op ≤ 19) (hl : holdsL (partsN op) ((op : Int), (a : Int), (b : Int), (c : Int), (i : Int)) = true) :
    (lettD op).foldl (fun y l => putD l y ((fieldL a b c i l : Nat) : Int)) ((op : Int), 0, 0, 0, ((if op = 3 then i else 0 : Nat) : Int)) = ((op : Int), (a : Int), (b : Int), (c : Int), (i : Int)) := by
  match op, o1, o2 with
  | 1, _, _ | 2, _, _ | 3, _, _ | 4, _, _ | 5, _, _ | 6, _, _ | 7, _, _ | 8, _, _ | 9, _, _ | 10, _, _ | 11, _, _ | 12, _, _ | 13, _, _ | 14, _, _ | 15, _, _ | 16, _, _ | 17, _, _ | 18, _, _ | 19, _, _ =>
    simp [holdsL, partsN, holdsP, bare, putP, getP, loN, hiN] at hl
    simp [lettD, lettN, putD, putP, fieldL]
    try omega
  | k + 20, _, h => exact absurd h (by omega)
theorem docI_yes {x : In} (hm : mayI x = true) : docI (textI x) = (x, 0) := by
  obtain ⟨op, a, b, c, i, hx, o1, o2, ha, hb, hc, hi, h3⟩ := may_nums hm
  have hop : (mayI_op hm).choose = (mayI_op hm).choose := rfl
  clear hop
  obtain ⟨op', hop', _, _, hl⟩ := mayI_op hm
  obtain rfl : op' = op := by rw [hx] at hop'; simp only at hop'; omega
  have hf32 : ∀ d ∈ firstI x, d ≠ 32 := by
    by_cases h : op' = 3
    · have hi2 := h3 h
      obtain ⟨q1, q2⟩ := kinds_read ⟨i - 1, by omega⟩
      have e : firstI x = nmB.getD (i - 1) [] := by
        unfold firstI; rw [if_pos (by rw [hop', h]; rfl), hx]
        show nmB.getD ((i : Int) - 1).toNat [] = _
        rw [show ((i : Int) - 1).toNat = i - 1 by omega]
      rw [e]; exact q2
    · have e : firstI x = nmIB.getD op' [] := by unfold firstI; rw [if_neg (by rw [hop']; omega), hop']; rfl
      rw [e]
      exact (ops_read ⟨op', by omega⟩ (by show op' ≠ 0; omega) (by show op' ≠ 3; exact h)).2
  have hbeg : begD (firstI x) = (op', if op' = 3 then i else 0) := by
    unfold begD
    by_cases h : op' = 3
    · have hi2 := h3 h
      obtain ⟨q1, _⟩ := kinds_read ⟨i - 1, by omega⟩
      have e : firstI x = nmB.getD (i - 1) [] := by
        unfold firstI; rw [if_pos (by rw [hop', h]; rfl), hx]
        show nmB.getD ((i : Int) - 1).toNat [] = _
        rw [show ((i : Int) - 1).toNat = i - 1 by omega]
      simp only at q1
      have q3 : 0 < i - 1 + 1 := Nat.succ_pos _
      have q4 : i - 1 + 1 = i := by omega
      rw [e]
      generalize pN (str (nmB.getD (i - 1) [])) 12 = z at q1 ⊢
      subst q1
      rw [if_pos q3, if_pos h, q4, h]
    · have e : firstI x = nmIB.getD op' [] := by unfold firstI; rw [if_neg (by rw [hop']; omega), hop']; rfl
      have q := (ops_read ⟨op', by omega⟩ (by show op' ≠ 0; omega) (by show op' ≠ 3; exact h)).1.1
      simp only at q
      have q2 := opD_read ⟨op', by omega⟩ (by show op' ≠ 0; omega) (by show op' ≠ 3; exact h)
      simp only at q2
      rw [e]
      generalize pN (str (nmIB.getD op' [])) 12 = z at q ⊢
      generalize opD (nmIB.getD op' []) 19 = y at q2 ⊢
      subst q q2
      rw [if_neg (Nat.lt_irrefl 0), if_neg h]
  have hw : wordsL (textI x) = firstI x :: (lettD op').map (tkL a b c i) := by
    have h := text_flat (a := a) (b := b) (c := c) (i := i) o1 o2
    rw [← hx] at h
    rw [h, words_flat a b c i _ _ hf32 (lett_mem op' o1 o2), lettD_is op' o1 o2]
  unfold docI
  rw [hw, List.headD_cons, hbeg, List.tail_cons]
  rw [if_neg (by simp; omega), run_tk a b c i (by omega) (by omega) (by omega) hi _ _ (lettD_mem op' o1 o2)]
  have hfold : (lettD op').foldl (fun y l => putD l y ((fieldL a b c i l : Nat) : Int)) ((op' : Int), 0, 0, 0, ((if op' = 3 then i else 0 : Nat) : Int)) = x := by
    rw [hx] at hl ⊢
    exact fold_back o1 o2 hl
  rw [show ((op' : Nat) : Int) = ((op', if op' = 3 then i else 0) : Nat × Nat).1 from rfl] at hfold
  show endD (textI x) (some _) = _
  rw [hfold]
  unfold endD
  exact if_pos ⟨hm, rfl⟩
theorem docI_is (l : List UInt8) : docI l = parseI l := by
  rcases parseI_cases l with ⟨x, hm, rfl, h⟩ | ⟨hno, h⟩
  · rw [h]; exact docI_yes hm
  · rw [h]
    unfold docI
    split
    · rfl
    · unfold endD
      split
      · rfl
      · rename_i x _
        rw [if_neg (fun hx => hno x hx.1 hx.2)]
end Go.Proofs.YtkodjmdghjcndaaGreatDoor
