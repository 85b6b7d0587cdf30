/- What the document reads of bytes is what the program reads: plain. -/
import Derived.Test.YtdbbilabhlnhmaaGreatDoorIG3
import Derived.Test.YtdbbilabhlnhmaaGreatDoorIQ1
namespace Go.Proofs.YtdbbilabhlnhmaaGreatDoor
open Go Go.RowKit Go.Shelf Go.Lib

def bat (l : List UInt8) (k : Nat) : Int := ((l.getD k 0).toNat : Nat)
def n01 (b : Bool) : Nat := if b then 1 else 0
/-- The instruction of bytes that are long enough, by what its Op names. -/
def docS (op : Nat) (ia ib ic id : Bool) (l : List UInt8) : In :=
  ((op : Int), if ia then bat l 1 else 0, if ib then bat l (1 + n01 ia) else 0, if ic then bat l (1 + n01 ia + n01 ib) else 0, if id then ((rfN (l.drop (1 + n01 ia + n01 ib + n01 ic)) 4 : Nat) : Int) else 0)
def docIn (op : Nat) (l : List UInt8) : In := docS op (lettB op 97) (lettB op 98) (lettB op 110 || lettB op 107) (lettB op 105 || lettB op 102 || lettB op 107) l
def lenS (ia ib ic id : Bool) : Nat := 1 + n01 ia + n01 ib + n01 ic + (if id then 4 else 0)
def lenO (op : Nat) : Nat := lenS (lettB op 97) (lettB op 98) (lettB op 110 || lettB op 107) (lettB op 105 || lettB op 102 || lettB op 107)
/-- What the document reads. -/
def docM (op : Nat) (l : List UInt8) : In × Nat × Int :=
  if 1 ≤ op ∧ op ≤ 19 then (if l.length < lenO op then ((0, 0, 0, 0, 0), 0, 110) else if mayI (docIn op l) then (docIn op l, lenO op, 0) else ((0, 0, 0, 0, 0), 0, 180)) else ((0, 0, 0, 0, 0), 0, 180)
def docR (l : List UInt8) : In × Nat × Int := if l.length = 0 then ((0, 0, 0, 0, 0), 0, 110) else docM (l.getD 0 0).toNat l
theorem rfN_one (l : List UInt8) (k : Nat) (h : k < l.length) : rfN (l.drop k) 1 = (l.getD k 0).toNat := by
  have e : rfE (l.drop k) 1 = 0 := by
    rw [rfE_is _ (.inl rfl), if_neg]
    rw [List.length_drop]
    show ¬ _ < 1
    omega
  unfold rfN
  rw [if_pos e, List.drop_eq_getElem_cons h]
  show unB [l[k]] = _
  simp [unB, List.getD_eq_getElem?_getD, h]
def totW : List (Nat × Nat) → Nat
  | [] => 0
  | p :: t => (widN p.1).toNat + totW t
def fillL : List (Nat × Nat) → List UInt8 → Nat → In → In
  | [], _, _, x => x
  | p :: t, l, k, x => fillL t l (k + (widN p.1).toNat) (putP p.1 x ((rfN (l.drop k) (widN p.1) : Nat) : Int))
theorem readPl_none : ∀ (P : List (Nat × Nat)) (l : List UInt8) (k : Nat) (x : In), k ≤ l.length → l.length < k + totW P → readPl P l k x = none
  | [], l, k, x, h1, h2 => by simp only [totW] at h2; omega
  | p :: t, l, k, x, h1, h2 => by
    rw [readPl]
    split
    · rfl
    · rename_i h
      rw [List.length_drop] at h
      simp only [totW] at h2
      exact readPl_none t l _ _ (by omega) (by omega)
theorem readPl_some : ∀ (P : List (Nat × Nat)) (l : List UInt8) (k : Nat) (x : In), k + totW P ≤ l.length → readPl P l k x = some (fillL P l k x, k + totW P)
  | [], l, k, x, h => by simp [readPl, fillL, totW]
  | p :: t, l, k, x, h => by
    simp only [totW] at h
    rw [readPl, if_neg (by rw [List.length_drop]; omega), readPl_some t l _ _ (by omega), fillL, totW]
    simp only [Option.some.injEq, Prod.mk.injEq, true_and]
    omega
theorem lenO_is (op : Nat) (h1 : 1 ≤ op) (h2 : op ≤ 19) : 1 + totW (partsN op) = lenO op := by
  match op, h1, h2 with
  | 1, _, _ | 2, _, _ | 3, _, _ | 4, _, _ | 5, _, _ | 6, _, _ | 7, _, _ | 8, _, _ | 9, _, _ | 10, _, _ | 11, _, _ | 12, _, _ | 13, _, _ | 14, _, _ | 15, _, _ | 16, _, _ | 17, _, _ | 18, _, _ | 19, _, _ => decide
  | k + 20, _, h => exact absurd h (by omega)
theorem docIn_is (op : Nat) (h1 : 1 ≤ op) (h2 : op ≤ 19) (l : List UInt8) (hl : lenO op ≤ l.length) : fillL (partsN op) l 1 ((op : Int), 0, 0, 0, 0) = docIn op l := by
  have r1 : 1 < l.length → rfN l.tail 1 = (l[1]?.getD 0).toNat := fun h => by simpa using rfN_one l 1 h
  have r2 : 2 < l.length → rfN (l.drop 2) 1 = (l[2]?.getD 0).toNat := fun h => by simpa using rfN_one l 2 h
  have r3 : 3 < l.length → rfN (l.drop 3) 1 = (l[3]?.getD 0).toNat := fun h => by simpa using rfN_one l 3 h
  match op, h1, h2 with
  | 1, _, _ | 2, _, _ | 3, _, _ | 4, _, _ | 5, _, _ | 6, _, _ | 7, _, _ | 8, _, _ | 9, _, _ | 10, _, _ | 11, _, _ | 12, _, _ | 13, _, _ | 14, _, _ | 15, _, _ | 16, _, _ | 17, _, _ | 18, _, _ | 19, _, _ =>
    simp [lenO, lenS, n01, lettB, lettN] at hl
    simp [docIn, docS, lettB, lettN, partsN, fillL, putP, widN, bat, n01]
    try (first | (simp [r1 (by omega), r2 (by omega), r3 (by omega)]; done) | (simp [r1 (by omega), r2 (by omega)]; done) | (simp [r1 (by omega)]; done))
  | k + 20, _, h => exact absurd h (by omega)
theorem docIn_op (op : Nat) (l : List UInt8) : (docIn op l).1 = op := rfl
theorem may_holds {op : Nat} (h1 : 1 ≤ op) (h2 : op ≤ 19) {x : In} (hx : x.1 = op) : mayI x = holdsL (partsN op) x := by
  unfold mayI
  rw [hx, decide_eq_true (by omega)]
  rfl
theorem docR_is (l : List UInt8) : docR l = readI l := by
  unfold docR readI readR
  rw [List.drop_zero]
  by_cases h0 : l.length = 0
  · rw [if_pos h0, if_pos (by omega)]
  · rw [if_neg h0, if_neg (by omega)]
    have e1 := rfN_one l 0 (by omega)
    rw [List.drop_zero] at e1
    rw [e1]
    unfold docM readM
    generalize (l.getD 0 0).toNat = op
    by_cases ho : 1 ≤ op ∧ op ≤ 19
    · obtain ⟨h1, h2⟩ := ho
      simp only [h1, h2, and_self, if_true]
      have hL := lenO_is op h1 h2
      by_cases hl : l.length < lenO op
      · rw [if_pos hl, readPl_none _ _ _ _ (by omega) (by omega)]
      · rw [if_neg hl, readPl_some _ _ _ _ (by omega)]
        simp only [Nat.zero_add]
        rw [docIn_is op h1 h2 l (by omega), may_holds h1 h2 (docIn_op op l), hL]
        cases holdsL (partsN op) (docIn op l) <;> rfl
    · rw [if_neg ho, if_neg ho]
theorem lenO_refO (op : Nat) : (refO op 0 0 0 0).length = lenO op := by
  have h : (fixB 0 4).length = 4 := (rfN_fix 0 4 (.inr rfl) (by decide) []).2.2
  unfold refO refB lenO lenS n01
  simp only [List.length_append, List.length_cons, List.length_nil]
  cases lettB op 97 <;> cases lettB op 98 <;> cases (lettB op 110 || lettB op 107) <;> cases (lettB op 105 || lettB op 102 || lettB op 107) <;> simp [h]
end Go.Proofs.YtdbbilabhlnhmaaGreatDoor
