/- Merged: IQ1, IQ3, IQ4, DPlain, MP. -/
import Derived.Test.YthhegcngkpfcoaaGreatDoorF21
import Derived.Test.YthhegcngkpfcoaaGreatDoorF23
import Derived.Test.YthhegcngkpfcoaaGreatDoorF0
import Derived.Test.YthhegcngkpfcoaaGreatDoorF16
import Derived.Test.YthhegcngkpfcoaaGreatDoorF20
namespace Go.Proofs.YthhegcngkpfcoaaGreatDoor
open Go Go.RowKit Go.Shelf Go.Lib

theorem rfN_fix (m : Nat) (wd : Int) (hw : wd = 1 ∨ wd = 4) (hm : m < 256 ^ wd.toNat) (r : List UInt8) : rfN (fixB m wd ++ r) wd = m ∧ ¬ (fixB m wd ++ r).length < wd.toNat ∧ (fixB m wd).length = wd.toNat := by
  have hi : isW wd = true := by rcases hw with rfl | rfl <;> decide
  have hE : fixE m wd = 0 := by
    unfold fixE
    rw [if_pos hi, if_pos hm]
  have hl : (fixB m wd).length = wd.toNat := by
    unfold fixB
    rw [if_pos hE]
    rcases hw with rfl | rfl <;> simp [leB]
  have hn : ¬ (fixB m wd ++ r).length < wd.toNat := by rw [List.length_append]; omega
  refine ⟨?_, hn, hl⟩
  have he : rfE (fixB m wd ++ r) wd = 0 := by rw [rfE_is _ hw, if_neg hn]
  unfold rfN
  rw [if_pos he, List.take_left' hl]
  unfold fixB
  rw [if_pos hE]
  rcases hw with rfl | rfl
  · exact (unB_leB 1 m).trans (Nat.mod_eq_of_lt hm)
  · exact (unB_leB 4 m).trans (Nat.mod_eq_of_lt hm)
end Go.Proofs.YthhegcngkpfcoaaGreatDoor
namespace Go.Proofs.YthhegcngkpfcoaaGreatDoor
open Go Go.RowKit Go.Shelf Go.Lib

def bat (l : List UInt8) (k : Nat) : Int := ((l.getD k 0).toNat : Nat)
def n01 (b : Bool) : Nat := if b then 1 else 0
/-- The instruction of bytes that are long enough, by what its Op names. -/
def docS (op : Nat) (ia ib ic id : Bool) (l : List UInt8) : In :=
  ((op : Int), if ia then bat l 1 else 0, if ib then bat l (1 + n01 ia) else 0, if ic then bat l (1 + n01 ia + n01 ib) else 0, if id then ((rfN (l.drop (1 + n01 ia + n01 ib + n01 ic)) 4 : Nat) : Int) else 0)
def docIn (op : Nat) (l : List UInt8) : In := docS op (lettB op 97) (lettB op 98) (lettB op 110 || lettB op 107) (lettB op 105 || lettB op 102 || lettB op 107) l
def lenS (ia ib ic id : Bool) : Nat := 1 + n01 ia + n01 ib + n01 ic + (if id then 4 else 0)
def lenO (op : Nat) : Nat := lenS (lettB op 97) (lettB op 98) (lettB op 110 || lettB op 107) (lettB op 105 || lettB op 102 || lettB op 107)
/-- What the document reads. -/
def docM (op : Nat) (l : List UInt8) : In × Nat × Int :=
  if 1 ≤ op ∧ op ≤ 19 then (if l.length < lenO op then ((0, 0, 0, 0, 0), 0, 110) else if mayI (docIn op l) then (docIn op l, lenO op, 0) else ((0, 0, 0, 0, 0), 0, 180)) else ((0, 0, 0, 0, 0), 0, 180)
def docR (l : List UInt8) : In × Nat × Int := if l.length = 0 then ((0, 0, 0, 0, 0), 0, 110) else docM (l.getD 0 0).toNat l
theorem rfN_one (l : List UInt8) (k : Nat) (h : k < l.length) : rfN (l.drop k) 1 = (l.getD k 0).toNat := by
  have e : rfE (l.drop k) 1 = 0 := by
    rw [rfE_is _ (.inl rfl), if_neg]
    rw [List.length_drop]
    show ¬ _ < 1
    omega
  unfold rfN
  rw [if_pos e, List.drop_eq_getElem_cons h]
  show unB [l[k]] = _
  simp [unB, List.getD_eq_getElem?_getD, h]
def totW : List (Nat × Nat) → Nat
  | [] => 0
  | p :: t => (widN p.1).toNat + totW t
def fillL : List (Nat × Nat) → List UInt8 → Nat → In → In
  | [], _, _, x => x
  | p :: t, l, k, x => fillL t l (k + (widN p.1).toNat) (putP p.1 x ((rfN (l.drop k) (widN p.1) : Nat) : Int))
theorem readPl_none : ∀ (P : List (Nat × Nat)) (l : List UInt8) (k : Nat) (x : In), k ≤ l.length → l.length < k + totW P → readPl P l k x = none
  | [], l, k, x, h1, h2 => by simp only [totW] at h2; omega
  | p :: t, l, k, x, h1, h2 => by
    rw [readPl]
    split
    · rfl
    · rename_i h
      rw [List.length_drop] at h
      simp only [totW] at h2
      exact readPl_none t l _ _ (by omega) (by omega)
theorem readPl_some : ∀ (P : List (Nat × Nat)) (l : List UInt8) (k : Nat) (x : In), k + totW P ≤ l.length → readPl P l k x = some (fillL P l k x, k + totW P)
  | [], l, k, x, h => by simp [readPl, fillL, totW]
  | p :: t, l, k, x, h => by
    simp only [totW] at h
    rw [readPl, if_neg (by rw [List.length_drop]; omega), readPl_some t l _ _ (by omega), fillL, totW]
    simp only [Option.some.injEq, Prod.mk.injEq, true_and]
    omega
theorem lenO_is (op : Nat) (h1 : 1 ≤ op) (h2 : op ≤ 19) : 1 + totW (partsN op) = lenO op := by
  match op, h1, h2 with
  | 1, _, _ | 2, _, _ | 3, _, _ | 4, _, _ | 5, _, _ | 6, _, _ | 7, _, _ | 8, _, _ | 9, _, _ | 10, _, _ | 11, _, _ | 12, _, _ | 13, _, _ | 14, _, _ | 15, _, _ | 16, _, _ | 17, _, _ | 18, _, _ | 19, _, _ => decide
  | k + 20, _, h => exact absurd h (by omega)
theorem docIn_is (op : Nat) (h1 : 1 ≤ op) (h2 : op ≤ 19) (l : List UInt8) (hl : lenO op ≤ l.length) : fillL (partsN op) l 1 ((op : Int), 0, 0, 0, 0) = docIn op l := by
  have r1 : 1 < l.length → rfN l.tail 1 = (l[1]?.getD 0).toNat := fun h => by simpa using rfN_one l 1 h
  have r2 : 2 < l.length → rfN (l.drop 2) 1 = (l[2]?.getD 0).toNat := fun h => by simpa using rfN_one l 2 h
  have r3 : 3 < l.length → rfN (l.drop 3) 1 = (l[3]?.getD 0).toNat := fun h => by simpa using rfN_one l 3 h
  match op, h1, h2 with
  | 1, _, _ | 2, _, _ | 3, _, _ | 4, _, _ | 5, _, _ | 6, _, _ | 7, _, _ | 8, _, _ | 9, _, _ | 10, _, _ | 11, _, _ | 12, _, _ | 13, _, _ | 14, _, _ | 15, _, _ | 16, _, _ | 17, _, _ | 18, _, _ | 19, _, _ =>
    simp [lenO, lenS, n01, lettB, lettN] at hl
    simp [docIn, docS, lettB, lettN, partsN, fillL, putP, widN, bat, n01]
    try (first | (simp [r1 (by omega), r2 (by omega), r3 (by omega)]; done) | (simp [r1 (by omega), r2 (by omega)]; done) | (simp [r1 (by omega)]; done))
  | k + 20, _, h => exact absurd h (by omega)
theorem docIn_op (op : Nat) (l : List UInt8) : (docIn op l).1 = op := rfl
theorem may_holds {op : Nat} (h1 : 1 ≤ op) (h2 : op ≤ 19) {x : In} (hx : x.1 = op) : mayI x = holdsL (partsN op) x := by
  unfold mayI
  rw [hx, decide_eq_true (by omega)]
  rfl
theorem docR_is (l : List UInt8) : docR l = readI l := by
  unfold docR readI readR
  rw [List.drop_zero]
  by_cases h0 : l.length = 0
  · rw [if_pos h0, if_pos (by omega)]
  · rw [if_neg h0, if_neg (by omega)]
    have e1 := rfN_one l 0 (by omega)
    rw [List.drop_zero] at e1
    rw [e1]
    unfold docM readM
    generalize (l.getD 0 0).toNat = op
    by_cases ho : 1 ≤ op ∧ op ≤ 19
    · obtain ⟨h1, h2⟩ := ho
      simp only [h1, h2, and_self, if_true]
      have hL := lenO_is op h1 h2
      by_cases hl : l.length < lenO op
      · rw [if_pos hl, readPl_none _ _ _ _ (by omega) (by omega)]
      · rw [if_neg hl, readPl_some _ _ _ _ (by omega)]
        simp only [Nat.zero_add]
        rw [docIn_is op h1 h2 l (by omega), may_holds h1 h2 (docIn_op op l), hL]
        cases holdsL (partsN op) (docIn op l) <;> rfl
    · rw [if_neg ho, if_neg ho]
theorem lenO_refO (op : Nat) : (refO op 0 0 0 0).length = lenO op := by
  have h : (fixB 0 4).length = 4 := (rfN_fix 0 4 (.inr rfl) (by decide) []).2.2
  unfold refO refB lenO lenS n01
  simp only [List.length_append, List.length_cons, List.length_nil]
  cases lettB op 97 <;> cases lettB op 98 <;> cases (lettB op 110 || lettB op 107) <;> cases (lettB op 105 || lettB op 102 || lettB op 107) <;> simp [h]
end Go.Proofs.YthhegcngkpfcoaaGreatDoor
namespace Go.Proofs.YthhegcngkpfcoaaGreatDoor
open Go Go.RowKit Go.Shelf Go.Lib

theorem leB_unB8 : ∀ l : List UInt8, leB l.length (unB l) = l
  | [] => rfl
  | a :: t => by
    have h := leB_unB8 t
    have e1 : (a.toNat + 256 * unB t) / 256 = unB t := by have := a.toNat_lt; omega
    have e2 : UInt8.ofNat (a.toNat + 256 * unB t) = a := by
      apply UInt8.toNat_inj.1
      rw [UInt8.toNat_ofNat']
      have := a.toNat_lt
      omega
    show UInt8.ofNat (a.toNat + 256 * unB t) :: leB t.length ((a.toNat + 256 * unB t) / 256) = a :: t
    rw [e1, e2, h]
theorem fix_rf8 (l : List UInt8) (h : 4 ≤ l.length) : fixB (rfN l 4) 4 = l.take 4 := by
  have e : rfE l 4 = 0 := by
    rw [rfE_is _ (.inr rfl), if_neg]
    show ¬ _ < 4
    omega
  have hl : (l.take 4).length = 4 := by rw [List.length_take]; omega
  have hb := unB_lt (l.take 4)
  rw [hl] at hb
  unfold rfN
  rw [if_pos e]
  show fixB (unB (l.take 4)) 4 = _
  unfold fixB
  rw [if_pos (by unfold fixE; rw [if_pos (by decide), if_pos (show unB (l.take 4) < 256 ^ Int.toNat 4 from hb)])]
  show leB 4 (unB (l.take 4)) = _
  have := leB_unB8 (l.take 4)
  rwa [hl] at this
theorem take_drop (l : List UInt8) (k m : Nat) : l.take k ++ (l.drop k).take m = l.take (k + m) := (List.take_add).symm
theorem take_one8 (l : List UInt8) (k : Nat) (h : k < l.length) : l.take k ++ [l.getD k 0] = l.take (k + 1) := by
  rw [List.take_add_one]
  simp [List.getD_eq_getElem?_getD, h]
/-- The bytes that the document tells of what it reads are those that it read. -/
theorem docB (op : Nat) (ia ib ic id : Bool) (l : List UInt8) (hl : lenS ia ib ic id ≤ l.length) (hop : (l.getD 0 0).toNat = op) :
    refB op ia ib ic id (l.getD 1 0) (l.getD (1 + n01 ia) 0) (l.getD (1 + n01 ia + n01 ib) 0) (rfN (l.drop (1 + n01 ia + n01 ib + n01 ic)) 4) = l.take (lenS ia ib ic id) := by
  unfold lenS at *
  have h0 : [UInt8.ofNat op] = l.take 1 := by
    have h := take_one8 l 0 (by omega)
    rw [show UInt8.ofNat op = l.getD 0 0 by rw [← hop]; simp]
    simpa using h
  have ha : ∀ (k : Nat) (b : Bool), k + n01 b ≤ l.length → l.take k ++ (if b then [l.getD k 0] else []) = l.take (k + n01 b) := fun k b hk => by
    cases b
    · simp [n01]
    · simp only [n01, if_true] at hk ⊢
      exact take_one8 l k (by omega)
  have hd : ∀ (k : Nat) (b : Bool), k + (if b then 4 else 0) ≤ l.length → l.take k ++ (if b then fixB (rfN (l.drop k) 4) 4 else []) = l.take (k + (if b then 4 else 0)) := fun k b hk => by
    cases b
    · simp
    · simp only [if_true] at hk ⊢
      rw [fix_rf8 _ (by rw [List.length_drop]; omega)]
      exact take_drop l k 4
  unfold refB
  rw [h0, ha 1 ia (by omega), ha _ ib (by omega), ha _ ic (by omega), hd _ id (by omega)]
theorem refB_other {op : Nat} {ia ib ic id : Bool} {xa xb xc ya yb yc : UInt8} {xi yi : Nat} (h1 : ia = true → xa = ya) (h2 : ib = true → xb = yb) (h3 : ic = true → xc = yc) (h4 : id = true → xi = yi) : refB op ia ib ic id xa xb xc xi = refB op ia ib ic id ya yb yc yi := by
  unfold refB
  cases ia <;> cases ib <;> cases ic <;> cases id <;> simp_all
theorem bytes_doc (op : Nat) (h1 : 1 ≤ op) (h2 : op ≤ 19) (l : List UInt8) (hl : lenO op ≤ l.length) (hop : (l.getD 0 0).toNat = op) : bytesI (docIn op l) = l.take (lenO op) := by
  unfold docIn lenO at *
  generalize hia : lettB op 97 = ia at *
  generalize hib : lettB op 98 = ib at *
  generalize hic : (lettB op 110 || lettB op 107) = ic at *
  generalize hid : (lettB op 105 || lettB op 102 || lettB op 107) = id at *
  have h := refO_bytes op h1 h2 (if ia then l.getD 1 0 else 0) (if ib then l.getD (1 + n01 ia) 0 else 0) (if ic then l.getD (1 + n01 ia + n01 ib) 0 else 0) (if id then rfN (l.drop (1 + n01 ia + n01 ib + n01 ic)) 4 else 0)
  have e : ((op : Int), (((if ia then l.getD 1 0 else 0 : UInt8)).toNat : Int), (((if ib then l.getD (1 + n01 ia) 0 else 0 : UInt8)).toNat : Int), (((if ic then l.getD (1 + n01 ia + n01 ib) 0 else 0 : UInt8)).toNat : Int), (((if id then rfN (l.drop (1 + n01 ia + n01 ib + n01 ic)) 4 else 0 : Nat)) : Int)) = docS op ia ib ic id l := by
    unfold docS bat
    cases ia <;> cases ib <;> cases ic <;> cases id <;> rfl
  rw [e] at h
  rw [← h]
  unfold refO
  rw [hia, hib, hic, hid]
  rw [← docB op ia ib ic id l hl hop]
  exact refB_other (fun h => by rw [h]; rfl) (fun h => by rw [h]; rfl) (fun h => by rw [h]; rfl) (fun h => by rw [h]; rfl)
theorem readI_cases (l : List UInt8) : ∃ (x : In) (n : Nat) (er : Int), readI l = (x, n, er) ∧ 0 ≤ er ∧ (0 ≤ x.2.2.2.2 ∧ x.2.2.2.2 < 4294967296) ∧ (er = 0 → mayI x = true ∧ bytesI x = l.take n ∧ n ≤ l.length ∧ 0 < n ∧ (Lit.int .i64 x.1).wf = true) ∧ (er = 0 ∨ er = 110 ∨ er = 180) := by
  rw [← docR_is]
  unfold docR
  split
  · exact ⟨_, _, _, rfl, by decide, by decide, (fun h => by cases h), by decide⟩
  · rename_i h0
    obtain ⟨op, hop⟩ : ∃ op : Nat, (l.getD 0 0).toNat = op := ⟨_, rfl⟩
    rw [hop]
    unfold docM
    split
    · rename_i ho
      split
      · exact ⟨_, _, _, rfl, by decide, by decide, (fun h => by cases h), by decide⟩
      · rename_i hl
        split
        · rename_i hm
          refine ⟨_, _, _, rfl, by decide, ?_, fun _ => ⟨hm, bytes_doc op ho.1 ho.2 l (by omega) hop, by omega, ?_, ?_⟩, .inl rfl⟩
          · unfold docIn docS
            have := rfN_lt (l.drop (1 + n01 (lettB op 97) + n01 (lettB op 98) + n01 (lettB op 110 || lettB op 107))) (wd := 4) (.inr rfl)
            simp only
            split <;> omega
          · unfold lenO lenS; omega
          · exact wf_u8 op (by omega)
        · exact ⟨_, _, _, rfl, by decide, by decide, (fun h => by cases h), by decide⟩
    · exact ⟨_, _, _, rfl, by decide, by decide, (fun h => by cases h), by decide⟩
end Go.Proofs.YthhegcngkpfcoaaGreatDoor
namespace Go.Proofs.YthhegcngkpfcoaaGreatDoor

/-- All bits go one place down; the laid number comes onto them where a 1 went out. -/
def dn (x : Nat) : Nat := if x % 2 = 1 then (x / 2) ^^^ 14514072000185962306 else x / 2
def dnK : Nat → Nat → Nat
  | 0, x => x
  | k + 1, x => dnK k (dn x)
/-- A byte is taken in. -/
def byteS (s : Nat) (b : UInt8) : Nat := dnK 8 (s ^^^ b.toNat)
def foldS (s : Nat) (l : List UInt8) : Nat := l.foldl byteS s
def all1 : Nat := 18446744073709551615
/-- The bits of a sum behind all that was written. -/
def bitsS (l : List UInt8) : Nat := foldS all1 l
/-- The sum. -/
def sumS (l : List UInt8) : Nat := all1 - bitsS l

theorem dn_lt {x : Nat} (h : x < 18446744073709551616) : dn x < 18446744073709551616 := by
  unfold dn
  split
  · exact Nat.xor_lt_two_pow (n := 64) (by omega) (by omega)
  · omega
theorem dnK_lt : ∀ (k : Nat) {x : Nat}, x < 18446744073709551616 → dnK k x < 18446744073709551616
  | 0, _, h => h
  | k + 1, _, h => dnK_lt k (dn_lt h)
theorem dnK_snoc : ∀ (k x : Nat), dnK (k + 1) x = dn (dnK k x)
  | 0, _ => rfl
  | k + 1, x => dnK_snoc k (dn x)
theorem byteS_lt {s : Nat} (b : UInt8) (h : s < 18446744073709551616) : byteS s b < 18446744073709551616 :=
  dnK_lt 8 (Nat.xor_lt_two_pow (n := 64) h (Nat.lt_trans b.toNat_lt (by decide)))
theorem foldS_lt : ∀ (l : List UInt8) {s : Nat}, s < 18446744073709551616 → foldS s l < 18446744073709551616
  | [], _, h => h
  | b :: l, _, h => foldS_lt l (byteS_lt b h)
theorem all1_lt : all1 < 18446744073709551616 := by unfold all1; omega
theorem bitsS_lt (l : List UInt8) : bitsS l < 18446744073709551616 := foldS_lt l all1_lt
theorem foldS_append (s : Nat) (l m : List UInt8) : foldS s (l ++ m) = foldS (foldS s l) m := List.foldl_append
theorem foldS_snoc (s : Nat) (l : List UInt8) (b : UInt8) : foldS s (l ++ [b]) = byteS (foldS s l) b := by rw [foldS_append]; rfl
theorem dn_xor (x y : Nat) : dn (x ^^^ y) = dn x ^^^ dn y := by
  have h2 : (x ^^^ y) / 2 = (x / 2) ^^^ (y / 2) := Nat.xor_div_two
  have h1 : (x ^^^ y) % 2 = (x % 2 + y % 2) % 2 := by
    have h := Nat.xor_mod_two_pow (a := x) (b := y) (n := 1)
    rw [Nat.pow_one] at h
    rw [h]
    rcases Nat.mod_two_eq_zero_or_one x with hx | hx <;> rcases Nat.mod_two_eq_zero_or_one y with hy | hy <;> rw [hx, hy] <;> decide
  unfold dn
  rw [h2, h1]
  rcases Nat.mod_two_eq_zero_or_one x with hx | hx <;> rcases Nat.mod_two_eq_zero_or_one y with hy | hy <;> simp only [hx, hy]
  · simp
  · simp [Nat.xor_assoc]
  · simp only [reduceIte, Nat.zero_ne_one]
    rw [Nat.xor_assoc, Nat.xor_assoc, Nat.xor_comm (y / 2)]
  · simp
    rw [Nat.xor_assoc, ← Nat.xor_assoc 14514072000185962306, Nat.xor_comm 14514072000185962306, Nat.xor_assoc (y / 2), Nat.xor_self, Nat.xor_zero]
theorem dnK_xor : ∀ (k x y : Nat), dnK k (x ^^^ y) = dnK k x ^^^ dnK k y
  | 0, _, _ => rfl
  | k + 1, x, y => by rw [dnK, dn_xor, dnK_xor k]; rfl
theorem dn_even (x : Nat) : dn (2 * x) = x := by unfold dn; rw [if_neg (by omega)]; omega
theorem dnK_low : ∀ (k x : Nat), dnK k (2 ^ k * x) = x
  | 0, x => by simp [dnK]
  | k + 1, x => by
    rw [dnK, show 2 ^ (k + 1) * x = 2 * (2 ^ k * x) by rw [Nat.pow_succ']; rw [Nat.mul_assoc], dn_even]
    exact dnK_low k x
/-- A byte by the table: what its eight bits come to, laid on what stood above them. -/
theorem byteS_tab (s : Nat) (b : UInt8) : byteS s b = dnK 8 ((s % 256) ^^^ b.toNat) ^^^ (s / 256) := by
  have e : s ^^^ b.toNat = ((s % 256) ^^^ b.toNat) ^^^ (2 ^ 8 * (s / 256)) := by
    have h : s = (s % 256) ^^^ (2 ^ 8 * (s / 256)) := by
      apply Nat.eq_of_testBit_eq
      intro i
      rw [Nat.testBit_xor, show (256 : Nat) = 2 ^ 8 by decide, Nat.testBit_mod_two_pow, Nat.testBit_two_pow_mul, Nat.testBit_div_two_pow]
      by_cases hi : i < 8
      · simp [hi, Nat.not_le.2 hi]
      ·
        simp [hi, Nat.le_of_not_lt hi]
    conv => lhs; rw [h]
    rw [Nat.xor_assoc, Nat.xor_assoc, Nat.xor_comm b.toNat]
  unfold byteS
  rw [e, dnK_xor, dnK_low]

end Go.Proofs.YthhegcngkpfcoaaGreatDoor
namespace Go.Proofs.YthhegcngkpfcoaaGreatDoor
open Go Go.RowKit

def lineB : List UInt8 := [108, 105, 110, 101]
def funcB (f : Fu) : List UInt8 := fixB f.1.toNat 1 ++ (fixB f.2.length 2 ++ f.2.flatMap bytesI)
def headB (p : Pg) : List UInt8 := tellB [p.2.1.toNat, p.2.2.1.toNat, p.2.2.2.toNat, p.1.length] 1
def bareB (p : Pg) : List UInt8 := lineB ++ (headB p ++ p.1.flatMap funcB)
def sealB (l : List UInt8) : List UInt8 := l ++ fixB (sumS l) 8
def imageB (p : Pg) : List UInt8 := sealB (bareB p)

/-- A number of a width from a place on. -/
def numK (l : List UInt8) (k wd : Nat) : (Nat × Nat) ⊕ Int := if l.length < k + wd then .inr 110 else .inl (unB ((l.drop k).take wd), k + wd)
/-- An instruction from a place on. -/
def insK (l : List UInt8) (k : Nat) : (In × Nat) ⊕ Int :=
  if (readI (l.drop k)).2.2 = 0 then .inl ((readI (l.drop k)).1, k + (readI (l.drop k)).2.1) else if (readI (l.drop k)).2.2 = 110 then .inr 110 else .inr 200
/-- So many more instructions, behind those that are read. -/
def codeK (l : List UInt8) : Nat → Nat → List In → (List In × Nat) ⊕ Int
  | 0, k, c => .inl (c, k)
  | m + 1, k, c => match insK l k with | .inr e => .inr e | .inl (x, k') => codeK l m k' (c ++ [x])
def funcK (l : List UInt8) (k : Nat) : (Fu × Nat) ⊕ Int :=
  match numK l k 1 with
  | .inr e => .inr e
  | .inl (r, k1) => match numK l k1 2 with
    | .inr e => .inr e
    | .inl (m, k2) => match codeK l m k2 [] with
      | .inr e => .inr e
      | .inl (c, k3) => .inl (((r : Int), c), k3)
def funcsK (l : List UInt8) : Nat → Nat → List Fu → (List Fu × Nat) ⊕ Int
  | 0, k, fs => .inl (fs, k)
  | m + 1, k, fs => match funcK l k with | .inr e => .inr e | .inl (f, k') => funcsK l m k' (fs ++ [f])
/-- The bytes that a thing begins with: where one lacks, or is another one. -/
def begK (l : List UInt8) : List UInt8 → Nat → Nat ⊕ Int
  | [], k => .inl k
  | c :: cs, k => if l.length < k + 1 then .inr 110 else if l.getD k 0 = c then begK l cs (k + 1) else .inr 200
/-- All but the sum. -/
def pgK (l : List UInt8) (k : Nat) : (Pg × Nat) ⊕ Int :=
  match begK l lineB k with
  | .inr e => .inr e
  | .inl k0 => match numK l k0 1 with
    | .inr e => .inr e
    | .inl (a, k1) => match numK l k1 1 with
      | .inr e => .inr e
      | .inl (b, k2) => match numK l k2 1 with
        | .inr e => .inr e
        | .inl (c, k3) => match numK l k3 1 with
          | .inr e => .inr e
          | .inl (m, k4) => match funcsK l m k4 [] with
            | .inr e => .inr e
            | .inl (fs, k5) => .inl ((fs, (a : Int), (b : Int), (c : Int)), k5)
/-- An image from a place on: the program, and where it ends. -/
def imgK (l : List UInt8) (k : Nat) : (Pg × Nat) ⊕ Int :=
  match pgK l k with
  | .inr e => .inr e
  | .inl (p, k5) => match numK l k5 8 with
    | .inr e => .inr e
    | .inl (s, k6) => if s = sumS ((l.drop k).take (k5 - k)) ∧ checkP p = 0 then .inl (p, k6) else .inr 200
def emP : Pg := ([], 0, 0, 0)
/-- The program of an image, and nothing behind it. -/
def decI (l : List UInt8) : Pg × Int :=
  match imgK l 0 with
  | .inr e => (emP, e)
  | .inl (p, k) => if k < l.length then (emP, 200) else (p, 0)
def encI (p : Pg) : List UInt8 × Int := if checkP p = 0 then (imageB p, 0) else ([], 2)
end Go.Proofs.YthhegcngkpfcoaaGreatDoor
