/- What is read of bytes has just those bytes: plain. -/
import Derived.Test.YtdbbilabhlnhmaaGreatDoorIQ3
namespace Go.Proofs.YtdbbilabhlnhmaaGreatDoor
open Go Go.RowKit Go.Shelf Go.Lib

theorem leB_unB8 : ∀ l : List UInt8, leB l.length (unB l) = l
  | [] => rfl
  | a :: t => by
    have h := leB_unB8 t
    have e1 : (a.toNat + 256 * unB t) / 256 = unB t := by have := a.toNat_lt; omega
    have e2 : UInt8.ofNat (a.toNat + 256 * unB t) = a := by
      apply UInt8.toNat_inj.1
      rw [UInt8.toNat_ofNat']
      have := a.toNat_lt
      omega
    show UInt8.ofNat (a.toNat + 256 * unB t) :: leB t.length ((a.toNat + 256 * unB t) / 256) = a :: t
    rw [e1, e2, h]
theorem fix_rf8 (l : List UInt8) (h : 4 ≤ l.length) : fixB (rfN l 4) 4 = l.take 4 := by
  have e : rfE l 4 = 0 := by
    rw [rfE_is _ (.inr rfl), if_neg]
    show ¬ _ < 4
    omega
  have hl : (l.take 4).length = 4 := by rw [List.length_take]; omega
  have hb := unB_lt (l.take 4)
  rw [hl] at hb
  unfold rfN
  rw [if_pos e]
  show fixB (unB (l.take 4)) 4 = _
  unfold fixB
  rw [if_pos (by unfold fixE; rw [if_pos (by decide), if_pos (show unB (l.take 4) < 256 ^ Int.toNat 4 from hb)])]
  show leB 4 (unB (l.take 4)) = _
  have := leB_unB8 (l.take 4)
  rwa [hl] at this
theorem take_drop (l : List UInt8) (k m : Nat) : l.take k ++ (l.drop k).take m = l.take (k + m) := (List.take_add).symm
theorem take_one8 (l : List UInt8) (k : Nat) (h : k < l.length) : l.take k ++ [l.getD k 0] = l.take (k + 1) := by
  rw [List.take_add_one]
  simp [List.getD_eq_getElem?_getD, h]
/-- The bytes that the document tells of what it reads are those that it read. -/
theorem docB (op : Nat) (ia ib ic id : Bool) (l : List UInt8) (hl : lenS ia ib ic id ≤ l.length) (hop : (l.getD 0 0).toNat = op) :
    refB op ia ib ic id (l.getD 1 0) (l.getD (1 + n01 ia) 0) (l.getD (1 + n01 ia + n01 ib) 0) (rfN (l.drop (1 + n01 ia + n01 ib + n01 ic)) 4) = l.take (lenS ia ib ic id) := by
  unfold lenS at *
  have h0 : [UInt8.ofNat op] = l.take 1 := by
    have h := take_one8 l 0 (by omega)
    rw [show UInt8.ofNat op = l.getD 0 0 by rw [← hop]; simp]
    simpa using h
  have ha : ∀ (k : Nat) (b : Bool), k + n01 b ≤ l.length → l.take k ++ (if b then [l.getD k 0] else []) = l.take (k + n01 b) := fun k b hk => by
    cases b
    · simp [n01]
    · simp only [n01, if_true] at hk ⊢
      exact take_one8 l k (by omega)
  have hd : ∀ (k : Nat) (b : Bool), k + (if b then 4 else 0) ≤ l.length → l.take k ++ (if b then fixB (rfN (l.drop k) 4) 4 else []) = l.take (k + (if b then 4 else 0)) := fun k b hk => by
    cases b
    · simp
    · simp only [if_true] at hk ⊢
      rw [fix_rf8 _ (by rw [List.length_drop]; omega)]
      exact take_drop l k 4
  unfold refB
  rw [h0, ha 1 ia (by omega), ha _ ib (by omega), ha _ ic (by omega), hd _ id (by omega)]
theorem refB_other {op : Nat} {ia ib ic id : Bool} {xa xb xc ya yb yc : UInt8} {xi yi : Nat} (h1 : ia = true → xa = ya) (h2 : ib = true → xb = yb) (h3 : ic = true → xc = yc) (h4 : id = true → xi = yi) : refB op ia ib ic id xa xb xc xi = refB op ia ib ic id ya yb yc yi := by
  unfold refB
  cases ia <;> cases ib <;> cases ic <;> cases id <;> simp_all
theorem nat01 (b : Bool) (x : UInt8) : (((if b then x else 0 : UInt8)).toNat : Int) = if b then ((x.toNat : Nat) : Int) else 0 := by cases b <;> simp
theorem bytes_doc (op : Nat) (h1 : 1 ≤ op) (h2 : op ≤ 19) (l : List UInt8) (hl : lenO op ≤ l.length) (hop : (l.getD 0 0).toNat = op) : bytesI (docIn op l) = l.take (lenO op) := by
  unfold docIn lenO at *
  generalize hia : lettB op 97 = ia at *
  generalize hib : lettB op 98 = ib at *
  generalize hic : (lettB op 110 || lettB op 107) = ic at *
  generalize hid : (lettB op 105 || lettB op 102 || lettB op 107) = id at *
  have h := refO_bytes op h1 h2 (if ia then l.getD 1 0 else 0) (if ib then l.getD (1 + n01 ia) 0 else 0) (if ic then l.getD (1 + n01 ia + n01 ib) 0 else 0) (if id then rfN (l.drop (1 + n01 ia + n01 ib + n01 ic)) 4 else 0)
  have e : ((op : Int), (((if ia then l.getD 1 0 else 0 : UInt8)).toNat : Int), (((if ib then l.getD (1 + n01 ia) 0 else 0 : UInt8)).toNat : Int), (((if ic then l.getD (1 + n01 ia + n01 ib) 0 else 0 : UInt8)).toNat : Int), (((if id then rfN (l.drop (1 + n01 ia + n01 ib + n01 ic)) 4 else 0 : Nat)) : Int)) = docS op ia ib ic id l := by
    unfold docS bat
    cases ia <;> cases ib <;> cases ic <;> cases id <;> rfl
  rw [e] at h
  rw [← h]
  unfold refO
  rw [hia, hib, hic, hid]
  rw [← docB op ia ib ic id l hl hop]
  exact refB_other (fun h => by rw [h]; rfl) (fun h => by rw [h]; rfl) (fun h => by rw [h]; rfl) (fun h => by rw [h]; rfl)
theorem readI_cases (l : List UInt8) : ∃ (x : In) (n : Nat) (er : Int), readI l = (x, n, er) ∧ 0 ≤ er ∧ (0 ≤ x.2.2.2.2 ∧ x.2.2.2.2 < 4294967296) ∧ (er = 0 → mayI x = true ∧ bytesI x = l.take n ∧ n ≤ l.length ∧ 0 < n ∧ (Lit.int .i64 x.1).wf = true) ∧ (er = 0 ∨ er = 110 ∨ er = 180) := by
  rw [← docR_is]
  unfold docR
  split
  · exact ⟨_, _, _, rfl, by decide, by decide, (fun h => by cases h), by decide⟩
  · rename_i h0
    obtain ⟨op, hop⟩ : ∃ op : Nat, (l.getD 0 0).toNat = op := ⟨_, rfl⟩
    rw [hop]
    unfold docM
    split
    · rename_i ho
      split
      · exact ⟨_, _, _, rfl, by decide, by decide, (fun h => by cases h), by decide⟩
      · rename_i hl
        split
        · rename_i hm
          refine ⟨_, _, _, rfl, by decide, ?_, fun _ => ⟨hm, bytes_doc op ho.1 ho.2 l (by omega) hop, by omega, ?_, ?_⟩, .inl rfl⟩
          · unfold docIn docS
            have := rfN_lt (l.drop (1 + n01 (lettB op 97) + n01 (lettB op 98) + n01 (lettB op 110 || lettB op 107))) (wd := 4) (.inr rfl)
            simp only
            split <;> omega
          · unfold lenO lenS; omega
          · exact wf_u8 op (by omega)
        · exact ⟨_, _, _, rfl, by decide, by decide, (fun h => by cases h), by decide⟩
    · exact ⟨_, _, _, rfl, by decide, by decide, (fun h => by cases h), by decide⟩
end Go.Proofs.YtdbbilabhlnhmaaGreatDoor
