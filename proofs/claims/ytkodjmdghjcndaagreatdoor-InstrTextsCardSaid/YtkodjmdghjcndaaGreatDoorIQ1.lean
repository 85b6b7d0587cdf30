/- Instructions' bytes, and the instruction of bytes: plain. -/
import Derived.Test.YtkodjmdghjcndaaGreatDoorIR5
namespace Go.Proofs.YtkodjmdghjcndaaGreatDoor
open Go Go.RowKit Go.Shelf Go.Lib

/-- The instruction y with the parts' numbers of x. -/
def fillB (P : List (Nat × Nat)) (x y : In) : In := P.foldl (fun r p => putP p.1 r (getP p.1 x)) y
def boundP (p : Nat × Nat) (x : In) : Prop := 0 ≤ getP p.1 x ∧ getP p.1 x < 4294967296 ∧ (p.1 < 3 → getP p.1 x < 256)
theorem may_parts {op : Nat} (h1 : 1 ≤ op) (h2 : op ≤ 19) {x : In} (hx : x.1 = op) (h : holdsL (partsN op) x = true) :
    (∀ p ∈ partsN op, boundP p x) ∧ fillB (partsN op) x ((op : Int), 0, 0, 0, 0) = x := by
  obtain ⟨o, a, b, c, i⟩ := x
  obtain rfl : o = op := hx
  match op, h1, h2 with
  | 1, _, _ | 2, _, _ | 3, _, _ | 4, _, _ | 5, _, _ | 6, _, _ | 7, _, _ | 8, _, _ | 9, _, _ | 10, _, _ | 11, _, _ | 12, _, _ | 13, _, _ | 14, _, _ | 15, _, _ | 16, _, _ | 17, _, _ | 18, _, _ | 19, _, _ =>
    simp [holdsL, partsN, holdsP, bare, putP, getP, loN, hiN] at h
    simp [partsN, boundP, fillB, putP, getP]
    omega
  | k + 20, _, h => exact absurd h (by omega)
theorem take_one (b : UInt8) (r : List UInt8) : (b :: r).take 1 = [b] := rfl
theorem rfN_fix (m : Nat) (wd : Int) (hw : wd = 1 ∨ wd = 4) (hm : m < 256 ^ wd.toNat) (r : List UInt8) : rfN (fixB m wd ++ r) wd = m ∧ ¬ (fixB m wd ++ r).length < wd.toNat ∧ (fixB m wd).length = wd.toNat := by
  have hi : isW wd = true := by rcases hw with rfl | rfl <;> decide
  have hE : fixE m wd = 0 := by
    unfold fixE
    rw [if_pos hi, if_pos hm]
  have hl : (fixB m wd).length = wd.toNat := by
    unfold fixB
    rw [if_pos hE]
    rcases hw with rfl | rfl <;> simp [leB]
  have hn : ¬ (fixB m wd ++ r).length < wd.toNat := by rw [List.length_append]; omega
  refine ⟨?_, hn, hl⟩
  have he : rfE (fixB m wd ++ r) wd = 0 := by rw [rfE_is _ hw, if_neg hn]
  unfold rfN
  rw [if_pos he, List.take_left' hl]
  unfold fixB
  rw [if_pos hE]
  rcases hw with rfl | rfl
  · exact (unB_leB 1 m).trans (Nat.mod_eq_of_lt hm)
  · exact (unB_leB 4 m).trans (Nat.mod_eq_of_lt hm)
theorem readPl_bytes : ∀ (P : List (Nat × Nat)) (pre r : List UInt8) (x y : In), (∀ p ∈ P, boundP p x ∧ p.1 < 4) →
    readPl P (pre ++ (bytesP P x ++ r)) pre.length y = some (fillB P x y, pre.length + (bytesP P x).length)
  | [], pre, r, x, y, _ => by simp [readPl, fillB, bytesP]
  | p :: t, pre, r, x, y, h => by
    obtain ⟨⟨h0, h1, h2⟩, h4⟩ := h p List.mem_cons_self
    have hp : (getP p.1 x).toNat < 256 ^ (widN p.1).toNat := by
      unfold widN
      split
      · show _ < 256 ^ 4; omega
      · rename_i hk
        show _ < 256 ^ 1
        have h3 : p.1 ≠ 3 := hk
        have := h2 (by omega)
        omega
    obtain ⟨f1, f2, f3⟩ := rfN_fix (getP p.1 x).toNat (widN p.1) (widN_is p.1) hp (bytesP t x ++ r)
    have e : bytesP (p :: t) x = fixB (getP p.1 x).toNat (widN p.1) ++ bytesP t x := rfl
    rw [e, List.append_assoc, readPl, List.drop_left, if_neg f2, f1, show ((getP p.1 x).toNat : Int) = getP p.1 x by omega]
    have ih := readPl_bytes t (pre ++ fixB (getP p.1 x).toNat (widN p.1)) r x (putP p.1 y (getP p.1 x)) (fun q hq => h q (List.mem_cons_of_mem _ hq))
    rw [List.append_assoc, List.length_append, f3] at ih
    rw [ih, List.length_append, f3]
    simp only [fillB, List.foldl_cons, Option.some.injEq, Prod.mk.injEq, true_and]
    omega
/-- Bytes that begin with an instruction's are read as that. -/
theorem readR_bytes {x : In} (hm : mayI x = true) (r : List UInt8) : readR (bytesI x ++ r) 0 = .inl (x, (bytesI x).length) := by
  obtain ⟨op, hop, o1, o2, hl⟩ := mayI_op hm
  obtain ⟨hb, hf⟩ := may_parts o1 o2 hop hl
  have e : bytesI x = UInt8.ofNat op :: bytesP (partsN op) x := by unfold bytesI; rw [hop]; rfl
  have hb1 : (UInt8.ofNat op).toNat = op := by rw [UInt8.toNat_ofNat']; omega
  unfold readR
  rw [List.drop_zero, e, List.cons_append, if_neg (by simp)]
  have hn : rfN (UInt8.ofNat op :: (bytesP (partsN op) x ++ r)) 1 = op := by
    have h1 := (rfN_fix op 1 (.inl rfl) (by show op < 256 ^ 1; omega) (bytesP (partsN op) x ++ r)).1
    rw [show fixB op 1 = [UInt8.ofNat op] by unfold fixB fixE; rw [if_pos (by rw [if_pos (by decide), if_pos (by show op < 256 ^ 1; omega)])]; rfl] at h1
    exact h1
  rw [hn]
  unfold readM
  rw [if_pos ⟨o1, o2⟩]
  have hr := readPl_bytes (partsN op) [UInt8.ofNat op] r x ((op : Int), 0, 0, 0, 0) (fun p hp => ⟨hb p hp, ((okParts_op op).1.1 p hp).1⟩)
  rw [hf] at hr
  rw [show 0 + 1 = [UInt8.ofNat op].length from rfl, show UInt8.ofNat op :: (bytesP (partsN op) x ++ r) = [UInt8.ofNat op] ++ (bytesP (partsN op) x ++ r) from rfl, hr]
  simp only [hl, if_true, List.length_cons, List.length_nil, Nat.zero_add]
  rw [Nat.add_comm]
theorem bytes_begin {x y : In} (hx : mayI x = true) (hy : mayI y = true) {r : List UInt8} (h : bytesI y = bytesI x ++ r) : x = y ∧ r = [] := by
  have h1 := readR_bytes hx r
  have h2 := readR_bytes hy []
  rw [List.append_nil, h, h1] at h2
  injection h2 with h2
  injection h2 with h2 h3
  refine ⟨h2, ?_⟩
  rw [List.length_append] at h3
  exact List.eq_nil_of_length_eq_zero (by omega)
theorem bytesI_inj {x y : In} (hx : mayI x = true) (hy : mayI y = true) (h : bytesI x = bytesI y) : x = y :=
  (bytes_begin hx hy (r := []) (by rw [List.append_nil, h])).1
theorem readI_bytes {x : In} (hm : mayI x = true) (r : List UInt8) : readI (bytesI x ++ r) = (x, (bytesI x).length, 0) := by
  unfold readI
  rw [readR_bytes hm r]
end Go.Proofs.YtkodjmdghjcndaaGreatDoor
