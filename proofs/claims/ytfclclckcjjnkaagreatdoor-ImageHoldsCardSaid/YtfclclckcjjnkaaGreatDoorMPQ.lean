/- Merged: MP, MQ. -/
import Derived.Test.YtfclclckcjjnkaaGreatDoorG10
import Derived.Test.YtfclclckcjjnkaaGreatDoorMWr
import Derived.Test.YtfclclckcjjnkaaGreatDoorIQQ
import Derived.Test.YtfclclckcjjnkaaGreatDoorDAA
namespace Go.Proofs.YtfclclckcjjnkaaGreatDoor
open Go Go.RowKit

def lineB : List UInt8 := [108, 105, 110, 101]
def funcB (f : Fu) : List UInt8 := fixB f.1.toNat 1 ++ (fixB f.2.length 2 ++ f.2.flatMap bytesI)
def headB (p : Pg) : List UInt8 := tellB [p.2.1.toNat, p.2.2.1.toNat, p.2.2.2.toNat, p.1.length] 1
def bareB (p : Pg) : List UInt8 := lineB ++ (headB p ++ p.1.flatMap funcB)
def sealB (l : List UInt8) : List UInt8 := l ++ fixB (sumS l) 8
def imageB (p : Pg) : List UInt8 := sealB (bareB p)

/-- A number of a width from a place on. -/
def numK (l : List UInt8) (k wd : Nat) : (Nat × Nat) ⊕ Int := if l.length < k + wd then .inr 110 else .inl (unB ((l.drop k).take wd), k + wd)
/-- An instruction from a place on. -/
def insK (l : List UInt8) (k : Nat) : (In × Nat) ⊕ Int :=
  if (readI (l.drop k)).2.2 = 0 then .inl ((readI (l.drop k)).1, k + (readI (l.drop k)).2.1) else if (readI (l.drop k)).2.2 = 110 then .inr 110 else .inr 200
/-- So many more instructions, behind those that are read. -/
def codeK (l : List UInt8) : Nat → Nat → List In → (List In × Nat) ⊕ Int
  | 0, k, c => .inl (c, k)
  | m + 1, k, c => match insK l k with | .inr e => .inr e | .inl (x, k') => codeK l m k' (c ++ [x])
def funcK (l : List UInt8) (k : Nat) : (Fu × Nat) ⊕ Int :=
  match numK l k 1 with
  | .inr e => .inr e
  | .inl (r, k1) => match numK l k1 2 with
    | .inr e => .inr e
    | .inl (m, k2) => match codeK l m k2 [] with
      | .inr e => .inr e
      | .inl (c, k3) => .inl (((r : Int), c), k3)
def funcsK (l : List UInt8) : Nat → Nat → List Fu → (List Fu × Nat) ⊕ Int
  | 0, k, fs => .inl (fs, k)
  | m + 1, k, fs => match funcK l k with | .inr e => .inr e | .inl (f, k') => funcsK l m k' (fs ++ [f])
/-- The bytes that a thing begins with: where one lacks, or is another one. -/
def begK (l : List UInt8) : List UInt8 → Nat → Nat ⊕ Int
  | [], k => .inl k
  | c :: cs, k => if l.length < k + 1 then .inr 110 else if l.getD k 0 = c then begK l cs (k + 1) else .inr 200
/-- All but the sum. -/
def pgK (l : List UInt8) (k : Nat) : (Pg × Nat) ⊕ Int :=
  match begK l lineB k with
  | .inr e => .inr e
  | .inl k0 => match numK l k0 1 with
    | .inr e => .inr e
    | .inl (a, k1) => match numK l k1 1 with
      | .inr e => .inr e
      | .inl (b, k2) => match numK l k2 1 with
        | .inr e => .inr e
        | .inl (c, k3) => match numK l k3 1 with
          | .inr e => .inr e
          | .inl (m, k4) => match funcsK l m k4 [] with
            | .inr e => .inr e
            | .inl (fs, k5) => .inl ((fs, (a : Int), (b : Int), (c : Int)), k5)
/-- An image from a place on: the program, and where it ends. -/
def imgK (l : List UInt8) (k : Nat) : (Pg × Nat) ⊕ Int :=
  match pgK l k with
  | .inr e => .inr e
  | .inl (p, k5) => match numK l k5 8 with
    | .inr e => .inr e
    | .inl (s, k6) => if s = sumS ((l.drop k).take (k5 - k)) ∧ checkP p = 0 then .inl (p, k6) else .inr 200
def emP : Pg := ([], 0, 0, 0)
/-- The program of an image, and nothing behind it. -/
def decI (l : List UInt8) : Pg × Int :=
  match imgK l 0 with
  | .inr e => (emP, e)
  | .inl (p, k) => if k < l.length then (emP, 200) else (p, 0)
def encI (p : Pg) : List UInt8 × Int := if checkP p = 0 then (imageB p, 0) else ([], 2)
end Go.Proofs.YtfclclckcjjnkaaGreatDoor
namespace Go.Proofs.YtfclclckcjjnkaaGreatDoor
open Go Go.RowKit

theorem sumS_lt (l : List UInt8) : sumS l < 18446744073709551616 := by unfold sumS all1; omega
theorem rdok (l : List UInt8) (h : (readI l).2.2 = 0) : mayI (readI l).1 = true ∧ OkIn (readI l).1 ∧ bytesI (readI l).1 = l.take (readI l).2.1 ∧ (readI l).2.1 ≤ l.length ∧ 0 < (readI l).2.1 := by
  obtain ⟨x, n, er, e, _, hi, h1, _⟩ := readI_cases l
  rw [e] at h ⊢
  obtain ⟨a, b, c, d, f⟩ := h1 h
  exact ⟨a, ⟨f, hi⟩, b, c, d⟩
structure Fine (p : Pg) : Prop where
  n0 : 1 ≤ p.1.length ∧ p.1.length ≤ 32
  n1 : 0 ≤ p.2.1 ∧ p.2.1 ≤ 64
  n2 : 0 ≤ p.2.2.1 ∧ p.2.2.1 ≤ 64
  n3 : 0 ≤ p.2.2.2 ∧ p.2.2.2 ≤ 64
  fs : ∀ f ∈ p.1, (1 ≤ f.1 ∧ f.1 ≤ 16) ∧ (1 ≤ f.2.length ∧ f.2.length ≤ 512) ∧ ∀ x ∈ f.2, mayI x = true
theorem fine_of {p : Pg} (h : checkP p = 0) : Fine p := by
  unfold checkP at h
  split at h
  · rename_i hc
    rw [Bool.and_eq_true] at hc
    obtain ⟨hn, hw⟩ := hc
    unfold wrongP at hw
    rw [if_pos hn, Option.isNone_iff_eq_none, List.find?_eq_none] at hw
    unfold numsP sharedB at hn
    simp only [Bool.and_eq_true, List.all_eq_true, inB, decide_eq_true_eq, List.mem_cons, List.not_mem_nil, or_false, forall_eq_or_imp, forall_eq] at hn
    obtain ⟨h0, ⟨h1, h2, h3⟩, h4⟩ := hn
    refine ⟨by omega, by omega, by omega, by omega, fun f hf => ?_⟩
    have h5 := h4 f hf
    unfold numsF at h5
    simp only [Bool.and_eq_true, inB, decide_eq_true_eq] at h5
    refine ⟨by omega, by omega, fun x hx => ?_⟩
    obtain ⟨i, hi, rfl⟩ := List.mem_iff_getElem.1 hf
    obtain ⟨k, hk, rfl⟩ := List.mem_iff_getElem.1 hx
    have hg : p.1.getD i zF = p.1[i] := by rw [List.getD_eq_getElem?_getD, List.getElem?_eq_getElem hi]; rfl
    have hm : (i, k) ∈ plL p.1 p.1.length := by
      unfold plL rowP
      rw [List.mem_flatMap]
      refine ⟨i, List.mem_range.2 hi, ?_⟩
      rw [List.mem_map]
      exact ⟨k, List.mem_range.2 (by rw [hg]; exact hk), rfl⟩
    have hb := hw _ hm
    unfold badX fineB at hb
    simp only [hg] at hb
    have hgk : (p.1[i]).2.getD k zI = (p.1[i]).2[k] := by rw [List.getD_eq_getElem?_getD, List.getElem?_eq_getElem hk]; rfl
    rw [hgk] at hb
    simp only [Bool.not_eq_true, Bool.not_eq_false', Bool.and_eq_true] at hb
    exact hb.1
  · cases h

/-- The bytes from one place to another. -/
def seg (l : List UInt8) (i j : Nat) : List UInt8 := (l.drop i).take (j - i)
theorem seg_cat (l : List UInt8) {i j k : Nat} (h1 : i ≤ j) (h2 : j ≤ k) : seg l i j ++ seg l j k = seg l i k := by
  unfold seg
  have : (l.drop i).drop (j - i) = l.drop j := by rw [List.drop_drop]; congr 1; omega
  rw [← this, show k - i = (j - i) + (k - j) by omega, List.take_add]
theorem seg_len (l : List UInt8) {i j : Nat} (h2 : j ≤ l.length) : (seg l i j).length = j - i := by
  unfold seg; rw [List.length_take, List.length_drop]; omega
theorem seg_nil (l : List UInt8) (i : Nat) : seg l i i = [] := by simp [seg]
theorem isW1 : isW ((1 : Nat) : Int) = true := rfl
theorem isW2 : isW ((2 : Nat) : Int) = true := rfl
theorem isW8 : isW ((8 : Nat) : Int) = true := rfl
theorem fixB_in {n wd : Nat} (hw : isW (wd : Int) = true) (h : n < 256 ^ wd) : fixB n wd = leB wd n := by
  unfold fixB fixE
  rw [if_pos hw, if_pos (show n < 256 ^ ((wd : Int)).toNat from h)]
  exact if_pos rfl
theorem fixB_inlen {n wd : Nat} (hw : isW (wd : Int) = true) (h : n < 256 ^ wd) : (fixB n wd).length = wd := by rw [fixB_in hw h, leB_length]
theorem fixB_unB (s : List UInt8) (wd : Nat) (hw : isW (wd : Int) = true) (h : s.length = wd) : fixB (unB s) wd = s := by
  subst h
  rw [fixB_in hw (unB_lt s), leB_unB8]
theorem fixB_inj {n m wd : Nat} (hw : isW (wd : Int) = true) (hn : n < 256 ^ wd) (hm : m < 256 ^ wd) (h : fixB n wd = fixB m wd) : n = m := by
  rw [fixB_in hw hn, fixB_in hw hm] at h
  have := congrArg unB h
  rwa [unB_leB, unB_leB, Nat.mod_eq_of_lt hn, Nat.mod_eq_of_lt hm] at this
theorem sumS_lt8 (l : List UInt8) : sumS l < 256 ^ 8 := by have := sumS_lt l; omega

theorem numK_in {l : List UInt8} {k wd n k' : Nat} (hw : isW (wd : Int) = true) (h : numK l k wd = .inl (n, k')) : k' = k + wd ∧ k' ≤ l.length ∧ n < 256 ^ wd ∧ fixB n wd = seg l k k' := by
  unfold numK at h
  split at h
  · cases h
  · rename_i hl
    simp only [Sum.inl.injEq, Prod.mk.injEq] at h
    obtain ⟨rfl, rfl⟩ := h
    have hlen : ((l.drop k).take wd).length = wd := by rw [List.length_take, List.length_drop]; omega
    refine ⟨rfl, by omega, ?_, ?_⟩
    · have := unB_lt ((l.drop k).take wd); rwa [hlen] at this
    · rw [fixB_unB _ wd hw hlen]; unfold seg; rw [show k + wd - k = wd by omega]
theorem insK_in {l : List UInt8} {k k' : Nat} {x : In} (hk : k ≤ l.length) (h : insK l k = .inl (x, k')) : mayI x = true ∧ OkIn x ∧ k < k' ∧ k' ≤ l.length ∧ bytesI x = seg l k k' := by
  unfold insK at h
  split at h
  · rename_i h0
    simp only [Sum.inl.injEq, Prod.mk.injEq] at h
    obtain ⟨rfl, rfl⟩ := h
    obtain ⟨h1, h2, h3, h4, h5⟩ := rdok _ h0
    rw [List.length_drop] at h4
    refine ⟨h1, h2, by omega, by omega, ?_⟩
    rw [h3]; unfold seg; congr 1; omega
  · split at h <;> cases h
theorem codeK_in {l : List UInt8} : ∀ (m k : Nat) (c : List In) {c' : List In} {k' : Nat}, k ≤ l.length → codeK l m k c = .inl (c', k') → ∃ d, c' = c ++ d ∧ d.length = m ∧ k ≤ k' ∧ k' ≤ l.length ∧ d.flatMap bytesI = seg l k k' ∧ ∀ x ∈ d, mayI x = true ∧ OkIn x
  | 0, k, c, c', k', hk, h => by
    simp only [codeK, Sum.inl.injEq, Prod.mk.injEq] at h
    obtain ⟨rfl, rfl⟩ := h
    exact ⟨[], by simp, rfl, Nat.le_refl _, hk, by simp [seg_nil], by simp⟩
  | m + 1, k, c, c', k', hk, h => by
    rw [codeK] at h
    split at h
    · cases h
    · rename_i x k1 hx
      obtain ⟨h1, h2, h3, h4, h5⟩ := insK_in hk hx
      obtain ⟨d, rfl, hd, a1, a2, a3, a4⟩ := codeK_in m k1 _ h4 h
      refine ⟨x :: d, by simp, by simp [hd], by omega, a2, ?_, ?_⟩
      · rw [List.flatMap_cons, h5, a3, seg_cat l (by omega) a1]
      · intro y hy
        rcases List.mem_cons.1 hy with rfl | hy
        · exact ⟨h1, h2⟩
        · exact a4 y hy
theorem funcK_in {l : List UInt8} {k k' : Nat} {f : Fu} (_hk : k ≤ l.length) (h : funcK l k = .inl (f, k')) : k ≤ k' ∧ k' ≤ l.length ∧ funcB f = seg l k k' ∧ ∀ x ∈ f.2, mayI x = true ∧ OkIn x := by
  unfold funcK at h
  split at h
  · cases h
  · rename_i r k1 hr
    obtain ⟨rfl, a2, a3, a4⟩ := numK_in isW1 hr
    split at h
    · cases h
    · rename_i m k2 hm
      obtain ⟨rfl, b2, b3, b4⟩ := numK_in isW2 hm
      split at h
      · cases h
      · rename_i c k3 hc
        obtain ⟨d, rfl, hd, c1, c2, c3, c4⟩ := codeK_in _ _ _ b2 hc
        simp only [Sum.inl.injEq, Prod.mk.injEq] at h
        obtain ⟨rfl, rfl⟩ := h
        refine ⟨by omega, c2, ?_, by simpa using c4⟩
        unfold funcB
        simp only [Int.toNat_natCast, hd, c3]
        have e1 : fixB r 1 = seg l k (k + 1) := a4
        have e2 : fixB m 2 = seg l (k + 1) (k + 1 + 2) := b4
        rw [e1, e2, seg_cat l (by omega) c1, seg_cat l (by omega) (by omega)]
theorem funcsK_in {l : List UInt8} : ∀ (m k : Nat) (c : List Fu) {c' : List Fu} {k' : Nat}, k ≤ l.length → funcsK l m k c = .inl (c', k') → ∃ d, c' = c ++ d ∧ d.length = m ∧ k ≤ k' ∧ k' ≤ l.length ∧ d.flatMap funcB = seg l k k' ∧ ∀ f ∈ d, ∀ x ∈ f.2, mayI x = true ∧ OkIn x
  | 0, k, c, c', k', hk, h => by
    simp only [funcsK, Sum.inl.injEq, Prod.mk.injEq] at h
    obtain ⟨rfl, rfl⟩ := h
    exact ⟨[], by simp, rfl, Nat.le_refl _, hk, by simp [seg_nil], by simp⟩
  | m + 1, k, c, c', k', hk, h => by
    rw [funcsK] at h
    split at h
    · cases h
    · rename_i x k1 hx
      obtain ⟨h3, h4, h5, h6⟩ := funcK_in hk hx
      obtain ⟨d, rfl, hd, a1, a2, a3, a4⟩ := funcsK_in m k1 _ h4 h
      refine ⟨x :: d, by simp, by simp [hd], by omega, a2, ?_, ?_⟩
      · rw [List.flatMap_cons, h5, a3, seg_cat l (by omega) a1]
      · intro y hy
        rcases List.mem_cons.1 hy with rfl | hy
        · exact h6
        · exact a4 y hy
theorem begK_in {l : List UInt8} : ∀ (cs : List UInt8) (k : Nat) {k' : Nat}, k ≤ l.length → begK l cs k = .inl k' → k' = k + cs.length ∧ k' ≤ l.length ∧ cs = seg l k k'
  | [], k, k', hk, h => by
    simp only [begK, Sum.inl.injEq] at h
    subst h
    exact ⟨rfl, hk, (seg_nil l k).symm⟩
  | c :: cs, k, k', hk, h => by
    rw [begK] at h
    split at h
    · cases h
    · rename_i hl
      split at h
      · rename_i hc
        obtain ⟨rfl, h2, h3⟩ := begK_in cs (k + 1) (by omega) h
        refine ⟨by simp; omega, h2, ?_⟩
        rw [← seg_cat l (show k ≤ k + 1 by omega) (by omega), ← h3]
        have : seg l k (k + 1) = [c] := by
          unfold seg
          rw [← hc, List.drop_eq_getElem_cons (by omega : k < l.length), show k + 1 - k = 1 by omega]
          rw [List.take_succ_cons, List.take_zero, List.getD_eq_getElem?_getD, List.getElem?_eq_getElem (by omega : k < l.length)]; rfl
        rw [this]; rfl
      · cases h
theorem pgK_in {l : List UInt8} {k k' : Nat} {p : Pg} (hk : k ≤ l.length) (h : pgK l k = .inl (p, k')) : k ≤ k' ∧ k' ≤ l.length ∧ bareB p = seg l k k' ∧ ∀ f ∈ p.1, ∀ x ∈ f.2, mayI x = true ∧ OkIn x := by
  unfold pgK at h
  split at h
  · cases h
  · rename_i k0 h0
    obtain ⟨e0, a0, s0⟩ := begK_in _ _ hk h0
    split at h
    · cases h
    · rename_i a k1 h1
      obtain ⟨e1, a1, b1, s1⟩ := numK_in isW1 h1
      split at h
      · cases h
      · rename_i b k2 h2
        obtain ⟨e2, a2, b2, s2⟩ := numK_in isW1 h2
        split at h
        · cases h
        · rename_i c k3 h3
          obtain ⟨e3, a3, b3, s3⟩ := numK_in isW1 h3
          split at h
          · cases h
          · rename_i m k4 h4
            obtain ⟨e4, a4, b4, s4⟩ := numK_in isW1 h4
            split at h
            · cases h
            · rename_i fs k5 h5
              obtain ⟨d, ed, hd, c1, c2, c3, c4⟩ := funcsK_in _ _ _ a4 h5
              rw [List.nil_append] at ed
              subst ed
              simp only [Sum.inl.injEq, Prod.mk.injEq] at h
              obtain ⟨hp, rfl⟩ := h
              subst hp
              simp only [lineB, List.length_cons, List.length_nil] at e0
              refine ⟨by omega, c2, ?_, c4⟩
              unfold bareB headB tellB
              simp only [Int.toNat_natCast, List.flatMap_cons, List.flatMap_nil, List.append_nil, List.append_assoc, hd, c3]
              rw [s1, s2, s3, s4]
              have s0' : lineB = seg l k k0 := s0
              rw [s0', seg_cat l (by omega) (by omega), seg_cat l (by omega) (by omega), seg_cat l (by omega) (by omega), seg_cat l (by omega) (by omega), seg_cat l (by omega) (by omega)]
theorem imgK_in {l : List UInt8} {k k' : Nat} {p : Pg} (hk : k ≤ l.length) (h : imgK l k = .inl (p, k')) : k ≤ k' ∧ k' ≤ l.length ∧ checkP p = 0 ∧ imageB p = seg l k k' ∧ ∀ f ∈ p.1, ∀ x ∈ f.2, mayI x = true ∧ OkIn x := by
  unfold imgK at h
  split at h
  · cases h
  · rename_i q k5 h5
    obtain ⟨c1, c2, c3, c4⟩ := pgK_in hk h5
    split at h
    · cases h
    · rename_i s k6 h6
      obtain ⟨e6, a6, b6, s6⟩ := numK_in isW8 h6
      split at h
      · rename_i hc
        simp only [Sum.inl.injEq, Prod.mk.injEq] at h
        obtain ⟨rfl, rfl⟩ := h
        refine ⟨by omega, a6, hc.2, ?_, c4⟩
        unfold imageB sealB
        rw [c3]
        have h1 : fixB (sumS (seg l k k5)) 8 = seg l k5 k6 := by
          have : s = sumS (seg l k k5) := hc.1
          rw [← this]; exact s6
        rw [h1, seg_cat l c1 (by omega)]
      · cases h

theorem drop_cat {l a b : List UInt8} {k : Nat} (h : l.drop k = a ++ b) (hk : k ≤ l.length) : l.drop (k + a.length) = b ∧ k + a.length ≤ l.length := by
  have e : l.length - k = a.length + b.length := by rw [← List.length_drop, h, List.length_append]
  refine ⟨?_, by omega⟩
  rw [← List.drop_drop, h, List.drop_left]
theorem numK_of {l r : List UInt8} {k wd n : Nat} (hw : isW (wd : Int) = true) (hn : n < 256 ^ wd) (hk : k ≤ l.length) (h : l.drop k = fixB n wd ++ r) : numK l k wd = .inl (n, k + wd) ∧ l.drop (k + wd) = r ∧ k + wd ≤ l.length := by
  have hl := fixB_inlen hw hn
  obtain ⟨h1, h2⟩ := drop_cat h hk
  rw [hl] at h1 h2
  refine ⟨?_, h1, h2⟩
  unfold numK
  rw [if_neg (by omega), h, List.take_left' hl, fixB_in hw hn, unB_leB, Nat.mod_eq_of_lt hn]
theorem insK_of {l r : List UInt8} {k : Nat} {x : In} (hm : mayI x = true) (h : l.drop k = bytesI x ++ r) : insK l k = .inl (x, k + (bytesI x).length) := by
  unfold insK
  rw [h, readI_bytes hm]
  rfl
theorem codeK_of {l : List UInt8} : ∀ (d : List In) (k : Nat) (c : List In) (r : List UInt8), (∀ x ∈ d, mayI x = true) → k ≤ l.length → l.drop k = d.flatMap bytesI ++ r → codeK l d.length k c = .inl (c ++ d, k + (d.flatMap bytesI).length)
  | [], k, c, r, _, _, _ => by simp [codeK]
  | x :: d, k, c, r, hm, hk, h => by
    rw [List.flatMap_cons, List.append_assoc] at h
    obtain ⟨h1, h2⟩ := drop_cat h hk
    rw [List.length_cons, codeK, insK_of (hm x (by simp)) h]
    simp only []
    rw [codeK_of d _ _ r (fun y hy => hm y (by simp [hy])) h2 h1]
    simp [Nat.add_assoc]
theorem funcK_of {l r : List UInt8} {k : Nat} {f : Fu} (h1 : 1 ≤ f.1 ∧ f.1 ≤ 16) (h2 : f.2.length ≤ 512) (hm : ∀ x ∈ f.2, mayI x = true) (hk : k ≤ l.length) (h : l.drop k = funcB f ++ r) : funcK l k = .inl (f, k + (funcB f).length) := by
  obtain ⟨x, c⟩ := f
  simp only at h1 h2 hm
  obtain ⟨m, rfl⟩ : ∃ m : Nat, x = m := ⟨x.toNat, by omega⟩
  unfold funcB at h ⊢
  simp only [Int.toNat_natCast, List.append_assoc] at h ⊢
  have hm1 : m < 256 ^ 1 := by omega
  have hm2 : c.length < 256 ^ 2 := by omega
  obtain ⟨a1, a2, a3⟩ := numK_of isW1 hm1 hk h
  obtain ⟨b1, b2, b3⟩ := numK_of isW2 hm2 a3 a2
  have c1 := codeK_of c _ [] r hm b3 b2
  unfold funcK
  rw [a1]
  simp only []
  rw [b1]
  simp only []
  rw [c1]
  have l1 : (fixB m 1).length = 1 := fixB_inlen isW1 hm1
  have l2 : (fixB c.length 2).length = 2 := fixB_inlen isW2 hm2
  simp only [List.nil_append, List.length_append, l1, l2, Nat.add_assoc]
theorem funcsK_of {l : List UInt8} : ∀ (d : List Fu) (k : Nat) (c : List Fu) (r : List UInt8), (∀ f ∈ d, (1 ≤ f.1 ∧ f.1 ≤ 16) ∧ (1 ≤ f.2.length ∧ f.2.length ≤ 512) ∧ ∀ x ∈ f.2, mayI x = true) → k ≤ l.length → l.drop k = d.flatMap funcB ++ r → funcsK l d.length k c = .inl (c ++ d, k + (d.flatMap funcB).length)
  | [], k, c, r, _, _, _ => by simp [funcsK]
  | x :: d, k, c, r, hm, hk, h => by
    rw [List.flatMap_cons, List.append_assoc] at h
    obtain ⟨h1, h2⟩ := drop_cat h hk
    obtain ⟨m1, m2, m3⟩ := hm x (by simp)
    rw [List.length_cons, funcsK, funcK_of m1 m2.2 m3 hk h]
    simp only []
    rw [funcsK_of d _ _ r (fun y hy => hm y (by simp [hy])) h2 h1]
    simp [Nat.add_assoc]
theorem begK_of {l : List UInt8} : ∀ (cs : List UInt8) (k : Nat) (r : List UInt8), k ≤ l.length → l.drop k = cs ++ r → begK l cs k = .inl (k + cs.length)
  | [], k, r, _, _ => by simp [begK]
  | c :: cs, k, r, hk, h => by
    have h' : l.drop k = [c] ++ (cs ++ r) := h
    obtain ⟨h1, h2⟩ := drop_cat h' hk
    simp only [List.length_cons, List.length_nil, Nat.zero_add] at h1 h2
    have hc : l.getD k 0 = c := by
      have : (l.drop k)[0]? = some c := by rw [h]; rfl
      rw [List.getElem?_drop, Nat.add_zero] at this
      rw [List.getD_eq_getElem?_getD, this]; rfl
    rw [begK, if_neg (by omega), if_pos hc, begK_of cs (k + 1) r h2 h1]
    simp; omega
theorem imgK_of {l r : List UInt8} {k : Nat} {p : Pg} (hp : checkP p = 0) (hk : k ≤ l.length) (h : l.drop k = imageB p ++ r) : imgK l k = .inl (p, k + (imageB p).length) := by
  have hF := fine_of hp
  obtain ⟨fs, x1, x2, x3⟩ := p
  obtain ⟨n0, n1, n2, n3, hfs⟩ := hF
  simp only at n0 n1 n2 n3 hfs
  obtain ⟨a, rfl⟩ : ∃ m : Nat, x1 = m := ⟨x1.toNat, by omega⟩
  obtain ⟨b, rfl⟩ : ∃ m : Nat, x2 = m := ⟨x2.toNat, by omega⟩
  obtain ⟨c, rfl⟩ : ∃ m : Nat, x3 = m := ⟨x3.toNat, by omega⟩
  have ha : a < 256 ^ 1 := by omega
  have hb : b < 256 ^ 1 := by omega
  have hc : c < 256 ^ 1 := by omega
  have hm : fs.length < 256 ^ 1 := by omega
  have hB : bareB (fs, (a : Int), (b : Int), (c : Int)) = lineB ++ (fixB a (1 : Nat) ++ (fixB b (1 : Nat) ++ (fixB c (1 : Nat) ++ (fixB fs.length (1 : Nat) ++ fs.flatMap funcB)))) := by
    unfold bareB headB tellB; simp
  have hlen : (bareB (fs, (a : Int), (b : Int), (c : Int))).length = 4 + (1 + (1 + (1 + (1 + (fs.flatMap funcB).length)))) := by
    rw [hB]; simp only [List.length_append, fixB_inlen isW1 ha, fixB_inlen isW1 hb, fixB_inlen isW1 hc, fixB_inlen isW1 hm]; rfl
  have hS := fixB_inlen isW8 (sumS_lt8 (bareB (fs, (a : Int), (b : Int), (c : Int))))
  have h' := h
  unfold imageB sealB at h'
  rw [List.append_assoc] at h'
  have htake : (l.drop k).take (bareB (fs, (a : Int), (b : Int), (c : Int))).length = bareB (fs, (a : Int), (b : Int), (c : Int)) := by rw [h', List.take_left]
  obtain ⟨z1, z2⟩ := drop_cat h' hk
  rw [hB] at h'
  simp only [List.append_assoc] at h'
  have e0 := begK_of lineB k _ hk h'
  obtain ⟨d0, f0⟩ := drop_cat h' hk
  obtain ⟨e1, d1, f1⟩ := numK_of isW1 ha f0 d0
  obtain ⟨e2, d2, f2⟩ := numK_of isW1 hb f1 d1
  obtain ⟨e3, d3, f3⟩ := numK_of isW1 hc f2 d2
  obtain ⟨e4, d4, f4⟩ := numK_of isW1 hm f3 d3
  have e5 := funcsK_of fs _ [] _ hfs f4 d4
  obtain ⟨d5, f5⟩ := drop_cat d4 f4
  obtain ⟨e6, d6, f6⟩ := numK_of isW8 (sumS_lt8 _) f5 d5
  have hk5 : k + lineB.length + 1 + 1 + 1 + 1 + (fs.flatMap funcB).length = k + (bareB (fs, (a : Int), (b : Int), (c : Int))).length := by rw [hlen]; simp [lineB]; omega
  have hpg : pgK l k = .inl ((fs, (a : Int), (b : Int), (c : Int)), k + lineB.length + 1 + 1 + 1 + 1 + (fs.flatMap funcB).length) := by
    unfold pgK
    rw [e0]; simp only []
    rw [e1]; simp only []
    rw [e2]; simp only []
    rw [e3]; simp only []
    rw [e4]; simp only []
    rw [e5]; rfl
  unfold imgK
  rw [hpg]
  simp only []
  rw [e6]
  simp only []
  rw [hk5, show k + (bareB (fs, (a : Int), (b : Int), (c : Int))).length - k = (bareB (fs, (a : Int), (b : Int), (c : Int))).length by omega, htake]
  rw [if_pos ⟨by rw [hB], hp⟩]
  unfold imageB sealB
  rw [List.length_append]
  have hS' : (fixB (sumS (bareB (fs, (a : Int), (b : Int), (c : Int)))) 8).length = 8 := hS
  rw [hS', Nat.add_assoc]
/-- What it is refused with. -/
theorem numK_err {l : List UInt8} {k wd : Nat} {e : Int} (h : numK l k wd = .inr e) : e = 110 := by
  unfold numK at h
  split at h
  · cases h; rfl
  · cases h
theorem insK_err {l : List UInt8} {k : Nat} {e : Int} (h : insK l k = .inr e) : e = 110 ∨ e = 200 := by
  unfold insK at h
  split at h
  · cases h
  · split at h <;> cases h <;> simp
theorem codeK_err {l : List UInt8} : ∀ (m k : Nat) (c : List In) {e : Int}, codeK l m k c = .inr e → e = 110 ∨ e = 200
  | 0, _, _, _, h => by cases h
  | m + 1, k, c, e, h => by
    rw [codeK] at h
    split at h
    · rename_i hx; cases h; exact insK_err hx
    · exact codeK_err m _ _ h
theorem funcK_err {l : List UInt8} {k : Nat} {e : Int} (h : funcK l k = .inr e) : e = 110 ∨ e = 200 := by
  unfold funcK at h
  split at h
  · rename_i hx; cases h; exact .inl (numK_err hx)
  · split at h
    · rename_i hx; cases h; exact .inl (numK_err hx)
    · split at h
      · rename_i hx; cases h; exact codeK_err _ _ _ hx
      · cases h
theorem funcsK_err {l : List UInt8} : ∀ (m k : Nat) (c : List Fu) {e : Int}, funcsK l m k c = .inr e → e = 110 ∨ e = 200
  | 0, _, _, _, h => by cases h
  | m + 1, k, c, e, h => by
    rw [funcsK] at h
    split at h
    · rename_i hx; cases h; exact funcK_err hx
    · exact funcsK_err m _ _ h
theorem begK_err {l : List UInt8} : ∀ (cs : List UInt8) (k : Nat) {e : Int}, begK l cs k = .inr e → e = 110 ∨ e = 200
  | [], _, _, h => by cases h
  | c :: cs, k, e, h => by
    rw [begK] at h
    split at h
    · cases h; simp
    · split at h
      · exact begK_err cs _ h
      · cases h; simp
theorem pgK_err {l : List UInt8} {k : Nat} {e : Int} (h : pgK l k = .inr e) : e = 110 ∨ e = 200 := by
  unfold pgK at h
  split at h
  · rename_i hx; cases h; exact begK_err _ _ hx
  · split at h
    · rename_i hx; cases h; exact .inl (numK_err hx)
    · split at h
      · rename_i hx; cases h; exact .inl (numK_err hx)
      · split at h
        · rename_i hx; cases h; exact .inl (numK_err hx)
        · split at h
          · rename_i hx; cases h; exact .inl (numK_err hx)
          · split at h
            · rename_i hx; cases h; exact funcsK_err _ _ _ hx
            · cases h
theorem imgK_err {l : List UInt8} {k : Nat} {e : Int} (h : imgK l k = .inr e) : e = 110 ∨ e = 200 := by
  unfold imgK at h
  split at h
  · rename_i hx; cases h; exact pgK_err hx
  · split at h
    · rename_i hx; cases h; exact .inl (numK_err hx)
    · split at h
      · cases h
      · cases h; simp
theorem decI_cases (l : List UInt8) : (decI l).2 = 0 ∨ (decI l).2 = 110 ∨ (decI l).2 = 200 := by
  unfold decI
  split
  · rename_i hx; exact .inr (imgK_err hx)
  · split <;> simp
theorem decI_image {p : Pg} (hp : checkP p = 0) : decI (imageB p) = (p, 0) := by
  unfold decI
  rw [imgK_of (r := []) (k := 0) hp (Nat.zero_le _) (by simp)]
  simp
theorem decI_in {l : List UInt8} (h : (decI l).2 = 0) : checkP (decI l).1 = 0 ∧ imageB (decI l).1 = l ∧ ∀ f ∈ (decI l).1.1, ∀ x ∈ f.2, mayI x = true ∧ OkIn x := by
  unfold decI at h ⊢
  split
  · rename_i e hx; rw [hx] at h; have h : e = 0 := h; rcases imgK_err hx with rfl | rfl <;> cases h
  · rename_i p k hx
    rw [hx] at h
    obtain ⟨h1, h2, h3, h4, h5⟩ := imgK_in (Nat.zero_le _) hx
    simp only at h
    by_cases hk : k < l.length
    · rw [if_pos hk] at h; cases h
    · rw [if_neg hk]
      refine ⟨h3, ?_, h5⟩
      rw [h4]; unfold seg; rw [List.drop_zero, List.take_of_length_le (by omega)]
/-- An image in which one byte is another one is none. -/
theorem decI_bent {p : Pg} {i : Nat} {y : UInt8} (hi : i < (imageB p).length) (hy : y ≠ (imageB p).getD i 0) : (decI ((imageB p).set i y)).2 ≠ 0 := by
  intro h
  obtain ⟨h1, h2, _⟩ := decI_in h
  generalize (decI ((imageB p).set i y)).1 = q at h1 h2
  have lp := fixB_inlen isW8 (sumS_lt8 (bareB p))
  have lq := fixB_inlen isW8 (sumS_lt8 (bareB q))
  have hl : (imageB q).length = (imageB p).length := by rw [h2, List.length_set]
  unfold imageB sealB at h2 hi hy hl
  rw [List.length_append, List.length_append] at hl
  have lp' : (fixB (sumS (bareB p)) 8).length = 8 := lp
  have lq' : (fixB (sumS (bareB q)) 8).length = 8 := lq
  rw [lp', lq'] at hl
  have hl : (bareB q).length = (bareB p).length := by omega
  rw [List.length_append, lp'] at hi
  by_cases hc : i < (bareB p).length
  · rw [List.set_append_left _ _ hc] at h2
    obtain ⟨e1, e2⟩ := List.append_inj h2 (by rw [hl, List.length_set])
    have e3 := fixB_inj isW8 (sumS_lt8 _) (sumS_lt8 _) e2
    rw [e1] at e3
    refine sumS_ne (bareB p) i hc y ?_ e3.symm
    rw [List.getD_eq_getElem?_getD, List.getElem?_append_left hc] at hy
    rwa [List.getD_eq_getElem?_getD]
  · rw [List.set_append_right _ _ (by omega)] at h2
    obtain ⟨e1, e2⟩ := List.append_inj h2 hl
    rw [e1] at e2
    have e4 := congrArg (fun l => l[i - (bareB p).length]?) e2
    rw [List.getElem?_set_self (by rw [lp']; omega)] at e4
    rw [List.getD_eq_getElem?_getD, List.getElem?_append_right (by omega), e4] at hy
    exact hy rfl
/-- An image from a place on is one of what stands there. -/
def shK {α : Type} (b : Nat) (r : (α × Nat) ⊕ Int) : (α × Nat) ⊕ Int := match r with | .inr e => .inr e | .inl (x, k) => .inl (x, b + k)
theorem numK_sh (l : List UInt8) (b k wd : Nat) (hb : b ≤ l.length) : numK l (b + k) wd = shK b (numK (l.drop b) k wd) := by
  unfold numK
  rw [List.length_drop, List.drop_drop]
  by_cases h : l.length < b + k + wd
  · rw [if_pos h, if_pos (by omega)]; rfl
  · rw [if_neg h, if_neg (by omega)]; simp [shK, Nat.add_assoc]
theorem insK_sh (l : List UInt8) (b k : Nat) : insK l (b + k) = shK b (insK (l.drop b) k) := by
  unfold insK
  rw [List.drop_drop]
  split
  · simp [shK, Nat.add_assoc]
  · split <;> rfl
theorem codeK_sh (l : List UInt8) (b : Nat) : ∀ (m k : Nat) (c : List In), codeK l m (b + k) c = shK b (codeK (l.drop b) m k c)
  | 0, _, _ => rfl
  | m + 1, k, c => by
    rw [codeK, codeK, insK_sh]
    rcases insK (l.drop b) k with ⟨x, k'⟩ | e
    · exact codeK_sh l b m k' _
    · rfl
theorem funcK_sh (l : List UInt8) (b k : Nat) (hb : b ≤ l.length) : funcK l (b + k) = shK b (funcK (l.drop b) k) := by
  unfold funcK
  rw [numK_sh l b k 1 hb]
  rcases numK (l.drop b) k 1 with ⟨r, k1⟩ | e
  · simp only [shK]
    rw [numK_sh l b k1 2 hb]
    rcases numK (l.drop b) k1 2 with ⟨m, k2⟩ | e
    · simp only [shK]
      rw [codeK_sh l b m k2]
      rcases codeK (l.drop b) m k2 [] with ⟨c, k3⟩ | e <;> rfl
    · rfl
  · rfl
theorem funcsK_sh (l : List UInt8) (b : Nat) (hb : b ≤ l.length) : ∀ (m k : Nat) (c : List Fu), funcsK l m (b + k) c = shK b (funcsK (l.drop b) m k c)
  | 0, _, _ => rfl
  | m + 1, k, c => by
    rw [funcsK, funcsK, funcK_sh l b k hb]
    rcases funcK (l.drop b) k with ⟨x, k'⟩ | e
    · exact funcsK_sh l b hb m k' _
    · rfl
theorem begK_sh (l : List UInt8) (b : Nat) (hb : b ≤ l.length) : ∀ (cs : List UInt8) (k : Nat), begK l cs (b + k) = match begK (l.drop b) cs k with | .inl k => .inl (b + k) | .inr e => .inr e
  | [], _ => rfl
  | c :: cs, k => by
    rw [begK, begK, List.length_drop]
    have hg : (l.drop b).getD k 0 = l.getD (b + k) 0 := by simp [List.getD, List.getElem?_drop]
    rw [hg]
    by_cases h : l.length < b + k + 1
    · rw [if_pos h, if_pos (show l.length - b < k + 1 by omega)]
    · rw [if_neg h, if_neg (show ¬ l.length - b < k + 1 by omega)]
      by_cases hc : l.getD (b + k) 0 = c
      · rw [if_pos hc, if_pos hc]; exact begK_sh l b hb cs (k + 1)
      · rw [if_neg hc, if_neg hc]
theorem pgK_sh (l : List UInt8) (b k : Nat) (hb : b ≤ l.length) : pgK l (b + k) = shK b (pgK (l.drop b) k) := by
  unfold pgK
  rw [begK_sh l b hb]
  rcases begK (l.drop b) lineB k with k0 | e
  · simp only []
    rw [numK_sh l b k0 1 hb]
    rcases numK (l.drop b) k0 1 with ⟨x1, k1⟩ | e
    · simp only [shK]
      rw [numK_sh l b k1 1 hb]
      rcases numK (l.drop b) k1 1 with ⟨x2, k2⟩ | e
      · simp only [shK]
        rw [numK_sh l b k2 1 hb]
        rcases numK (l.drop b) k2 1 with ⟨x3, k3⟩ | e
        · simp only [shK]
          rw [numK_sh l b k3 1 hb]
          rcases numK (l.drop b) k3 1 with ⟨m, k4⟩ | e
          · simp only [shK]
            rw [funcsK_sh l b hb m k4]
            rcases funcsK (l.drop b) m k4 [] with ⟨c, k5⟩ | e <;> rfl
          · rfl
        · rfl
      · rfl
    · rfl
  · rfl
theorem imgK_sh (l : List UInt8) (b k : Nat) (hb : b ≤ l.length) : imgK l (b + k) = shK b (imgK (l.drop b) k) := by
  unfold imgK
  rw [pgK_sh l b k hb]
  rcases pgK (l.drop b) k with ⟨p, k5⟩ | e
  · simp only [shK]
    rw [numK_sh l b k5 8 hb]
    rcases numK (l.drop b) k5 8 with ⟨s, k6⟩ | e
    · simp only [shK]
      rw [List.drop_drop, show b + k5 - (b + k) = k5 - k by omega]
      split <;> rfl
    · rfl
  · rfl
end Go.Proofs.YtfclclckcjjnkaaGreatDoor
