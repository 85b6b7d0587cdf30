/- Merged: MQ. -/
import Derived.Test.YthhegcngkpfcoaaGreatDoorE36
namespace Go.Proofs.YthhegcngkpfcoaaGreatDoor
open Go Go.RowKit

theorem sumS_lt (l : List UInt8) : sumS l < 18446744073709551616 := by unfold sumS all1; omega
theorem rdok (l : List UInt8) (h : (readI l).2.2 = 0) : mayI (readI l).1 = true ∧ OkIn (readI l).1 ∧ bytesI (readI l).1 = l.take (readI l).2.1 ∧ (readI l).2.1 ≤ l.length ∧ 0 < (readI l).2.1 := by
  obtain ⟨x, n, er, e, _, hi, h1, _⟩ := readI_cases l
  rw [e] at h ⊢
  obtain ⟨a, b, c, d, f⟩ := h1 h
  exact ⟨a, ⟨f, hi⟩, b, c, d⟩
structure Fine (p : Pg) : Prop where
  n0 : 1 ≤ p.1.length ∧ p.1.length ≤ 32
  n1 : 0 ≤ p.2.1 ∧ p.2.1 ≤ 64
  n2 : 0 ≤ p.2.2.1 ∧ p.2.2.1 ≤ 64
  n3 : 0 ≤ p.2.2.2 ∧ p.2.2.2 ≤ 64
  fs : ∀ f ∈ p.1, (1 ≤ f.1 ∧ f.1 ≤ 16) ∧ (1 ≤ f.2.length ∧ f.2.length ≤ 512) ∧ ∀ x ∈ f.2, mayI x = true
theorem fine_of {p : Pg} (h : checkP p = 0) : Fine p := by
  unfold checkP at h
  split at h
  · rename_i hc
    rw [Bool.and_eq_true] at hc
    obtain ⟨hn, hw⟩ := hc
    unfold wrongP at hw
    rw [if_pos hn, Option.isNone_iff_eq_none, List.find?_eq_none] at hw
    unfold numsP sharedB at hn
    simp only [Bool.and_eq_true, List.all_eq_true, inB, decide_eq_true_eq, List.mem_cons, List.not_mem_nil, or_false, forall_eq_or_imp, forall_eq] at hn
    obtain ⟨h0, ⟨h1, h2, h3⟩, h4⟩ := hn
    refine ⟨by omega, by omega, by omega, by omega, fun f hf => ?_⟩
    have h5 := h4 f hf
    unfold numsF at h5
    simp only [Bool.and_eq_true, inB, decide_eq_true_eq] at h5
    refine ⟨by omega, by omega, fun x hx => ?_⟩
    obtain ⟨i, hi, rfl⟩ := List.mem_iff_getElem.1 hf
    obtain ⟨k, hk, rfl⟩ := List.mem_iff_getElem.1 hx
    have hg : p.1.getD i zF = p.1[i] := by rw [List.getD_eq_getElem?_getD, List.getElem?_eq_getElem hi]; rfl
    have hm : (i, k) ∈ plL p.1 p.1.length := by
      unfold plL rowP
      rw [List.mem_flatMap]
      refine ⟨i, List.mem_range.2 hi, ?_⟩
      rw [List.mem_map]
      exact ⟨k, List.mem_range.2 (by rw [hg]; exact hk), rfl⟩
    have hb := hw _ hm
    unfold badX fineB at hb
    simp only [hg] at hb
    have hgk : (p.1[i]).2.getD k zI = (p.1[i]).2[k] := by rw [List.getD_eq_getElem?_getD, List.getElem?_eq_getElem hk]; rfl
    rw [hgk] at hb
    simp only [Bool.not_eq_true, Bool.not_eq_false', Bool.and_eq_true] at hb
    exact hb.1
  · cases h

/-- The bytes from one place to another. -/
def seg (l : List UInt8) (i j : Nat) : List UInt8 := (l.drop i).take (j - i)
theorem seg_cat (l : List UInt8) {i j k : Nat} (h1 : i ≤ j) (h2 : j ≤ k) : seg l i j ++ seg l j k = seg l i k := by
  unfold seg
  have : (l.drop i).drop (j - i) = l.drop j := by rw [List.drop_drop]; congr 1; omega
  rw [← this, show k - i = (j - i) + (k - j) by omega, List.take_add]
theorem seg_nil (l : List UInt8) (i : Nat) : seg l i i = [] := by simp [seg]
theorem isW1 : isW ((1 : Nat) : Int) = true := rfl
theorem isW2 : isW ((2 : Nat) : Int) = true := rfl
theorem isW8 : isW ((8 : Nat) : Int) = true := rfl
theorem fixB_in {n wd : Nat} (hw : isW (wd : Int) = true) (h : n < 256 ^ wd) : fixB n wd = leB wd n := by
  unfold fixB fixE
  rw [if_pos hw, if_pos (show n < 256 ^ ((wd : Int)).toNat from h)]
  exact if_pos rfl
theorem fixB_inlen {n wd : Nat} (hw : isW (wd : Int) = true) (h : n < 256 ^ wd) : (fixB n wd).length = wd := by rw [fixB_in hw h, leB_length]
theorem fixB_unB (s : List UInt8) (wd : Nat) (hw : isW (wd : Int) = true) (h : s.length = wd) : fixB (unB s) wd = s := by
  subst h
  rw [fixB_in hw (unB_lt s), leB_unB8]
theorem sumS_lt8 (l : List UInt8) : sumS l < 256 ^ 8 := by have := sumS_lt l; omega

theorem numK_in {l : List UInt8} {k wd n k' : Nat} (hw : isW (wd : Int) = true) (h : numK l k wd = .inl (n, k')) : k' = k + wd ∧ k' ≤ l.length ∧ n < 256 ^ wd ∧ fixB n wd = seg l k k' := by
  unfold numK at h
  split at h
  · cases h
  · rename_i hl
    simp only [Sum.inl.injEq, Prod.mk.injEq] at h
    obtain ⟨rfl, rfl⟩ := h
    have hlen : ((l.drop k).take wd).length = wd := by rw [List.length_take, List.length_drop]; omega
    refine ⟨rfl, by omega, ?_, ?_⟩
    · have := unB_lt ((l.drop k).take wd); rwa [hlen] at this
    · rw [fixB_unB _ wd hw hlen]; unfold seg; rw [show k + wd - k = wd by omega]
theorem insK_in {l : List UInt8} {k k' : Nat} {x : In} (hk : k ≤ l.length) (h : insK l k = .inl (x, k')) : mayI x = true ∧ OkIn x ∧ k < k' ∧ k' ≤ l.length ∧ bytesI x = seg l k k' := by
  unfold insK at h
  split at h
  · rename_i h0
    simp only [Sum.inl.injEq, Prod.mk.injEq] at h
    obtain ⟨rfl, rfl⟩ := h
    obtain ⟨h1, h2, h3, h4, h5⟩ := rdok _ h0
    rw [List.length_drop] at h4
    refine ⟨h1, h2, by omega, by omega, ?_⟩
    rw [h3]; unfold seg; congr 1; omega
  · split at h <;> cases h
theorem codeK_in {l : List UInt8} : ∀ (m k : Nat) (c : List In) {c' : List In} {k' : Nat}, k ≤ l.length → codeK l m k c = .inl (c', k') → ∃ d, c' = c ++ d ∧ d.length = m ∧ k ≤ k' ∧ k' ≤ l.length ∧ d.flatMap bytesI = seg l k k' ∧ ∀ x ∈ d, mayI x = true ∧ OkIn x
  | 0, k, c, c', k', hk, h => by
    simp only [codeK, Sum.inl.injEq, Prod.mk.injEq] at h
    obtain ⟨rfl, rfl⟩ := h
    exact ⟨[], by simp, rfl, Nat.le_refl _, hk, by simp [seg_nil], by simp⟩
  | m + 1, k, c, c', k', hk, h => by
    rw [codeK] at h
    split at h
    · cases h
    · rename_i x k1 hx
      obtain ⟨h1, h2, h3, h4, h5⟩ := insK_in hk hx
      obtain ⟨d, rfl, hd, a1, a2, a3, a4⟩ := codeK_in m k1 _ h4 h
      refine ⟨x :: d, by simp, by simp [hd], by omega, a2, ?_, ?_⟩
      · rw [List.flatMap_cons, h5, a3, seg_cat l (by omega) a1]
      · intro y hy
        rcases List.mem_cons.1 hy with rfl | hy
        · exact ⟨h1, h2⟩
        · exact a4 y hy
theorem funcK_in {l : List UInt8} {k k' : Nat} {f : Fu} (_hk : k ≤ l.length) (h : funcK l k = .inl (f, k')) : k ≤ k' ∧ k' ≤ l.length ∧ funcB f = seg l k k' ∧ ∀ x ∈ f.2, mayI x = true ∧ OkIn x := by
  unfold funcK at h
  split at h
  · cases h
  · rename_i r k1 hr
    obtain ⟨rfl, a2, a3, a4⟩ := numK_in isW1 hr
    split at h
    · cases h
    · rename_i m k2 hm
      obtain ⟨rfl, b2, b3, b4⟩ := numK_in isW2 hm
      split at h
      · cases h
      · rename_i c k3 hc
        obtain ⟨d, rfl, hd, c1, c2, c3, c4⟩ := codeK_in _ _ _ b2 hc
        simp only [Sum.inl.injEq, Prod.mk.injEq] at h
        obtain ⟨rfl, rfl⟩ := h
        refine ⟨by omega, c2, ?_, by simpa using c4⟩
        unfold funcB
        simp only [Int.toNat_natCast, hd, c3]
        have e1 : fixB r 1 = seg l k (k + 1) := a4
        have e2 : fixB m 2 = seg l (k + 1) (k + 1 + 2) := b4
        rw [e1, e2, seg_cat l (by omega) c1, seg_cat l (by omega) (by omega)]
theorem funcsK_in {l : List UInt8} : ∀ (m k : Nat) (c : List Fu) {c' : List Fu} {k' : Nat}, k ≤ l.length → funcsK l m k c = .inl (c', k') → ∃ d, c' = c ++ d ∧ d.length = m ∧ k ≤ k' ∧ k' ≤ l.length ∧ d.flatMap funcB = seg l k k' ∧ ∀ f ∈ d, ∀ x ∈ f.2, mayI x = true ∧ OkIn x
  | 0, k, c, c', k', hk, h => by
    simp only [funcsK, Sum.inl.injEq, Prod.mk.injEq] at h
    obtain ⟨rfl, rfl⟩ := h
    exact ⟨[], by simp, rfl, Nat.le_refl _, hk, by simp [seg_nil], by simp⟩
  | m + 1, k, c, c', k', hk, h => by
    rw [funcsK] at h
    split at h
    · cases h
    · rename_i x k1 hx
      obtain ⟨h3, h4, h5, h6⟩ := funcK_in hk hx
      obtain ⟨d, rfl, hd, a1, a2, a3, a4⟩ := funcsK_in m k1 _ h4 h
      refine ⟨x :: d, by simp, by simp [hd], by omega, a2, ?_, ?_⟩
      · rw [List.flatMap_cons, h5, a3, seg_cat l (by omega) a1]
      · intro y hy
        rcases List.mem_cons.1 hy with rfl | hy
        · exact h6
        · exact a4 y hy
theorem begK_in {l : List UInt8} : ∀ (cs : List UInt8) (k : Nat) {k' : Nat}, k ≤ l.length → begK l cs k = .inl k' → k' = k + cs.length ∧ k' ≤ l.length ∧ cs = seg l k k'
  | [], k, k', hk, h => by
    simp only [begK, Sum.inl.injEq] at h
    subst h
    exact ⟨rfl, hk, (seg_nil l k).symm⟩
  | c :: cs, k, k', hk, h => by
    rw [begK] at h
    split at h
    · cases h
    · rename_i hl
      split at h
      · rename_i hc
        obtain ⟨rfl, h2, h3⟩ := begK_in cs (k + 1) (by omega) h
        refine ⟨by simp; omega, h2, ?_⟩
        rw [← seg_cat l (show k ≤ k + 1 by omega) (by omega), ← h3]
        have : seg l k (k + 1) = [c] := by
          unfold seg
          rw [← hc, List.drop_eq_getElem_cons (by omega : k < l.length), show k + 1 - k = 1 by omega]
          rw [List.take_succ_cons, List.take_zero, List.getD_eq_getElem?_getD, List.getElem?_eq_getElem (by omega : k < l.length)]; rfl
        rw [this]; rfl
      · cases h
theorem pgK_in {l : List UInt8} {k k' : Nat} {p : Pg} (hk : k ≤ l.length) (h : pgK l k = .inl (p, k')) : k ≤ k' ∧ k' ≤ l.length ∧ bareB p = seg l k k' ∧ ∀ f ∈ p.1, ∀ x ∈ f.2, mayI x = true ∧ OkIn x := by
  unfold pgK at h
  split at h
  · cases h
  · rename_i k0 h0
    obtain ⟨e0, a0, s0⟩ := begK_in _ _ hk h0
    split at h
    · cases h
    · rename_i a k1 h1
      obtain ⟨e1, a1, b1, s1⟩ := numK_in isW1 h1
      split at h
      · cases h
      · rename_i b k2 h2
        obtain ⟨e2, a2, b2, s2⟩ := numK_in isW1 h2
        split at h
        · cases h
        · rename_i c k3 h3
          obtain ⟨e3, a3, b3, s3⟩ := numK_in isW1 h3
          split at h
          · cases h
          · rename_i m k4 h4
            obtain ⟨e4, a4, b4, s4⟩ := numK_in isW1 h4
            split at h
            · cases h
            · rename_i fs k5 h5
              obtain ⟨d, ed, hd, c1, c2, c3, c4⟩ := funcsK_in _ _ _ a4 h5
              rw [List.nil_append] at ed
              subst ed
              simp only [Sum.inl.injEq, Prod.mk.injEq] at h
              obtain ⟨hp, rfl⟩ := h
              subst hp
              simp only [lineB, List.length_cons, List.length_nil] at e0
              refine ⟨by omega, c2, ?_, c4⟩
              unfold bareB headB tellB
              simp only [Int.toNat_natCast, List.flatMap_cons, List.flatMap_nil, List.append_nil, List.append_assoc, hd, c3]
              rw [s1, s2, s3, s4]
              have s0' : lineB = seg l k k0 := s0
              rw [s0', seg_cat l (by omega) (by omega), seg_cat l (by omega) (by omega), seg_cat l (by omega) (by omega), seg_cat l (by omega) (by omega), seg_cat l (by omega) (by omega)]
theorem imgK_in {l : List UInt8} {k k' : Nat} {p : Pg} (hk : k ≤ l.length) (h : imgK l k = .inl (p, k')) : k ≤ k' ∧ k' ≤ l.length ∧ checkP p = 0 ∧ imageB p = seg l k k' ∧ ∀ f ∈ p.1, ∀ x ∈ f.2, mayI x = true ∧ OkIn x := by
  unfold imgK at h
  split at h
  · cases h
  · rename_i q k5 h5
    obtain ⟨c1, c2, c3, c4⟩ := pgK_in hk h5
    split at h
    · cases h
    · rename_i s k6 h6
      obtain ⟨e6, a6, b6, s6⟩ := numK_in isW8 h6
      split at h
      · rename_i hc
        simp only [Sum.inl.injEq, Prod.mk.injEq] at h
        obtain ⟨rfl, rfl⟩ := h
        refine ⟨by omega, a6, hc.2, ?_, c4⟩
        unfold imageB sealB
        rw [c3]
        have h1 : fixB (sumS (seg l k k5)) 8 = seg l k5 k6 := by
          have : s = sumS (seg l k k5) := hc.1
          rw [← this]; exact s6
        rw [h1, seg_cat l c1 (by omega)]
      · cases h

theorem drop_cat {l a b : List UInt8} {k : Nat} (h : l.drop k = a ++ b) (hk : k ≤ l.length) : l.drop (k + a.length) = b ∧ k + a.length ≤ l.length := by
  have e : l.length - k = a.length + b.length := by rw [← List.length_drop, h, List.length_append]
  refine ⟨?_, by omega⟩
  rw [← List.drop_drop, h, List.drop_left]
theorem numK_of {l r : List UInt8} {k wd n : Nat} (hw : isW (wd : Int) = true) (hn : n < 256 ^ wd) (hk : k ≤ l.length) (h : l.drop k = fixB n wd ++ r) : numK l k wd = .inl (n, k + wd) ∧ l.drop (k + wd) = r ∧ k + wd ≤ l.length := by
  have hl := fixB_inlen hw hn
  obtain ⟨h1, h2⟩ := drop_cat h hk
  rw [hl] at h1 h2
  refine ⟨?_, h1, h2⟩
  unfold numK
  rw [if_neg (by omega), h, List.take_left' hl, fixB_in hw hn, unB_leB, Nat.mod_eq_of_lt hn]
theorem insK_of {l r : List UInt8} {k : Nat} {x : In} (hm : mayI x = true) (h : l.drop k = bytesI x ++ r) : insK l k = .inl (x, k + (bytesI x).length) := by
  unfold insK
  rw [h, readI_bytes hm]
  rfl
theorem codeK_of {l : List UInt8} : ∀ (d : List In) (k : Nat) (c : List In) (r : List UInt8), (∀ x ∈ d, mayI x = true) → k ≤ l.length → l.drop k = d.flatMap bytesI ++ r → codeK l d.length k c = .inl (c ++ d, k + (d.flatMap bytesI).length)
  | [], k, c, r, _, _, _ => by simp [codeK]
  | x :: d, k, c, r, hm, hk, h => by
    rw [List.flatMap_cons, List.append_assoc] at h
    obtain ⟨h1, h2⟩ := drop_cat h hk
    rw [List.length_cons, codeK, insK_of (hm x (by simp)) h]
    simp only []
    rw [codeK_of d _ _ r (fun y hy => hm y (by simp [hy])) h2 h1]
    simp [Nat.add_assoc]
theorem funcK_of {l r : List UInt8} {k : Nat} {f : Fu} (h1 : 1 ≤ f.1 ∧ f.1 ≤ 16) (h2 : f.2.length ≤ 512) (hm : ∀ x ∈ f.2, mayI x = true) (hk : k ≤ l.length) (h : l.drop k = funcB f ++ r) : funcK l k = .inl (f, k + (funcB f).length) := by
  obtain ⟨x, c⟩ := f
  simp only at h1 h2 hm
  obtain ⟨m, rfl⟩ : ∃ m : Nat, x = m := ⟨x.toNat, by omega⟩
  unfold funcB at h ⊢
  simp only [Int.toNat_natCast, List.append_assoc] at h ⊢
  have hm1 : m < 256 ^ 1 := by omega
  have hm2 : c.length < 256 ^ 2 := by omega
  obtain ⟨a1, a2, a3⟩ := numK_of isW1 hm1 hk h
  obtain ⟨b1, b2, b3⟩ := numK_of isW2 hm2 a3 a2
  have c1 := codeK_of c _ [] r hm b3 b2
  unfold funcK
  rw [a1]
  simp only []
  rw [b1]
  simp only []
  rw [c1]
  have l1 : (fixB m 1).length = 1 := fixB_inlen isW1 hm1
  have l2 : (fixB c.length 2).length = 2 := fixB_inlen isW2 hm2
  simp only [List.nil_append, List.length_append, l1, l2, Nat.add_assoc]
theorem funcsK_of {l : List UInt8} : ∀ (d : List Fu) (k : Nat) (c : List Fu) (r : List UInt8), (∀ f ∈ d, (1 ≤ f.1 ∧ f.1 ≤ 16) ∧ (1 ≤ f.2.length ∧ f.2.length ≤ 512) ∧ ∀ x ∈ f.2, mayI x = true) → k ≤ l.length → l.drop k = d.flatMap funcB ++ r → funcsK l d.length k c = .inl (c ++ d, k + (d.flatMap funcB).length)
  | [], k, c, r, _, _, _ => by simp [funcsK]
  | x :: d, k, c, r, hm, hk, h => by
    rw [List.flatMap_cons, List.append_assoc] at h
    obtain ⟨h1, h2⟩ := drop_cat h hk
    obtain ⟨m1, m2, m3⟩ := hm x (by simp)
    rw [List.length_cons, funcsK, funcK_of m1 m2.2 m3 hk h]
    simp only []
    rw [funcsK_of d _ _ r (fun y hy => hm y (by simp [hy])) h2 h1]
    simp [Nat.add_assoc]
theorem begK_of {l : List UInt8} : ∀ (cs : List UInt8) (k : Nat) (r : List UInt8), k ≤ l.length → l.drop k = cs ++ r → begK l cs k = .inl (k + cs.length)
  | [], k, r, _, _ => by simp [begK]
  | c :: cs, k, r, hk, h => by
    have h' : l.drop k = [c] ++ (cs ++ r) := h
    obtain ⟨h1, h2⟩ := drop_cat h' hk
    simp only [List.length_cons, List.length_nil, Nat.zero_add] at h1 h2
    have hc : l.getD k 0 = c := by
      have : (l.drop k)[0]? = some c := by rw [h]; rfl
      rw [List.getElem?_drop, Nat.add_zero] at this
      rw [List.getD_eq_getElem?_getD, this]; rfl
    rw [begK, if_neg (by omega), if_pos hc, begK_of cs (k + 1) r h2 h1]
    simp; omega
theorem imgK_of {l r : List UInt8} {k : Nat} {p : Pg} (hp : checkP p = 0) (hk : k ≤ l.length) (h : l.drop k = imageB p ++ r) : imgK l k = .inl (p, k + (imageB p).length) := by
  have hF := fine_of hp
  obtain ⟨fs, x1, x2, x3⟩ := p
  obtain ⟨n0, n1, n2, n3, hfs⟩ := hF
  simp only at n0 n1 n2 n3 hfs
  obtain ⟨a, rfl⟩ : ∃ m : Nat, x1 = m := ⟨x1.toNat, by omega⟩
  obtain ⟨b, rfl⟩ : ∃ m : Nat, x2 = m := ⟨x2.toNat, by omega⟩
  obtain ⟨c, rfl⟩ : ∃ m : Nat, x3 = m := ⟨x3.toNat, by omega⟩
  have ha : a < 256 ^ 1 := by omega
  have hb : b < 256 ^ 1 := by omega
  have hc : c < 256 ^ 1 := by omega
  have hm : fs.length < 256 ^ 1 := by omega
  have hB : bareB (fs, (a : Int), (b : Int), (c : Int)) = lineB ++ (fixB a (1 : Nat) ++ (fixB b (1 : Nat) ++ (fixB c (1 : Nat) ++ (fixB fs.length (1 : Nat) ++ fs.flatMap funcB)))) := by
    unfold bareB headB tellB; simp
  have hlen : (bareB (fs, (a : Int), (b : Int), (c : Int))).length = 4 + (1 + (1 + (1 + (1 + (fs.flatMap funcB).length)))) := by
    rw [hB]; simp only [List.length_append, fixB_inlen isW1 ha, fixB_inlen isW1 hb, fixB_inlen isW1 hc, fixB_inlen isW1 hm]; rfl
  have hS := fixB_inlen isW8 (sumS_lt8 (bareB (fs, (a : Int), (b : Int), (c : Int))))
  have h' := h
  unfold imageB sealB at h'
  rw [List.append_assoc] at h'
  have htake : (l.drop k).take (bareB (fs, (a : Int), (b : Int), (c : Int))).length = bareB (fs, (a : Int), (b : Int), (c : Int)) := by rw [h', List.take_left]
  obtain ⟨z1, z2⟩ := drop_cat h' hk
  rw [hB] at h'
  simp only [List.append_assoc] at h'
  have e0 := begK_of lineB k _ hk h'
  obtain ⟨d0, f0⟩ := drop_cat h' hk
  obtain ⟨e1, d1, f1⟩ := numK_of isW1 ha f0 d0
  obtain ⟨e2, d2, f2⟩ := numK_of isW1 hb f1 d1
  obtain ⟨e3, d3, f3⟩ := numK_of isW1 hc f2 d2
  obtain ⟨e4, d4, f4⟩ := numK_of isW1 hm f3 d3
  have e5 := funcsK_of fs _ [] _ hfs f4 d4
  obtain ⟨d5, f5⟩ := drop_cat d4 f4
  obtain ⟨e6, d6, f6⟩ := numK_of isW8 (sumS_lt8 _) f5 d5
  have hk5 : k + lineB.length + 1 + 1 + 1 + 1 + (fs.flatMap funcB).length = k + (bareB (fs, (a : Int), (b : Int), (c : Int))).length := by rw [hlen]; simp [lineB]; omega
  have hpg : pgK l k = .inl ((fs, (a : Int), (b : Int), (c : Int)), k + lineB.length + 1 + 1 + 1 + 1 + (fs.flatMap funcB).length) := by
    unfold pgK
    rw [e0]; simp only []
    rw [e1]; simp only []
    rw [e2]; simp only []
    rw [e3]; simp only []
    rw [e4]; simp only []
    rw [e5]; rfl
  unfold imgK
  rw [hpg]
  simp only []
  rw [e6]
  simp only []
  rw [hk5, show k + (bareB (fs, (a : Int), (b : Int), (c : Int))).length - k = (bareB (fs, (a : Int), (b : Int), (c : Int))).length by omega, htake]
  rw [if_pos ⟨by rw [hB], hp⟩]
  unfold imageB sealB
  rw [List.length_append]
  have hS' : (fixB (sumS (bareB (fs, (a : Int), (b : Int), (c : Int)))) 8).length = 8 := hS
  rw [hS', Nat.add_assoc]
theorem decI_image {p : Pg} (hp : checkP p = 0) : decI (imageB p) = (p, 0) := by
  unfold decI
  rw [imgK_of (r := []) (k := 0) hp (Nat.zero_le _) (by simp)]
  simp
end Go.Proofs.YthhegcngkpfcoaaGreatDoor
