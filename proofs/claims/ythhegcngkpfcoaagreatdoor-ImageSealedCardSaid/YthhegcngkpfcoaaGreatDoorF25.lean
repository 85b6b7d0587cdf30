/- Merged: MQ, MD. -/
import Derived.Test.YthhegcngkpfcoaaGreatDoorF24
namespace Go.Proofs.YthhegcngkpfcoaaGreatDoor
open Go Go.RowKit

theorem sumS_lt (l : List UInt8) : sumS l < 18446744073709551616 := by unfold sumS all1; omega
theorem rdok (l : List UInt8) (h : (readI l).2.2 = 0) : mayI (readI l).1 = true ∧ OkIn (readI l).1 ∧ bytesI (readI l).1 = l.take (readI l).2.1 ∧ (readI l).2.1 ≤ l.length ∧ 0 < (readI l).2.1 := by
  obtain ⟨x, n, er, e, _, hi, h1, _⟩ := readI_cases l
  rw [e] at h ⊢
  obtain ⟨a, b, c, d, f⟩ := h1 h
  exact ⟨a, ⟨f, hi⟩, b, c, d⟩
structure Fine (p : Pg) : Prop where
  n0 : 1 ≤ p.1.length ∧ p.1.length ≤ 32
  n1 : 0 ≤ p.2.1 ∧ p.2.1 ≤ 64
  n2 : 0 ≤ p.2.2.1 ∧ p.2.2.1 ≤ 64
  n3 : 0 ≤ p.2.2.2 ∧ p.2.2.2 ≤ 64
  fs : ∀ f ∈ p.1, (1 ≤ f.1 ∧ f.1 ≤ 16) ∧ (1 ≤ f.2.length ∧ f.2.length ≤ 512) ∧ ∀ x ∈ f.2, mayI x = true
theorem fine_of {p : Pg} (h : checkP p = 0) : Fine p := by
  unfold checkP at h
  split at h
  · rename_i hc
    rw [Bool.and_eq_true] at hc
    obtain ⟨hn, hw⟩ := hc
    unfold wrongP at hw
    rw [if_pos hn, Option.isNone_iff_eq_none, List.find?_eq_none] at hw
    unfold numsP sharedB at hn
    simp only [Bool.and_eq_true, List.all_eq_true, inB, decide_eq_true_eq, List.mem_cons, List.not_mem_nil, or_false, forall_eq_or_imp, forall_eq] at hn
    obtain ⟨h0, ⟨h1, h2, h3⟩, h4⟩ := hn
    refine ⟨by omega, by omega, by omega, by omega, fun f hf => ?_⟩
    have h5 := h4 f hf
    unfold numsF at h5
    simp only [Bool.and_eq_true, inB, decide_eq_true_eq] at h5
    refine ⟨by omega, by omega, fun x hx => ?_⟩
    obtain ⟨i, hi, rfl⟩ := List.mem_iff_getElem.1 hf
    obtain ⟨k, hk, rfl⟩ := List.mem_iff_getElem.1 hx
    have hg : p.1.getD i zF = p.1[i] := by rw [List.getD_eq_getElem?_getD, List.getElem?_eq_getElem hi]; rfl
    have hm : (i, k) ∈ plL p.1 p.1.length := by
      unfold plL rowP
      rw [List.mem_flatMap]
      refine ⟨i, List.mem_range.2 hi, ?_⟩
      rw [List.mem_map]
      exact ⟨k, List.mem_range.2 (by rw [hg]; exact hk), rfl⟩
    have hb := hw _ hm
    unfold badX fineB at hb
    simp only [hg] at hb
    have hgk : (p.1[i]).2.getD k zI = (p.1[i]).2[k] := by rw [List.getD_eq_getElem?_getD, List.getElem?_eq_getElem hk]; rfl
    rw [hgk] at hb
    simp only [Bool.not_eq_true, Bool.not_eq_false', Bool.and_eq_true] at hb
    exact hb.1
  · cases h

/-- The bytes from one place to another. -/
def seg (l : List UInt8) (i j : Nat) : List UInt8 := (l.drop i).take (j - i)
theorem seg_cat (l : List UInt8) {i j k : Nat} (h1 : i ≤ j) (h2 : j ≤ k) : seg l i j ++ seg l j k = seg l i k := by
  unfold seg
  have : (l.drop i).drop (j - i) = l.drop j := by rw [List.drop_drop]; congr 1; omega
  rw [← this, show k - i = (j - i) + (k - j) by omega, List.take_add]
theorem seg_nil (l : List UInt8) (i : Nat) : seg l i i = [] := by simp [seg]
theorem isW1 : isW ((1 : Nat) : Int) = true := rfl
theorem isW2 : isW ((2 : Nat) : Int) = true := rfl
theorem isW8 : isW ((8 : Nat) : Int) = true := rfl
theorem fixB_in {n wd : Nat} (hw : isW (wd : Int) = true) (h : n < 256 ^ wd) : fixB n wd = leB wd n := by
  unfold fixB fixE
  rw [if_pos hw, if_pos (show n < 256 ^ ((wd : Int)).toNat from h)]
  exact if_pos rfl
theorem fixB_unB (s : List UInt8) (wd : Nat) (hw : isW (wd : Int) = true) (h : s.length = wd) : fixB (unB s) wd = s := by
  subst h
  rw [fixB_in hw (unB_lt s), leB_unB8]
theorem fixB_inj {n m wd : Nat} (hw : isW (wd : Int) = true) (hn : n < 256 ^ wd) (hm : m < 256 ^ wd) (h : fixB n wd = fixB m wd) : n = m := by
  rw [fixB_in hw hn, fixB_in hw hm] at h
  have := congrArg unB h
  rwa [unB_leB, unB_leB, Nat.mod_eq_of_lt hn, Nat.mod_eq_of_lt hm] at this
theorem sumS_lt8 (l : List UInt8) : sumS l < 256 ^ 8 := by have := sumS_lt l; omega

theorem numK_in {l : List UInt8} {k wd n k' : Nat} (hw : isW (wd : Int) = true) (h : numK l k wd = .inl (n, k')) : k' = k + wd ∧ k' ≤ l.length ∧ n < 256 ^ wd ∧ fixB n wd = seg l k k' := by
  unfold numK at h
  split at h
  · cases h
  · rename_i hl
    simp only [Sum.inl.injEq, Prod.mk.injEq] at h
    obtain ⟨rfl, rfl⟩ := h
    have hlen : ((l.drop k).take wd).length = wd := by rw [List.length_take, List.length_drop]; omega
    refine ⟨rfl, by omega, ?_, ?_⟩
    · have := unB_lt ((l.drop k).take wd); rwa [hlen] at this
    · rw [fixB_unB _ wd hw hlen]; unfold seg; rw [show k + wd - k = wd by omega]
theorem insK_in {l : List UInt8} {k k' : Nat} {x : In} (hk : k ≤ l.length) (h : insK l k = .inl (x, k')) : mayI x = true ∧ OkIn x ∧ k < k' ∧ k' ≤ l.length ∧ bytesI x = seg l k k' := by
  unfold insK at h
  split at h
  · rename_i h0
    simp only [Sum.inl.injEq, Prod.mk.injEq] at h
    obtain ⟨rfl, rfl⟩ := h
    obtain ⟨h1, h2, h3, h4, h5⟩ := rdok _ h0
    rw [List.length_drop] at h4
    refine ⟨h1, h2, by omega, by omega, ?_⟩
    rw [h3]; unfold seg; congr 1; omega
  · split at h <;> cases h
theorem codeK_in {l : List UInt8} : ∀ (m k : Nat) (c : List In) {c' : List In} {k' : Nat}, k ≤ l.length → codeK l m k c = .inl (c', k') → ∃ d, c' = c ++ d ∧ d.length = m ∧ k ≤ k' ∧ k' ≤ l.length ∧ d.flatMap bytesI = seg l k k' ∧ ∀ x ∈ d, mayI x = true ∧ OkIn x
  | 0, k, c, c', k', hk, h => by
    simp only [codeK, Sum.inl.injEq, Prod.mk.injEq] at h
    obtain ⟨rfl, rfl⟩ := h
    exact ⟨[], by simp, rfl, Nat.le_refl _, hk, by simp [seg_nil], by simp⟩
  | m + 1, k, c, c', k', hk, h => by
    rw [codeK] at h
    split at h
    · cases h
    · rename_i x k1 hx
      obtain ⟨h1, h2, h3, h4, h5⟩ := insK_in hk hx
      obtain ⟨d, rfl, hd, a1, a2, a3, a4⟩ := codeK_in m k1 _ h4 h
      refine ⟨x :: d, by simp, by simp [hd], by omega, a2, ?_, ?_⟩
      · rw [List.flatMap_cons, h5, a3, seg_cat l (by omega) a1]
      · intro y hy
        rcases List.mem_cons.1 hy with rfl | hy
        · exact ⟨h1, h2⟩
        · exact a4 y hy
theorem funcK_in {l : List UInt8} {k k' : Nat} {f : Fu} (_hk : k ≤ l.length) (h : funcK l k = .inl (f, k')) : k ≤ k' ∧ k' ≤ l.length ∧ funcB f = seg l k k' ∧ ∀ x ∈ f.2, mayI x = true ∧ OkIn x := by
  unfold funcK at h
  split at h
  · cases h
  · rename_i r k1 hr
    obtain ⟨rfl, a2, a3, a4⟩ := numK_in isW1 hr
    split at h
    · cases h
    · rename_i m k2 hm
      obtain ⟨rfl, b2, b3, b4⟩ := numK_in isW2 hm
      split at h
      · cases h
      · rename_i c k3 hc
        obtain ⟨d, rfl, hd, c1, c2, c3, c4⟩ := codeK_in _ _ _ b2 hc
        simp only [Sum.inl.injEq, Prod.mk.injEq] at h
        obtain ⟨rfl, rfl⟩ := h
        refine ⟨by omega, c2, ?_, by simpa using c4⟩
        unfold funcB
        simp only [Int.toNat_natCast, hd, c3]
        have e1 : fixB r 1 = seg l k (k + 1) := a4
        have e2 : fixB m 2 = seg l (k + 1) (k + 1 + 2) := b4
        rw [e1, e2, seg_cat l (by omega) c1, seg_cat l (by omega) (by omega)]
theorem funcsK_in {l : List UInt8} : ∀ (m k : Nat) (c : List Fu) {c' : List Fu} {k' : Nat}, k ≤ l.length → funcsK l m k c = .inl (c', k') → ∃ d, c' = c ++ d ∧ d.length = m ∧ k ≤ k' ∧ k' ≤ l.length ∧ d.flatMap funcB = seg l k k' ∧ ∀ f ∈ d, ∀ x ∈ f.2, mayI x = true ∧ OkIn x
  | 0, k, c, c', k', hk, h => by
    simp only [funcsK, Sum.inl.injEq, Prod.mk.injEq] at h
    obtain ⟨rfl, rfl⟩ := h
    exact ⟨[], by simp, rfl, Nat.le_refl _, hk, by simp [seg_nil], by simp⟩
  | m + 1, k, c, c', k', hk, h => by
    rw [funcsK] at h
    split at h
    · cases h
    · rename_i x k1 hx
      obtain ⟨h3, h4, h5, h6⟩ := funcK_in hk hx
      obtain ⟨d, rfl, hd, a1, a2, a3, a4⟩ := funcsK_in m k1 _ h4 h
      refine ⟨x :: d, by simp, by simp [hd], by omega, a2, ?_, ?_⟩
      · rw [List.flatMap_cons, h5, a3, seg_cat l (by omega) a1]
      · intro y hy
        rcases List.mem_cons.1 hy with rfl | hy
        · exact h6
        · exact a4 y hy
theorem begK_in {l : List UInt8} : ∀ (cs : List UInt8) (k : Nat) {k' : Nat}, k ≤ l.length → begK l cs k = .inl k' → k' = k + cs.length ∧ k' ≤ l.length ∧ cs = seg l k k'
  | [], k, k', hk, h => by
    simp only [begK, Sum.inl.injEq] at h
    subst h
    exact ⟨rfl, hk, (seg_nil l k).symm⟩
  | c :: cs, k, k', hk, h => by
    rw [begK] at h
    split at h
    · cases h
    · rename_i hl
      split at h
      · rename_i hc
        obtain ⟨rfl, h2, h3⟩ := begK_in cs (k + 1) (by omega) h
        refine ⟨by simp; omega, h2, ?_⟩
        rw [← seg_cat l (show k ≤ k + 1 by omega) (by omega), ← h3]
        have : seg l k (k + 1) = [c] := by
          unfold seg
          rw [← hc, List.drop_eq_getElem_cons (by omega : k < l.length), show k + 1 - k = 1 by omega]
          rw [List.take_succ_cons, List.take_zero, List.getD_eq_getElem?_getD, List.getElem?_eq_getElem (by omega : k < l.length)]; rfl
        rw [this]; rfl
      · cases h
theorem pgK_in {l : List UInt8} {k k' : Nat} {p : Pg} (hk : k ≤ l.length) (h : pgK l k = .inl (p, k')) : k ≤ k' ∧ k' ≤ l.length ∧ bareB p = seg l k k' ∧ ∀ f ∈ p.1, ∀ x ∈ f.2, mayI x = true ∧ OkIn x := by
  unfold pgK at h
  split at h
  · cases h
  · rename_i k0 h0
    obtain ⟨e0, a0, s0⟩ := begK_in _ _ hk h0
    split at h
    · cases h
    · rename_i a k1 h1
      obtain ⟨e1, a1, b1, s1⟩ := numK_in isW1 h1
      split at h
      · cases h
      · rename_i b k2 h2
        obtain ⟨e2, a2, b2, s2⟩ := numK_in isW1 h2
        split at h
        · cases h
        · rename_i c k3 h3
          obtain ⟨e3, a3, b3, s3⟩ := numK_in isW1 h3
          split at h
          · cases h
          · rename_i m k4 h4
            obtain ⟨e4, a4, b4, s4⟩ := numK_in isW1 h4
            split at h
            · cases h
            · rename_i fs k5 h5
              obtain ⟨d, ed, hd, c1, c2, c3, c4⟩ := funcsK_in _ _ _ a4 h5
              rw [List.nil_append] at ed
              subst ed
              simp only [Sum.inl.injEq, Prod.mk.injEq] at h
              obtain ⟨hp, rfl⟩ := h
              subst hp
              simp only [lineB, List.length_cons, List.length_nil] at e0
              refine ⟨by omega, c2, ?_, c4⟩
              unfold bareB headB tellB
              simp only [Int.toNat_natCast, List.flatMap_cons, List.flatMap_nil, List.append_nil, List.append_assoc, hd, c3]
              rw [s1, s2, s3, s4]
              have s0' : lineB = seg l k k0 := s0
              rw [s0', seg_cat l (by omega) (by omega), seg_cat l (by omega) (by omega), seg_cat l (by omega) (by omega), seg_cat l (by omega) (by omega), seg_cat l (by omega) (by omega)]
theorem imgK_in {l : List UInt8} {k k' : Nat} {p : Pg} (hk : k ≤ l.length) (h : imgK l k = .inl (p, k')) : k ≤ k' ∧ k' ≤ l.length ∧ checkP p = 0 ∧ imageB p = seg l k k' ∧ ∀ f ∈ p.1, ∀ x ∈ f.2, mayI x = true ∧ OkIn x := by
  unfold imgK at h
  split at h
  · cases h
  · rename_i q k5 h5
    obtain ⟨c1, c2, c3, c4⟩ := pgK_in hk h5
    split at h
    · cases h
    · rename_i s k6 h6
      obtain ⟨e6, a6, b6, s6⟩ := numK_in isW8 h6
      split at h
      · rename_i hc
        simp only [Sum.inl.injEq, Prod.mk.injEq] at h
        obtain ⟨rfl, rfl⟩ := h
        refine ⟨by omega, a6, hc.2, ?_, c4⟩
        unfold imageB sealB
        rw [c3]
        have h1 : fixB (sumS (seg l k k5)) 8 = seg l k5 k6 := by
          have : s = sumS (seg l k k5) := hc.1
          rw [← this]; exact s6
        rw [h1, seg_cat l c1 (by omega)]
      · cases h

/-- What it is refused with. -/
theorem numK_err {l : List UInt8} {k wd : Nat} {e : Int} (h : numK l k wd = .inr e) : e = 110 := by
  unfold numK at h
  split at h
  · cases h; rfl
  · cases h
theorem insK_err {l : List UInt8} {k : Nat} {e : Int} (h : insK l k = .inr e) : e = 110 ∨ e = 200 := by
  unfold insK at h
  split at h
  · cases h
  · split at h <;> cases h <;> simp
theorem codeK_err {l : List UInt8} : ∀ (m k : Nat) (c : List In) {e : Int}, codeK l m k c = .inr e → e = 110 ∨ e = 200
  | 0, _, _, _, h => by cases h
  | m + 1, k, c, e, h => by
    rw [codeK] at h
    split at h
    · rename_i hx; cases h; exact insK_err hx
    · exact codeK_err m _ _ h
theorem funcK_err {l : List UInt8} {k : Nat} {e : Int} (h : funcK l k = .inr e) : e = 110 ∨ e = 200 := by
  unfold funcK at h
  split at h
  · rename_i hx; cases h; exact .inl (numK_err hx)
  · split at h
    · rename_i hx; cases h; exact .inl (numK_err hx)
    · split at h
      · rename_i hx; cases h; exact codeK_err _ _ _ hx
      · cases h
theorem funcsK_err {l : List UInt8} : ∀ (m k : Nat) (c : List Fu) {e : Int}, funcsK l m k c = .inr e → e = 110 ∨ e = 200
  | 0, _, _, _, h => by cases h
  | m + 1, k, c, e, h => by
    rw [funcsK] at h
    split at h
    · rename_i hx; cases h; exact funcK_err hx
    · exact funcsK_err m _ _ h
theorem begK_err {l : List UInt8} : ∀ (cs : List UInt8) (k : Nat) {e : Int}, begK l cs k = .inr e → e = 110 ∨ e = 200
  | [], _, _, h => by cases h
  | c :: cs, k, e, h => by
    rw [begK] at h
    split at h
    · cases h; simp
    · split at h
      · exact begK_err cs _ h
      · cases h; simp
theorem pgK_err {l : List UInt8} {k : Nat} {e : Int} (h : pgK l k = .inr e) : e = 110 ∨ e = 200 := by
  unfold pgK at h
  split at h
  · rename_i hx; cases h; exact begK_err _ _ hx
  · split at h
    · rename_i hx; cases h; exact .inl (numK_err hx)
    · split at h
      · rename_i hx; cases h; exact .inl (numK_err hx)
      · split at h
        · rename_i hx; cases h; exact .inl (numK_err hx)
        · split at h
          · rename_i hx; cases h; exact .inl (numK_err hx)
          · split at h
            · rename_i hx; cases h; exact funcsK_err _ _ _ hx
            · cases h
theorem imgK_err {l : List UInt8} {k : Nat} {e : Int} (h : imgK l k = .inr e) : e = 110 ∨ e = 200 := by
  unfold imgK at h
  split at h
  · rename_i hx; cases h; exact pgK_err hx
  · split at h
    · rename_i hx; cases h; exact .inl (numK_err hx)
    · split at h
      · cases h
      · cases h; simp
theorem decI_in {l : List UInt8} (h : (decI l).2 = 0) : checkP (decI l).1 = 0 ∧ imageB (decI l).1 = l ∧ ∀ f ∈ (decI l).1.1, ∀ x ∈ f.2, mayI x = true ∧ OkIn x := by
  unfold decI at h ⊢
  split
  · rename_i e hx; rw [hx] at h; have h : e = 0 := h; rcases imgK_err hx with rfl | rfl <;> cases h
  · rename_i p k hx
    rw [hx] at h
    obtain ⟨h1, h2, h3, h4, h5⟩ := imgK_in (Nat.zero_le _) hx
    simp only at h
    by_cases hk : k < l.length
    · rw [if_pos hk] at h; cases h
    · rw [if_neg hk]
      refine ⟨h3, ?_, h5⟩
      rw [h4]; unfold seg; rw [List.drop_zero, List.take_of_length_le (by omega)]
end Go.Proofs.YthhegcngkpfcoaaGreatDoor
namespace Go.Proofs.YthhegcngkpfcoaaGreatDoor
open Go Go.RowKit

/-- Where the document's reader stands, and why it reads no more. -/
abbrev St := Nat × Int
def numQ (l : List UInt8) (s : St) (wd : Nat) : St × Nat := if s.2 = 0 then (if l.length < s.1 + wd then ((s.1, 110), 0) else ((s.1 + wd, 0), unB ((l.drop s.1).take wd))) else (s, 0)
def insQ (l : List UInt8) (s : St) : St × In :=
  if s.2 = 0 then ((s.1 + (readI (l.drop s.1)).2.1, if (readI (l.drop s.1)).2.2 = 110 then 110 else if (readI (l.drop s.1)).2.2 = 0 then 0 else 200), (readI (l.drop s.1)).1) else (s, zI)
def codeQ (l : List UInt8) : Nat → St → List In → St × List In
  | 0, s, c => (s, c)
  | m + 1, s, c => if s.2 = 0 then codeQ l m (insQ l s).1 (c ++ [(insQ l s).2]) else (s, c)
def funcQ (l : List UInt8) (s : St) : St × Fu :=
  ((codeQ l (numQ l (numQ l s 1).1 2).2 (numQ l (numQ l s 1).1 2).1 []).1, (((numQ l s 1).2 : Int), (codeQ l (numQ l (numQ l s 1).1 2).2 (numQ l (numQ l s 1).1 2).1 []).2))
def funcsQ (l : List UInt8) : Nat → St → List Fu → St × List Fu
  | 0, s, c => (s, c)
  | m + 1, s, c => if s.2 = 0 then funcsQ l m (funcQ l s).1 (c ++ [(funcQ l s).2]) else (s, c)
def begS (l : List UInt8) (s : St) (c : UInt8) : St := if (numQ l s 1).1.2 = 0 ∧ (numQ l s 1).2 ≠ c.toNat then ((numQ l s 1).1.1, 200) else (numQ l s 1).1
def begQ (l : List UInt8) : List UInt8 → St → St
  | [], s => s
  | c :: cs, s => begQ l cs (begS l s c)
def endQ (l : List UInt8) (s : St) : Int := if s.2 = 0 ∧ l.length < s.1 + 8 then 110 else s.2
def finQ (l : List UInt8) (s : St) (p : Pg) : St × Pg :=
  if endQ l s = 0 then (if sealB (l.take s.1) = l.take (s.1 + 8) ∧ checkP p = 0 then ((s.1 + 8, 0), p) else ((s.1 + 8, 200), emP)) else ((s.1, endQ l s), emP)
def pgQ (l : List UInt8) (s0 : St) : St × Pg :=
  let s1 := numQ l s0 1
  let s2 := numQ l s1.1 1
  let s3 := numQ l s2.1 1
  let s4 := numQ l s3.1 1
  let s5 := funcsQ l s4.2 s4.1 []
  finQ l s5.1 (s5.2, (s1.2 : Int), (s2.2 : Int), (s3.2 : Int))
def progQ (l : List UInt8) : St × Pg := pgQ l (begQ l lineB (0, 0))

theorem numQ_bad {l : List UInt8} {k wd : Nat} {e : Int} (h : e ≠ 0) : numQ l (k, e) wd = ((k, e), 0) := by unfold numQ; rw [if_neg h]
theorem numQ_ok {l : List UInt8} {k wd n k' : Nat} (h : numK l k wd = .inl (n, k')) : numQ l (k, 0) wd = ((k', 0), n) := by
  unfold numK at h; unfold numQ
  rw [if_pos rfl]
  split at h
  · cases h
  · rename_i hl
    rw [if_neg hl]
    simp only [Sum.inl.injEq, Prod.mk.injEq] at h
    obtain ⟨rfl, rfl⟩ := h
    rfl
theorem numQ_no {l : List UInt8} {k wd : Nat} {e : Int} (h : numK l k wd = .inr e) : numQ l (k, 0) wd = ((k, e), 0) := by
  have he := numK_err h
  unfold numK at h; unfold numQ
  rw [if_pos rfl]
  split at h
  · rename_i hl
    rw [if_pos hl, he]
  · cases h
theorem insQ_ok {l : List UInt8} {k k' : Nat} {x : In} (h : insK l k = .inl (x, k')) : insQ l (k, 0) = ((k', 0), x) := by
  unfold insK at h; unfold insQ
  rw [if_pos rfl]
  split at h
  · rename_i h0
    simp only [Sum.inl.injEq, Prod.mk.injEq] at h
    obtain ⟨rfl, rfl⟩ := h
    simp [h0]
  · split at h <;> cases h
theorem insQ_no {l : List UInt8} {k : Nat} {e : Int} (h : insK l k = .inr e) : ∃ k' x, insQ l (k, 0) = ((k', e), x) := by
  unfold insK at h; unfold insQ
  rw [if_pos rfl]
  split at h
  · cases h
  · rename_i h0
    split at h
    · rename_i h1; cases h; exact ⟨_, _, by rw [h1]; rfl⟩
    · rename_i h1; cases h; exact ⟨_, _, by simp only [if_neg h1, if_neg h0]; rfl⟩
theorem codeQ_bad {l : List UInt8} (m k : Nat) (c : List In) {e : Int} (h : e ≠ 0) : codeQ l m (k, e) c = ((k, e), c) := by
  cases m
  · rfl
  · rw [codeQ, if_neg h]
theorem ne_of_err {e : Int} (h : e = 110 ∨ e = 200) : e ≠ 0 := by omega
theorem codeQ_is {l : List UInt8} : ∀ (m k : Nat) (c : List In), (∀ c' k', codeK l m k c = .inl (c', k') → codeQ l m (k, 0) c = ((k', 0), c')) ∧ (∀ e, codeK l m k c = .inr e → ∃ k' c', codeQ l m (k, 0) c = ((k', e), c'))
  | 0, k, c => ⟨fun c' k' h => by simp only [codeK, Sum.inl.injEq, Prod.mk.injEq] at h; obtain ⟨rfl, rfl⟩ := h; rfl, fun e h => by cases h⟩
  | m + 1, k, c => by
    rw [codeK, codeQ, if_pos rfl]
    rcases hx : insK l k with ⟨x, k1⟩ | e
    · rw [insQ_ok hx]
      exact codeQ_is m k1 _
    · obtain ⟨k1, x, h1⟩ := insQ_no hx
      rw [h1, codeQ_bad m _ _ (ne_of_err (insK_err hx))]
      exact ⟨fun _ _ h => (by cases h), fun e' h => (by cases h; exact ⟨_, _, rfl⟩)⟩
theorem funcQ_ok {l : List UInt8} {k k' : Nat} {f : Fu} (h : funcK l k = .inl (f, k')) : funcQ l (k, 0) = ((k', 0), f) := by
  unfold funcK at h
  split at h
  · cases h
  · rename_i r k1 hr
    split at h
    · cases h
    · rename_i m k2 hm
      split at h
      · cases h
      · rename_i c k3 hc
        simp only [Sum.inl.injEq, Prod.mk.injEq] at h
        obtain ⟨rfl, rfl⟩ := h
        unfold funcQ
        simp only [numQ_ok hr, numQ_ok hm, (codeQ_is _ _ _).1 _ _ hc]
theorem funcQ_no {l : List UInt8} {k : Nat} {e : Int} (h : funcK l k = .inr e) : ∃ k' f, funcQ l (k, 0) = ((k', e), f) := by
  have he := ne_of_err (funcK_err h)
  unfold funcK at h
  split at h
  · rename_i hr
    cases h
    unfold funcQ
    simp only [numQ_no hr, numQ_bad he, codeQ_bad _ _ _ he]
    exact ⟨_, _, rfl⟩
  · rename_i r k1 hr
    split at h
    · rename_i hm
      cases h
      unfold funcQ
      simp only [numQ_ok hr, numQ_no hm, codeQ_bad _ _ _ he]
      exact ⟨_, _, rfl⟩
    · rename_i m k2 hm
      split at h
      · rename_i hc
        cases h
        obtain ⟨k3, c3, h3⟩ := (codeQ_is _ _ _).2 _ hc
        unfold funcQ
        simp only [numQ_ok hr, numQ_ok hm, h3]
        exact ⟨_, _, rfl⟩
      · cases h
theorem funcsQ_bad {l : List UInt8} (m k : Nat) (c : List Fu) {e : Int} (h : e ≠ 0) : funcsQ l m (k, e) c = ((k, e), c) := by
  cases m
  · rfl
  · rw [funcsQ, if_neg h]
theorem funcsQ_is {l : List UInt8} : ∀ (m k : Nat) (c : List Fu), (∀ c' k', funcsK l m k c = .inl (c', k') → funcsQ l m (k, 0) c = ((k', 0), c')) ∧ (∀ e, funcsK l m k c = .inr e → ∃ k' c', funcsQ l m (k, 0) c = ((k', e), c'))
  | 0, k, c => ⟨fun c' k' h => by simp only [funcsK, Sum.inl.injEq, Prod.mk.injEq] at h; obtain ⟨rfl, rfl⟩ := h; rfl, fun e h => by cases h⟩
  | m + 1, k, c => by
    rw [funcsK, funcsQ, if_pos rfl]
    rcases hx : funcK l k with ⟨x, k1⟩ | e
    · rw [funcQ_ok hx]
      exact funcsQ_is m k1 _
    · obtain ⟨k1, x, h1⟩ := funcQ_no hx
      rw [h1, funcsQ_bad m _ _ (ne_of_err (funcK_err hx))]
      exact ⟨fun _ _ h => (by cases h), fun e' h => (by cases h; exact ⟨_, _, rfl⟩)⟩
theorem begQ_bad {l : List UInt8} : ∀ (cs : List UInt8) (k : Nat) {e : Int}, e ≠ 0 → begQ l cs (k, e) = (k, e)
  | [], _, _, _ => rfl
  | c :: cs, k, e, h => by
    rw [begQ]
    have : begS l (k, e) c = (k, e) := by unfold begS; rw [numQ_bad h, if_neg (fun hh => h hh.1)]
    rw [this]
    exact begQ_bad cs k h
theorem begS_is {l : List UInt8} {k : Nat} (c : UInt8) : begS l (k, 0) c = if l.length < k + 1 then (k, 110) else if l.getD k 0 = c then (k + 1, 0) else (k + 1, 200) := by
  unfold begS numQ
  rw [if_pos rfl]
  by_cases h : l.length < k + 1
  · rw [if_pos h, if_pos h, if_neg (fun hh => (by have := hh.1; simp at this))]
  · rw [if_neg h, if_neg h]
    have hu : unB ((l.drop k).take 1) = (l.getD k 0).toNat := by
      rw [List.drop_eq_getElem_cons (by omega : k < l.length), List.take_succ_cons, List.take_zero, List.getD_eq_getElem?_getD, List.getElem?_eq_getElem (by omega : k < l.length)]
      simp [unB]
    simp only [hu]
    by_cases hc : l.getD k 0 = c
    · rw [if_pos hc, if_neg (fun hh => hh.2 (by rw [hc]))]
    · rw [if_neg hc, if_pos ⟨trivial, fun hh => hc (UInt8.toNat.inj hh)⟩]
theorem begQ_is {l : List UInt8} : ∀ (cs : List UInt8) (k : Nat), (∀ k', begK l cs k = .inl k' → begQ l cs (k, 0) = (k', 0)) ∧ (∀ e, begK l cs k = .inr e → ∃ k', begQ l cs (k, 0) = (k', e))
  | [], k => ⟨fun k' h => by simp only [begK, Sum.inl.injEq] at h; subst h; rfl, fun e h => by cases h⟩
  | c :: cs, k => by
    rw [begK, begQ, begS_is]
    by_cases h : l.length < k + 1
    · rw [if_pos h, if_pos h, begQ_bad _ _ (by decide)]
      exact ⟨fun _ h => (by cases h), fun e' h => (by cases h; exact ⟨_, rfl⟩)⟩
    · rw [if_neg h, if_neg h]
      by_cases hc : l.getD k 0 = c
      · rw [if_pos hc, if_pos hc]
        exact begQ_is cs (k + 1)
      · rw [if_neg hc, if_neg hc, begQ_bad _ _ (by decide)]
        exact ⟨fun _ h => (by cases h), fun e' h => (by cases h; exact ⟨_, rfl⟩)⟩
theorem finQ_bad {l : List UInt8} {k : Nat} {e : Int} (h : e ≠ 0) (p : Pg) : finQ l (k, e) p = ((k, e), emP) := by
  have : endQ l (k, e) = e := by unfold endQ; rw [if_neg (fun hh => h hh.1)]
  unfold finQ; rw [this, if_neg h]
theorem pgQ_bad {l : List UInt8} {k : Nat} {e : Int} (h : e ≠ 0) : pgQ l (k, e) = ((k, e), emP) := by
  unfold pgQ
  simp only [numQ_bad h, funcsQ_bad _ _ _ h, finQ_bad h]
theorem seal_iff {l : List UInt8} {k s k' : Nat} (h : numK l k 8 = .inl (s, k')) : sealB (l.take k) = l.take (k + 8) ↔ s = sumS (l.take k) := by
  obtain ⟨rfl, a2, a3, a4⟩ := numK_in isW8 h
  have e1 : l.take (k + 8) = l.take k ++ seg l k (k + 8) := by
    have := seg_cat l (Nat.zero_le k) (show k ≤ k + 8 by omega)
    unfold seg at this ⊢
    simpa using this.symm
  unfold sealB
  rw [e1, List.append_cancel_left_eq, ← a4]
  constructor
  · intro hh
    exact (fixB_inj isW8 (sumS_lt8 _) a3 hh).symm
  · rintro rfl; rfl
theorem finQ_is {l : List UInt8} {k : Nat} (p : Pg) :
    (∀ s k6, numK l k 8 = .inl (s, k6) → finQ l (k, 0) p = if s = sumS (l.take k) ∧ checkP p = 0 then ((k6, 0), p) else ((k6, 200), emP)) ∧ (∀ e, numK l k 8 = .inr e → finQ l (k, 0) p = ((k, e), emP)) := by
  constructor
  · intro s k6 h
    have hs := seal_iff h
    obtain ⟨rfl, a2, _, _⟩ := numK_in isW8 h
    have : endQ l (k, 0) = 0 := by unfold endQ; rw [if_neg (fun hh => by omega)]
    unfold finQ
    rw [this, if_pos rfl]
    simp only [hs]
  · intro e h
    have he := numK_err h
    have : endQ l (k, 0) = 110 := by
      unfold numK at h; unfold endQ
      split at h
      · rename_i hl; rw [if_pos ⟨rfl, hl⟩]
      · cases h
    unfold finQ
    rw [this, if_neg (by decide), he]
/-- The document's reader reads the same. -/
theorem progQ_is (l : List UInt8) : (∀ p k, imgK l 0 = .inl (p, k) → progQ l = ((k, 0), p)) ∧ (∀ e, imgK l 0 = .inr e → ∃ k, progQ l = ((k, e), emP)) := by
  unfold imgK pgK progQ
  rcases h0 : begK l lineB 0 with k0 | e
  · rw [(begQ_is _ _).1 _ h0]
    simp only [pgQ]
    rcases h1 : numK l k0 1 with ⟨a, k1⟩ | e
    · simp only [numQ_ok h1]
      rcases h2 : numK l k1 1 with ⟨b, k2⟩ | e
      · simp only [numQ_ok h2]
        rcases h3 : numK l k2 1 with ⟨c, k3⟩ | e
        · simp only [numQ_ok h3]
          rcases h4 : numK l k3 1 with ⟨m, k4⟩ | e
          · simp only [numQ_ok h4]
            rcases h5 : funcsK l m k4 [] with ⟨fs, k5⟩ | e
            · simp only [(funcsQ_is _ _ _).1 _ _ h5]
              rcases h6 : numK l k5 8 with ⟨s, k6⟩ | e
              · rw [(finQ_is _).1 _ _ h6]
                simp only [List.drop_zero, Nat.sub_zero]
                by_cases hc : s = sumS (l.take k5) ∧ checkP (fs, (a : Int), (b : Int), (c : Int)) = 0
                · rw [if_pos hc]
                  rw [if_pos hc]
                  exact ⟨fun p k h => (by simp only [Sum.inl.injEq, Prod.mk.injEq] at h; obtain ⟨hp, rfl⟩ := h; subst hp; rfl), fun e h => (by cases h)⟩
                · rw [if_neg hc]
                  rw [if_neg hc]
                  exact ⟨fun p k h => (by cases h), fun e h => (by cases h; exact ⟨_, rfl⟩)⟩
              · rw [(finQ_is _).2 _ h6]
                exact ⟨fun p k h => (by cases h), fun e h => (by cases h; exact ⟨_, rfl⟩)⟩
            · obtain ⟨k', c', h'⟩ := (funcsQ_is _ _ _).2 _ h5
              simp only [h', finQ_bad (ne_of_err (funcsK_err _ _ _ h5))]
              exact ⟨fun p k h => (by cases h), fun e h => (by cases h; exact ⟨_, rfl⟩)⟩
          · simp only [numQ_no h4, funcsQ_bad _ _ _ (ne_of_err (.inl (numK_err h4))), finQ_bad (ne_of_err (.inl (numK_err h4)))]
            exact ⟨fun p k h => (by cases h), fun e h => (by cases h; exact ⟨_, rfl⟩)⟩
        · have he := ne_of_err (.inl (numK_err h3))
          simp only [numQ_no h3, numQ_bad he, funcsQ_bad _ _ _ he, finQ_bad he]
          exact ⟨fun p k h => (by cases h), fun e h => (by cases h; exact ⟨_, rfl⟩)⟩
      · have he := ne_of_err (.inl (numK_err h2))
        simp only [numQ_no h2, numQ_bad he, funcsQ_bad _ _ _ he, finQ_bad he]
        exact ⟨fun p k h => (by cases h), fun e h => (by cases h; exact ⟨_, rfl⟩)⟩
    · have he := ne_of_err (.inl (numK_err h1))
      simp only [numQ_no h1, numQ_bad he, funcsQ_bad _ _ _ he, finQ_bad he]
      exact ⟨fun p k h => (by cases h), fun e h => (by cases h; exact ⟨_, rfl⟩)⟩
  · obtain ⟨k', h'⟩ := (begQ_is _ _).2 _ h0
    rw [h', pgQ_bad (ne_of_err (begK_err _ _ h0))]
    exact ⟨fun p k h => (by cases h), fun e h => (by cases h; exact ⟨_, rfl⟩)⟩
end Go.Proofs.YthhegcngkpfcoaaGreatDoor
