/- Plain functions on lists of clocks that say what package vector answers; nothing of the program. -/
namespace Go.Proofs.YtcimppggemdidaaDoor

/-- How many clocks are left without the noughts at the end; the list without them. -/
def tN : List UInt64 → Nat
  | [] => 0
  | x :: r => if tN r = 0 then (if x = 0 then 0 else 1) else tN r + 1
def vTrim (l : List UInt64) : List UInt64 := l.take (tN l)
def gD (l : List UInt64) (i : Nat) : UInt64 := l.getD i 0

theorem gD_nil (i : Nat) : gD [] i = 0 := by simp [gD]
theorem gD_zero (x : UInt64) (r : List UInt64) : gD (x :: r) 0 = x := by simp [gD]
theorem gD_succ (x : UInt64) (r : List UInt64) (i : Nat) : gD (x :: r) (i + 1) = gD r i := by simp [gD]
theorem gD_ge {l : List UInt64} {i : Nat} (h : l.length ≤ i) : gD l i = 0 := by simp [gD, List.getD_eq_getElem?_getD, List.getElem?_eq_none h]
theorem tN_le : ∀ l, tN l ≤ l.length
  | [] => by simp [tN]
  | x :: r => by
    have := tN_le r
    simp only [tN, List.length_cons]
    split
    · split <;> omega
    · omega
theorem tN_ge : ∀ (l : List UInt64) (i : Nat), tN l ≤ i → gD l i = 0
  | [], i, _ => gD_nil i
  | x :: r, i, h => by
    simp only [tN] at h
    split at h
    · rename_i h0
      split at h
      · rename_i hx
        cases i with
        | zero => rw [gD_zero]; exact hx
        | succ i => rw [gD_succ]; exact tN_ge r i (by omega)
      · cases i with
        | zero => omega
        | succ i => rw [gD_succ]; exact tN_ge r i (by omega)
    · cases i with
      | zero => omega
      | succ i => rw [gD_succ]; exact tN_ge r i (by omega)
theorem tN_last : ∀ (l : List UInt64), 0 < tN l → gD l (tN l - 1) ≠ 0
  | [], h => by simp [tN] at h
  | x :: r, h => by
    simp only [tN] at h ⊢
    split
    · rename_i h0
      rw [if_pos h0] at h
      split
      · rename_i hx; rw [if_pos hx] at h; omega
      · rename_i hx; rw [Nat.sub_self, gD_zero]; exact hx
    · rename_i h0
      rw [Nat.add_sub_cancel]
      obtain ⟨k, hk⟩ : ∃ k, tN r = k + 1 := ⟨tN r - 1, by omega⟩
      have := tN_last r (by omega)
      rw [hk] at this ⊢
      rw [gD_succ]; exact this
theorem tN_eq {l : List UInt64} {m : Nat} (h1 : ∀ i, m ≤ i → gD l i = 0) (h2 : 0 < m → gD l (m - 1) ≠ 0) : tN l = m := by
  rcases Nat.lt_trichotomy (tN l) m with h | h | h
  · exact absurd (tN_ge l (m - 1) (by omega)) (h2 (by omega))
  · exact h
  · exact absurd (h1 (tN l - 1) (by omega)) (tN_last l (by omega))
theorem gD_take (l : List UInt64) (n i : Nat) : gD (l.take n) i = if i < n then gD l i else 0 := by
  unfold gD
  simp only [List.getD_eq_getElem?_getD, List.getElem?_take]
  split <;> simp
theorem gD_trim (l : List UInt64) (i : Nat) : gD (vTrim l) i = gD l i := by
  unfold vTrim
  rw [gD_take]
  split
  · rfl
  · rename_i h; rw [tN_ge l i (by omega)]
theorem tN_trim (l : List UInt64) : tN (vTrim l) = tN l :=
  tN_eq (fun i h => by rw [gD_trim]; exact tN_ge l i h) (fun h => by rw [gD_trim]; exact tN_last l h)
theorem len_trim (l : List UInt64) : (vTrim l).length = tN l := by
  unfold vTrim
  rw [List.length_take]
  have := tN_le l
  omega
theorem ext_gD {a b : List UInt64} (hl : a.length = b.length) (h : ∀ i, gD a i = gD b i) : a = b := by
  apply List.ext_getElem hl
  intro i h1 h2
  have := h i
  unfold gD at this
  simpa [h1, h2] using this
theorem tN_congr {a b : List UInt64} (h : ∀ i, gD a i = gD b i) : tN a = tN b :=
  tN_eq (fun i hi => by rw [h]; exact tN_ge b i hi) (fun hp => by rw [h]; exact tN_last b hp)
theorem trim_congr {a b : List UInt64} (h : ∀ i, gD a i = gD b i) : vTrim a = vTrim b :=
  ext_gD (by rw [len_trim, len_trim, tN_congr h]) (fun i => by rw [gD_trim, gD_trim, h])
theorem trim_self {a : List UInt64} (h : tN a = a.length) : vTrim a = a := by unfold vTrim; rw [h, List.take_length]

/-- Clock by clock, the greater one. -/
def mkL (n : Nat) (f : Nat → UInt64) : List UInt64 := (List.range n).map f
theorem mkL_length (n : Nat) (f : Nat → UInt64) : (mkL n f).length = n := by simp [mkL]
theorem gD_mkL (n : Nat) (f : Nat → UInt64) (i : Nat) : gD (mkL n f) i = if i < n then f i else 0 := by
  unfold gD mkL
  simp only [List.getD_eq_getElem?_getD, List.getElem?_map]
  split
  · rename_i h; simp [h]
  · rename_i h; rw [List.getElem?_eq_none (by simpa using h)]; rfl
def mx (a b : UInt64) : UInt64 := if a ≤ b then b else a
theorem mx_zero (a : UInt64) : mx a 0 = a := by
  unfold mx
  split
  · rename_i h
    apply UInt64.toNat_inj.1
    have : a.toNat ≤ (0 : UInt64).toNat := UInt64.le_iff_toNat_le.1 h
    simp at this ⊢; exact this.symm
  · rfl
theorem zero_mx (a : UInt64) : mx 0 a = a := by
  unfold mx
  rw [if_pos (UInt64.le_iff_toNat_le.2 (by simp))]
theorem mx_toNat (a b : UInt64) : (mx a b).toNat = max a.toNat b.toNat := by
  unfold mx
  split
  · rename_i h; have := UInt64.le_iff_toNat_le.1 h; omega
  · rename_i h; have : ¬ a.toNat ≤ b.toNat := fun h' => h (UInt64.le_iff_toNat_le.2 h'); omega
theorem mx_ne {a b : UInt64} (h : a ≠ 0 ∨ b ≠ 0) : mx a b ≠ 0 := by
  intro h0
  have h1 := mx_toNat a b
  rw [h0] at h1
  have ha : a.toNat = 0 := by simp at h1; omega
  have hb : b.toNat = 0 := by simp at h1; omega
  rcases h with h | h
  · exact h (UInt64.toNat_inj.1 (by simpa using ha))
  · exact h (UInt64.toNat_inj.1 (by simpa using hb))

/-- The list s, room for n made. -/
def vReach (n : Nat) (s : List UInt64) : List UInt64 := s ++ List.replicate (n - s.length) 0
theorem reach_length (n : Nat) (s : List UInt64) : (vReach n s).length = max n s.length := by simp [vReach]; omega
theorem gD_reach (n : Nat) (s : List UInt64) (i : Nat) : gD (vReach n s) i = gD s i := by
  unfold vReach gD
  simp only [List.getD_eq_getElem?_getD]
  by_cases h : i < s.length
  · rw [List.getElem?_append_left h]
  · rw [List.getElem?_append_right (by omega), List.getElem?_eq_none (show s.length ≤ i by omega)]
    by_cases h2 : i - s.length < n - s.length
    · simp [h2]
    · simp [h2]
/-- s, joined with c. -/
def vTake (s c : List UInt64) : List UInt64 := mkL (max s.length (tN c)) fun i => mx (gD s i) (gD c i)
theorem gD_vTake (s c : List UInt64) (i : Nat) : gD (vTake s c) i = mx (gD s i) (gD c i) := by
  unfold vTake
  rw [gD_mkL]
  split
  · rfl
  · rename_i h
    rw [gD_ge (l := s) (by omega), tN_ge c i (by omega)]
    rfl
theorem vTake_length (s c : List UInt64) : (vTake s c).length = max s.length (tN c) := mkL_length _ _
theorem vTake_trimmed {s : List UInt64} (c : List UInt64) (h : tN s = s.length) : tN (vTake s c) = (vTake s c).length := by
  rw [vTake_length]
  refine tN_eq (fun i hi => by rw [gD_ge]; rw [vTake_length]; exact hi) (fun hp => ?_)
  rw [gD_vTake]
  apply mx_ne
  rcases Nat.le_total (tN c) s.length with hc | hc
  · left
    have := tN_last s (by omega)
    rw [show max s.length (tN c) = tN s by omega]; exact this
  · by_cases h0 : tN c = 0
    · left
      have := tN_last s (by omega)
      rw [show max s.length (tN c) = tN s by omega]; exact this
    · right
      have := tN_last c (by omega)
      rw [show max s.length (tN c) = tN c by omega]; exact this
/-- The join of lists. -/
def vJoin (ls : List (List UInt64)) : List UInt64 := ls.foldl vTake []
theorem foldTake_trimmed : ∀ (ls : List (List UInt64)) (s : List UInt64), tN s = s.length → tN (ls.foldl vTake s) = (ls.foldl vTake s).length
  | [], _, h => h
  | c :: ls, _, h => foldTake_trimmed ls _ (vTake_trimmed c h)
theorem vJoin_trimmed (ls : List (List UInt64)) : tN (vJoin ls) = (vJoin ls).length := foldTake_trimmed ls [] rfl
theorem vJoin_one (c : List UInt64) : vJoin [c] = vTrim c := by
  show vTake [] c = vTrim c
  refine ext_gD ?_ fun i => ?_
  · rw [vTake_length, len_trim]; simp
  · rw [gD_vTake, gD_trim, gD_nil, zero_mx]
theorem vTake_nil_left (c : List UInt64) : vTake [] c = vTrim c := vJoin_one c

/-- The numbers below i whose clocks are not 0. -/
def nzT (l : List UInt64) (i : Nat) : List Nat := (List.range i).filter fun k => gD l k != 0
theorem nzT_zero (l : List UInt64) : nzT l 0 = [] := rfl
theorem nzT_yes {l : List UInt64} {i : Nat} (h : gD l i ≠ 0) : nzT l (i + 1) = nzT l i ++ [i] := by
  unfold nzT
  rw [List.range_succ, List.filter_append]
  simp [h]
theorem nzT_no {l : List UInt64} {i : Nat} (h : gD l i = 0) : nzT l (i + 1) = nzT l i := by
  unfold nzT
  rw [List.range_succ, List.filter_append]
  simp [h]
theorem nzT_mem {l : List UInt64} {i k : Nat} : k ∈ nzT l i ↔ k < i ∧ gD l k ≠ 0 := by simp [nzT]
theorem nzT_length_le (l : List UInt64) (i : Nat) : (nzT l i).length ≤ i := by
  unfold nzT
  refine Nat.le_trans (List.length_filter_le _ _) (by simp)
/-- The numbers come so far, and the one that comes next. -/
def AtNz (l : List UInt64) (pre : List Nat) (x : Nat) : Prop := x < l.length ∧ gD l x ≠ 0 ∧ pre = nzT l x

/-- Up to: clock by clock. -/
def upB (a b : List UInt64) : Bool := (List.range a.length).all fun i => decide (gD a i ≤ gD b i)
theorem upB_iff (a b : List UInt64) : upB a b = true ↔ ∀ i, (gD a i).toNat ≤ (gD b i).toNat := by
  unfold upB
  rw [List.all_eq_true]
  constructor
  · intro h i
    by_cases hi : i < a.length
    · have := h i (List.mem_range.2 hi)
      exact UInt64.le_iff_toNat_le.1 (of_decide_eq_true this)
    · rw [gD_ge (l := a) (by omega)]; simp
  · intro h i _
    exact decide_eq_true (UInt64.le_iff_toNat_le.2 (h i))
theorem upB_refl (a : List UInt64) : upB a a = true := (upB_iff a a).2 fun _ => Nat.le_refl _
theorem upB_trans {a b c : List UInt64} (h : upB a b = true) (k : upB b c = true) : upB a c = true :=
  (upB_iff a c).2 fun i => Nat.le_trans ((upB_iff a b).1 h i) ((upB_iff b c).1 k i)
theorem upB_take_left (s c : List UInt64) : upB s (vTake s c) = true := (upB_iff _ _).2 fun i => by rw [gD_vTake, mx_toNat]; omega
theorem upB_take_right (s c : List UInt64) : upB c (vTake s c) = true := (upB_iff _ _).2 fun i => by rw [gD_vTake, mx_toNat]; omega
theorem upB_take_least {s c d : List UInt64} (h : upB s d = true) (k : upB c d = true) : upB (vTake s c) d = true :=
  (upB_iff _ _).2 fun i => by
    rw [gD_vTake, mx_toNat]
    have h1 := (upB_iff _ _).1 h i
    have h2 := (upB_iff _ _).1 k i
    omega
/-- How one stands to another one. -/
def standI (a b : List UInt64) : Int := if upB a b then (if upB b a then 1 else 2) else (if upB b a then 3 else 4)
end Go.Proofs.YtcimppggemdidaaDoor
