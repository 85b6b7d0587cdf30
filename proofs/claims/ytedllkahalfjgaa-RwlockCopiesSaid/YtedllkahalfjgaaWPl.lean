/- Locks for readers and writers, plain: who is in each; what a call answers, what it leaves. -/
import Derived.Test.YtedllkahalfjgaaWMem
namespace Go.Proofs.Ytedllkahalfjgaa
open Go Go.RowKit

/-- A lock: its readers in their order; and one more than its writer, 0: it has none. -/
structure Lk where
  rd : List Int
  wr : Int
abbrev lk0 : Lk := ⟨[], 0⟩
def whoW (n : Int) : Int := if n = 0 then 0 else n - 1
/-- The place of the first reader that is by; the first of all, if none is. -/
def placeL : List Int → Int → Nat
  | [], _ => 0
  | x :: l, b => if x = b then 0 else if b ∈ l then placeL l b + 1 else 0
def outL (l : List Int) (b : Int) : List Int := l.eraseIdx (placeL l b)
def hasL (ls : List Lk) (i : Int) : Prop := 0 ≤ i ∧ i < ls.length
instance (ls : List Lk) (i : Int) : Decidable (hasL ls i) := by unfold hasL; infer_instance
def atL (ls : List Lk) (i : Int) : Lk := if 0 ≤ i then ls.getD i.toNat lk0 else lk0
def mayI (b : Int) : Prop := 0 ≤ b ∧ b ≤ 65535
instance (b : Int) : Decidable (mayI b) := by unfold mayI; infer_instance

def rightE (ls : List Lk) (i b : Int) : Int := if mayI b then if hasL ls i then 0 else 4 else 2
def readE (ls : List Lk) (i b : Int) : Int := if rightE ls i b = 0 then if (atL ls i).wr ≠ 0 then 240 else 0 else rightE ls i b
def writeE (ls : List Lk) (i b : Int) : Int := if rightE ls i b = 0 then if (atL ls i).wr ≠ 0 then 240 else if (atL ls i).rd ≠ [] then 241 else 0 else rightE ls i b
def unreadE (ls : List Lk) (i b : Int) : Int := if rightE ls i b = 0 then if (atL ls i).rd = [] then 242 else 0 else rightE ls i b
def unwriteE (ls : List Lk) (i : Int) : Int := if hasL ls i then if (atL ls i).wr = 0 then 242 else 0 else 4
def readL (ls : List Lk) (i b : Int) : List Lk := if readE ls i b = 0 then ls.set i.toNat ⟨(atL ls i).rd ++ [b], (atL ls i).wr⟩ else ls
def writeL (ls : List Lk) (i b : Int) : List Lk := if writeE ls i b = 0 then ls.set i.toNat ⟨(atL ls i).rd, b + 1⟩ else ls
def unreadL (ls : List Lk) (i b : Int) : List Lk := if unreadE ls i b = 0 then ls.set i.toNat ⟨outL (atL ls i).rd b, (atL ls i).wr⟩ else ls
def unreadW (ls : List Lk) (i b : Int) : Int := if unreadE ls i b = 0 then (atL ls i).rd.getD (placeL (atL ls i).rd b) 0 else 0
def unwriteL (ls : List Lk) (i : Int) : List Lk := if unwriteE ls i = 0 then ls.set i.toNat ⟨(atL ls i).rd, 0⟩ else ls
def unwriteW (ls : List Lk) (i : Int) : Int := if unwriteE ls i = 0 then whoW (atL ls i).wr else 0

theorem readL_len (ls : List Lk) (i b : Int) : (readL ls i b).length = ls.length := by unfold readL; split <;> simp
theorem writeL_len (ls : List Lk) (i b : Int) : (writeL ls i b).length = ls.length := by unfold writeL; split <;> simp
theorem unreadL_len (ls : List Lk) (i b : Int) : (unreadL ls i b).length = ls.length := by unfold unreadL; split <;> simp
theorem unwriteL_len (ls : List Lk) (i : Int) : (unwriteL ls i).length = ls.length := by unfold unwriteL; split <;> simp
theorem placeL_lt : ∀ (l : List Int) (b : Int), l ≠ [] → placeL l b < l.length
  | [], _, h => absurd rfl h
  | x :: l, b, _ => by
    unfold placeL
    split
    · simp
    · split
      · rename_i h
        have := placeL_lt l b (List.ne_nil_of_mem h)
        simp only [List.length_cons]; omega
      · simp
theorem placeL_not : ∀ (l : List Int) (b : Int), b ∉ l → placeL l b = 0
  | [], _, _ => rfl
  | x :: l, b, h => by
    unfold placeL
    rw [if_neg (fun e => h (by rw [e]; simp)), if_neg (fun e => h (by simp [e]))]
/-- It is the first: none ahead of it is by. -/
theorem placeL_at : ∀ (l : List Int) (b : Int), b ∈ l → l[placeL l b]? = some b ∧ ∀ k, k < placeL l b → l[k]? ≠ some b
  | [], _, h => by simp at h
  | x :: l, b, h => by
    unfold placeL
    by_cases e : x = b
    · rw [if_pos e]; exact ⟨by simp [e], fun k hk => by omega⟩
    · have hm : b ∈ l := by
        rcases List.mem_cons.1 h with h1 | h1
        · exact absurd h1.symm e
        · exact h1
      obtain ⟨h1, h2⟩ := placeL_at l b hm
      rw [if_neg e, if_pos hm]
      refine ⟨by simpa using h1, fun k hk => ?_⟩
      cases k with
      | zero => simpa using e
      | succ k => simpa using h2 k (by omega)
theorem placeL_first {l : List Int} {b : Int} {n : Nat} (h : l[n]? = some b) (hk : ∀ k, k < n → l[k]? ≠ some b) : placeL l b = n := by
  obtain ⟨h1, h2⟩ := placeL_at l b (List.mem_of_getElem? h)
  rcases Nat.lt_trichotomy (placeL l b) n with c | c | c
  · exact absurd h1 (hk _ c)
  · exact c
  · exact absurd h (h2 _ c)
/-- What locks may be: bounds, and never both. -/
def OkL (m : Nat) (x : Lk) : Prop := 0 ≤ x.wr ∧ x.wr ≤ 65536 ∧ (∀ r ∈ x.rd, mayI r) ∧ x.rd.length ≤ m
theorem OkL.up {m n : Nat} {x : Lk} (h : OkL m x) (hn : m ≤ n) : OkL n x := ⟨h.1, h.2.1, h.2.2.1, Nat.le_trans h.2.2.2 hn⟩
theorem OkL.zero (m : Nat) : OkL m lk0 := ⟨by decide, by decide, fun r hr => by simp at hr, Nat.zero_le _⟩
theorem atL_mem {ls : List Lk} {i : Int} (h : hasL ls i) : ls[i.toNat]? = some (atL ls i) := by
  unfold atL
  obtain ⟨h0, h1⟩ := h
  rw [if_pos h0, List.getD_eq_getElem?_getD, List.getElem?_eq_getElem (by omega)]
  rfl
theorem atL_no {ls : List Lk} {i : Int} (h : ¬ hasL ls i) : atL ls i = lk0 := by
  unfold atL
  split
  · rw [List.getD_eq_getElem?_getD, List.getElem?_eq_none (by unfold hasL at h; omega)]; rfl
  · rfl
theorem atL_ok {m : Nat} {ls : List Lk} (h : ∀ x ∈ ls, OkL m x) (i : Int) : OkL m (atL ls i) := by
  by_cases hi : hasL ls i
  · exact h _ (List.mem_of_getElem? (atL_mem hi))
  · rw [atL_no hi]; exact OkL.zero m
theorem atL_nat (ls : List Lk) (n : Nat) : atL ls (n : Int) = ls.getD n lk0 := by unfold atL; rw [if_pos (by omega)]; simp
theorem okL_set {m : Nat} {ls : List Lk} (h : ∀ x ∈ ls, OkL m x) {y : Lk} (hy : OkL m y) (n : Nat) : ∀ x ∈ ls.set n y, OkL m x := fun x hx => by
  rcases List.mem_or_eq_of_mem_set hx with h1 | rfl
  · exact h x h1
  · exact hy
theorem readE_good {ls : List Lk} {i b : Int} (h : readE ls i b = 0) : mayI b ∧ hasL ls i ∧ (atL ls i).wr = 0 := by
  unfold readE rightE at h
  by_cases h1 : mayI b
  · by_cases h2 : hasL ls i
    · rw [if_pos h1, if_pos h2, if_pos rfl] at h
      by_cases h3 : (atL ls i).wr = 0
      · exact ⟨h1, h2, h3⟩
      · rw [if_pos h3] at h; omega
    · rw [if_pos h1, if_neg h2] at h; simp at h
  · rw [if_neg h1] at h; simp at h
theorem writeE_good {ls : List Lk} {i b : Int} (h : writeE ls i b = 0) : mayI b ∧ hasL ls i ∧ (atL ls i).wr = 0 ∧ (atL ls i).rd = [] := by
  unfold writeE rightE at h
  by_cases h1 : mayI b
  · by_cases h2 : hasL ls i
    · rw [if_pos h1, if_pos h2, if_pos rfl] at h
      by_cases h3 : (atL ls i).wr = 0
      · by_cases h4 : (atL ls i).rd = []
        · exact ⟨h1, h2, h3, h4⟩
        · rw [if_neg (by simpa using h3), if_pos h4] at h; omega
      · rw [if_pos h3] at h; omega
    · rw [if_pos h1, if_neg h2] at h; simp at h
  · rw [if_neg h1] at h; simp at h
theorem unreadE_good {ls : List Lk} {i b : Int} (h : unreadE ls i b = 0) : mayI b ∧ hasL ls i ∧ (atL ls i).rd ≠ [] := by
  unfold unreadE rightE at h
  by_cases h1 : mayI b
  · by_cases h2 : hasL ls i
    · rw [if_pos h1, if_pos h2, if_pos rfl] at h
      by_cases h3 : (atL ls i).rd = []
      · rw [if_pos h3] at h; omega
      · exact ⟨h1, h2, h3⟩
    · rw [if_pos h1, if_neg h2] at h; simp at h
  · rw [if_neg h1] at h; simp at h
theorem unwriteE_good {ls : List Lk} {i : Int} (h : unwriteE ls i = 0) : hasL ls i ∧ (atL ls i).wr ≠ 0 := by
  unfold unwriteE at h
  by_cases h2 : hasL ls i
  · rw [if_pos h2] at h
    by_cases h3 : (atL ls i).wr = 0
    · rw [if_pos h3] at h; omega
    · exact ⟨h2, h3⟩
  · rw [if_neg h2] at h; omega
theorem readL_ok {m : Nat} {ls : List Lk} (h : ∀ x ∈ ls, OkL m x) (i b : Int) : ∀ x ∈ readL ls i b, OkL (m + 1) x := by
  unfold readL
  split
  · rename_i he
    obtain ⟨h1, h2, h3⟩ := readE_good he
    have ho := atL_ok h i
    refine okL_set (y := ⟨(atL ls i).rd ++ [b], (atL ls i).wr⟩) (fun x hx => (h x hx).up (by omega)) ⟨ho.1, ho.2.1, fun r hr => ?_, by simp; exact ho.2.2.2⟩ _
    rcases List.mem_append.1 hr with h4 | h4
    · exact ho.2.2.1 r h4
    · rw [List.mem_singleton.1 h4]; exact h1
  · exact fun x hx => (h x hx).up (by omega)
theorem writeL_ok {m : Nat} {ls : List Lk} (h : ∀ x ∈ ls, OkL m x) (i b : Int) : ∀ x ∈ writeL ls i b, OkL m x := by
  unfold writeL
  split
  · rename_i he
    obtain ⟨h1, h2, h3⟩ := writeE_good he
    have ho := atL_ok h i
    unfold mayI at h1
    exact okL_set (y := ⟨(atL ls i).rd, b + 1⟩) h ⟨by show 0 ≤ b + 1; omega, by show b + 1 ≤ 65536; omega, ho.2.2⟩ _
  · exact h
theorem outL_mem {l : List Int} {b x : Int} (h : x ∈ outL l b) : x ∈ l := List.mem_of_mem_eraseIdx h
theorem outL_len {l : List Int} (b : Int) (h : l ≠ []) : (outL l b).length + 1 = l.length := by
  have := placeL_lt l b h
  unfold outL
  rw [List.length_eraseIdx, if_pos this]; omega
theorem unreadL_ok {m : Nat} {ls : List Lk} (h : ∀ x ∈ ls, OkL m x) (i b : Int) : ∀ x ∈ unreadL ls i b, OkL m x := by
  unfold unreadL
  split
  · rename_i he
    obtain ⟨h1, h2, h3⟩ := unreadE_good he
    have ho := atL_ok h i
    refine okL_set (y := ⟨outL (atL ls i).rd b, (atL ls i).wr⟩) h ⟨ho.1, ho.2.1, fun r hr => ho.2.2.1 r (outL_mem hr), ?_⟩ _
    have := outL_len b h3
    have := ho.2.2.2
    show (outL (atL ls i).rd b).length ≤ m
    omega
  · exact h
theorem unwriteL_ok {m : Nat} {ls : List Lk} (h : ∀ x ∈ ls, OkL m x) (i : Int) : ∀ x ∈ unwriteL ls i, OkL m x := by
  unfold unwriteL
  split
  · have ho := atL_ok h i
    exact okL_set (y := ⟨(atL ls i).rd, 0⟩) h ⟨by show (0:Int) ≤ 0; decide, by show (0:Int) ≤ 65536; decide, ho.2.2⟩ _
  · exact h
end Go.Proofs.Ytedllkahalfjgaa
