/- Lists of pairs that rise: the document's way to put one in; sorted. Nothing of the program. -/
import Derived.Test.YtoeoeeomnbggkaaGreatDoorSPlain
namespace Go.Proofs.YtoeoeeomnbggkaaGreatDoor

def ltP (x y : Pr) : Bool := decide (ordP x y < 0)
def Rise (l : List Pr) : Prop := l.Pairwise fun x y => ordP x y < 0
theorem ordP_self (x : Pr) : ordP x x = 0 := ordP_eq.2 rfl
theorem Rise.nodup {l : List Pr} (h : Rise l) : l.Nodup := List.nodup_iff_pairwise_ne.2 (h.imp fun hlt e => by rw [e, ordP_self] at hlt; omega)
theorem rise_ext {l m : List Pr} (hl : Rise l) (hm : Rise m) (h : ∀ x, x ∈ l ↔ x ∈ m) : l = m := by
  refine List.Perm.eq_of_pairwise (le := fun x y => ordP x y < 0) (fun a b _ _ h1 h2 => ?_) hl hm ((List.perm_ext_iff_of_nodup hl.nodup hm.nodup).2 h)
  have := ordP_trans h1 h2
  rw [ordP_self] at this; omega
theorem ordP_tot {x y : Pr} (h1 : ¬ ordP x y < 0) (h2 : x ≠ y) : ordP y x < 0 := by
  have h3 : ordP x y ≠ 0 := fun e => h2 (ordP_eq.1 e)
  rw [ordP_neg x y]; omega

/-- The document's way: behind all that are ahead of it. -/
def insP (p : Pr) : List Pr → List Pr
  | [] => [p]
  | x :: t => if ordP x p < 0 then x :: insP p t else p :: x :: t
def addP (l : List Pr) (p : Pr) : List Pr := if p ∈ l then l else insP p l
theorem insP_mem (p : Pr) : ∀ (l : List Pr) (y : Pr), y ∈ insP p l ↔ y = p ∨ y ∈ l
  | [], y => by simp [insP]
  | x :: t, y => by
    unfold insP
    split
    · rw [List.mem_cons, insP_mem p t, List.mem_cons]
      constructor
      · rintro (h | h | h)
        · exact .inr (.inl h)
        · exact .inl h
        · exact .inr (.inr h)
      · rintro (h | h | h)
        · exact .inr (.inl h)
        · exact .inl h
        · exact .inr (.inr h)
    · simp
theorem insP_length (p : Pr) : ∀ l : List Pr, (insP p l).length = l.length + 1
  | [] => rfl
  | x :: t => by
    unfold insP
    split
    · simp [insP_length p t]
    · simp
theorem insP_rise (p : Pr) : ∀ l : List Pr, Rise l → p ∉ l → Rise (insP p l)
  | [], _, _ => by simp [insP, Rise]
  | x :: t, h, hp => by
    obtain ⟨h1, h2⟩ := List.pairwise_cons.1 h
    have hx : x ≠ p := fun e => hp (by simp [e])
    have ht : p ∉ t := fun e => hp (by simp [e])
    unfold insP
    split
    · rename_i hlt
      refine List.pairwise_cons.2 ⟨fun y hy => ?_, insP_rise p t h2 ht⟩
      rcases (insP_mem p t y).1 hy with rfl | hy
      · exact hlt
      · exact h1 y hy
    · rename_i hlt
      have hpx := ordP_tot hlt hx
      refine List.pairwise_cons.2 ⟨fun y hy => ?_, h⟩
      rcases List.mem_cons.1 hy with rfl | hy
      · exact hpx
      · exact ordP_trans hpx (h1 y hy)
theorem addP_mem {l : List Pr} {p y : Pr} : y ∈ addP l p ↔ y = p ∨ y ∈ l := by
  unfold addP
  split
  · rename_i h
    constructor
    · exact .inr
    · rintro (rfl | h')
      · exact h
      · exact h'
  · exact insP_mem p l y
theorem addP_rise {l : List Pr} {p : Pr} (h : Rise l) : Rise (addP l p) := by
  unfold addP
  split
  · exact h
  · exact insP_rise p l h (by assumption)
theorem addP_length (l : List Pr) (p : Pr) : (addP l p).length ≤ l.length + 1 := by
  unfold addP
  split
  · omega
  · rw [insP_length]; omega
theorem addP_same {l : List Pr} {p : Pr} (h : p ∈ l) : addP l p = l := by unfold addP; rw [if_pos h]
theorem addP_new {l : List Pr} {p : Pr} (h : p ∉ l) : addP l p = insP p l := by unfold addP; rw [if_neg h]

def atP (l : List Pr) (k : Nat) : Pr := l.getD k ((0, 0), (0, 0))
theorem atP_cons (x : Pr) (t : List Pr) (k : Nat) : atP (x :: t) (k + 1) = atP t k := by simp [atP]
/-- Where it goes: behind k that are ahead of it, where no more are. -/
theorem insP_at (p : Pr) : ∀ (l : List Pr) (k : Nat), k ≤ l.length → (∀ j, j < k → ordP (atP l j) p < 0) → (k < l.length → ¬ ordP (atP l k) p < 0) → l.take k ++ p :: l.drop k = insP p l
  | [], k, hk, _, _ => by
    obtain rfl : k = 0 := by simpa using hk
    rfl
  | x :: t, 0, _, _, h2 => by
    have := h2 (by simp)
    unfold insP
    rw [if_neg (by simpa [atP] using this)]
    rfl
  | x :: t, k + 1, hk, h1, h2 => by
    have h0 := h1 0 (by omega)
    unfold insP
    rw [if_pos (by simpa [atP] using h0)]
    simp only [List.take_succ_cons, List.drop_succ_cons, List.cons_append]
    rw [insP_at p t k (by simpa using hk) (fun j hj => by have := h1 (j + 1) (by omega); rwa [atP_cons] at this) (fun hk' => by have := h2 (by simpa using hk'); rwa [atP_cons] at this)]

/-- The same pairs, the first one first. -/
def sortP (xs : List Pr) : List Pr := xs.mergeSort fun x y => !(decide (ordP y x < 0))
theorem sortP_length (xs : List Pr) : (sortP xs).length = xs.length := List.length_mergeSort _
theorem sortP_perm (xs : List Pr) : (sortP xs).Perm xs := List.mergeSort_perm _ _
theorem sortP_rise {xs : List Pr} (h : xs.Nodup) : Rise (sortP xs) := by
  have h1 : (sortP xs).Pairwise (fun x y => (!(decide (ordP y x < 0))) = true) := List.pairwise_mergeSort (by
    intro a b c h1 h2
    simp only [Bool.not_eq_true', decide_eq_false_iff_not] at *
    intro h3
    by_cases e : a = b
    · subst e; exact h2 h3
    · exact h2 (ordP_trans h3 (ordP_tot h1 (Ne.symm e)))) (by
    intro a b
    by_cases h1 : ordP b a < 0
    · have : ¬ ordP a b < 0 := fun h2 => by have := ordP_trans h1 h2; rw [ordP_self] at this; omega
      simp [this]
    · simp [h1]) xs
  have h2 : (sortP xs).Nodup := (sortP_perm xs).nodup_iff.2 h
  rw [List.nodup_iff_pairwise_ne] at h2
  exact (h1.and h2).imp fun ⟨h3, h4⟩ => ordP_tot (by simpa using h3) (Ne.symm h4)
/-- A set's pairs, sorted, are the document's list. -/
theorem sortP_eq {xs l : List Pr} (h : xs.Nodup) (hl : Rise l) (hm : ∀ x, x ∈ xs ↔ x ∈ l) : sortP xs = l :=
  rise_ext (sortP_rise h) hl fun x => by rw [(sortP_perm xs).mem_iff]; exact hm x
end Go.Proofs.YtoeoeeomnbggkaaGreatDoor
