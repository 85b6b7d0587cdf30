/- What a memory's words are as a list; its pages; how many. -/
import Derived.Test.YtleihmmkonakhaaDoorMI2
import Derived.Test.YtleihmmkonakhaaDoorMS2
namespace Go.Proofs.YtleihmmkonakhaaDoor
open Go Go.RowKit Go.Shelf Go.Maps

/-- cs is all words of S that are not 0, rising. -/
structure IsCells (S : Nat → Nat) (cs : List (Nat × Nat)) : Prop where
  rise : cs.Pairwise (fun x y => x.1 < y.1)
  mem : ∀ x, x ∈ cs ↔ x.1 < 4294967296 ∧ x.2 = S x.1 ∧ x.2 ≠ 0

theorem rising_ext {l m : List (Nat × Nat)} (hl : l.Pairwise (fun x y => x.1 < y.1)) (hm : m.Pairwise (fun x y => x.1 < y.1)) (h : ∀ x, x ∈ l ↔ x ∈ m) : l = m := by
  have nd : ∀ {k : List (Nat × Nat)}, k.Pairwise (fun x y => x.1 < y.1) → k.Nodup := fun hk => List.nodup_iff_pairwise_ne.2 (hk.imp fun hlt e => by rw [e] at hlt; omega)
  refine List.Perm.eq_of_pairwise (le := fun x y => x.1 < y.1) (fun a b _ _ h1 h2 => by omega) hl hm ((List.perm_ext_iff_of_nodup (nd hl) (nd hm)).2 h)

theorem nz_rise (f : Nat → Nat) (lo : Nat) : ∀ n, (nz f lo n).Pairwise (fun x y => x.1 < y.1)
  | 0 => List.Pairwise.nil
  | n + 1 => by
    refine List.pairwise_append.2 ⟨nz_rise f lo n, ?_, fun x hx y hy => ?_⟩
    · split <;> simp
    · have := nz_mem hx
      split at hy
      · simp at hy
      · simp at hy; subst hy; simp only; omega
theorem nz_in {f : Nat → Nat} {lo i : Nat} (hf : f i ≠ 0) : ∀ {n : Nat}, lo ≤ i → i < lo + n → (i, f i) ∈ nz f lo n
  | 0, h1, h2 => by omega
  | n + 1, h1, h2 => by
    by_cases e : i = lo + n
    · subst e
      exact List.mem_append_right _ (by simp [hf])
    · exact List.mem_append_left _ (nz_in hf h1 (by omega))
theorem nz_length (f : Nat → Nat) : ∀ n, (nz f 0 n).length = cntN f n
  | 0 => rfl
  | n + 1 => by
    simp only [nz, cntN, List.length_append, nz_length f n, Nat.zero_add]
    split <;> simp

theorem psL_mem (S : Nat → Nat) (a : Nat) (ps : List Nat) (x : Nat × Nat) : x ∈ psL S a ps ↔ x.1 / 4096 ∈ ps ∧ a ≤ x.1 ∧ x.2 = S x.1 ∧ x.2 ≠ 0 := by
  unfold psL
  rw [List.mem_flatMap]
  constructor
  · rintro ⟨p, hp, hx⟩
    unfold pgL at hx
    obtain ⟨y, hy, rfl⟩ := List.mem_map.1 hx
    have h := nzP_mem hy
    simp only
    have e1 : (p * 4096 + y.1) / 4096 = p := by omega
    rw [e1]
    refine ⟨hp, by omega, by rw [h.2.2.1]; rfl, h.2.2.2⟩
  · rintro ⟨hp, h1, h2, h3⟩
    refine ⟨_, hp, ?_⟩
    unfold pgL
    refine List.mem_map.2 ⟨(x.1 % 4096, x.2), ?_, ?_⟩
    · have e : x.2 = pgW S (x.1 / 4096) (x.1 % 4096) := by unfold pgW; rw [show x.1 / 4096 * 4096 + x.1 % 4096 = x.1 by omega]; exact h2
      rw [e]
      exact nz_in (by rw [← e]; exact h3) (by omega) (by omega)
    · simp only; rw [show x.1 / 4096 * 4096 + x.1 % 4096 = x.1 by omega]
theorem psL_rise (S : Nat → Nat) (a : Nat) : ∀ (ps : List Nat), ps.Pairwise (· < ·) → (psL S a ps).Pairwise (fun x y => x.1 < y.1)
  | [], _ => List.Pairwise.nil
  | p :: ps, h => by
    obtain ⟨h1, h2⟩ := List.pairwise_cons.1 h
    show ((pgL S a p) ++ psL S a ps).Pairwise _
    refine List.pairwise_append.2 ⟨?_, psL_rise S a ps h2, fun x hx y hy => ?_⟩
    · unfold pgL
      rw [List.pairwise_map]
      exact (nz_rise _ _ _).imp fun hlt => by simp only; omega
    · obtain ⟨z, hz, rfl⟩ := List.mem_map.1 hx
      have h3 := (nzP_mem hz).1
      have h4 := h1 _ ((psL_mem S a ps y).1 hy).1
      simp only
      omega
theorem sortU_rise {xs : List Nat} (h : xs.Nodup) : (sortU xs).Pairwise (· < ·) := by
  have h1 : (sortU xs).Pairwise (fun x y => decide (x ≤ y) = true) := List.pairwise_mergeSort (by intro a b c; simp; omega) (by intro a b; simp; omega) xs
  have h2 : (sortU xs).Nodup := (sortU_perm xs).nodup_iff.2 h
  rw [List.nodup_iff_pairwise_ne] at h2
  exact (h1.and h2).imp fun ⟨h3, h4⟩ => by simp at h3; omega

theorem from_cells {w : World} {b : Nat} {S : Nat → Nat} {L : List (Nat × Nat)} (h : MemL w b S L) {cs : List (Nat × Nat)} (hc : IsCells S cs) (a : Nat) : psL S a (sortU (L.map (·.1))) = cs.filter fun x => decide (a ≤ x.1) := by
  refine rising_ext (psL_rise S a _ (sortU_rise h.map.nodup)) (hc.rise.filter _) fun x => ?_
  rw [psL_mem, List.mem_filter, hc.mem, (sortU_perm _).mem_iff]
  constructor
  · rintro ⟨h1, h2, h3, h4⟩
    have := key_lt h h1
    exact ⟨⟨by omega, h3, h4⟩, by simpa using h2⟩
  · rintro ⟨⟨h1, h2, h3⟩, h4⟩
    refine ⟨(key_iff h (by omega)).2 ⟨x.1 % 4096, by omega, ?_⟩, by simpa using h4, h2, h3⟩
    unfold pgW
    rw [show x.1 / 4096 * 4096 + x.1 % 4096 = x.1 by omega, ← h2]
    exact h3
theorem isCells_of {w : World} {b : Nat} {S : Nat → Nat} {L : List (Nat × Nat)} (h : MemL w b S L) : IsCells S (psL S 0 (sortU (L.map (·.1)))) := by
  refine ⟨psL_rise S 0 _ (sortU_rise h.map.nodup), fun x => ?_⟩
  rw [psL_mem, (sortU_perm _).mem_iff]
  constructor
  · rintro ⟨h1, h2, h3, h4⟩
    have := key_lt h h1
    exact ⟨by omega, h3, h4⟩
  · rintro ⟨h1, h2, h3⟩
    refine ⟨(key_iff h (by omega)).2 ⟨x.1 % 4096, by omega, ?_⟩, by omega, h2, h3⟩
    unfold pgW
    rw [show x.1 / 4096 * 4096 + x.1 % 4096 = x.1 by omega, ← h2]
    exact h3
theorem IsCells.uniq {S T : Nat → Nat} {cs ds : List (Nat × Nat)} (h : IsCells S cs) (k : IsCells T ds) (hs : SameW S T) : cs = ds := by
  refine rising_ext h.rise k.rise fun x => ?_
  rw [h.mem, k.mem]
  constructor
  · rintro ⟨h1, h2, h3⟩; exact ⟨h1, by rw [← hs _ h1]; exact h2, h3⟩
  · rintro ⟨h1, h2, h3⟩; exact ⟨h1, by rw [hs _ h1]; exact h2, h3⟩
theorem sumL_list (S : Nat → Nat) : ∀ ps : List Nat, (psL S 0 ps).length = sumL S (ps.map fun p => (p, 0))
  | [] => rfl
  | p :: ps => by
    show ((pgL S 0 p) ++ psL S 0 ps).length = _
    rw [List.length_append, sumL_list S ps]
    simp only [List.map_cons, sumL]
    congr 1
    unfold pgL nzP cntP
    rw [List.length_map, show min (0 - p * 4096) 4096 = 0 by omega]
    exact nz_length _ _
theorem sumL_keys (S : Nat → Nat) : ∀ L : List (Nat × Nat), sumL S L = sumL S ((L.map (·.1)).map fun p => (p, 0))
  | [] => rfl
  | x :: t => by simp only [sumL, List.map_cons]; rw [sumL_keys S t]
theorem sumL_cells {w : World} {b : Nat} {S : Nat → Nat} {L : List (Nat × Nat)} (h : MemL w b S L) {cs : List (Nat × Nat)} (hc : IsCells S cs) : sumL S L = cs.length := by
  have e := (isCells_of h).uniq hc (fun _ _ => rfl)
  rw [← e, sumL_list, sumL_keys S L]
  exact sumL_perm S ((sortU_perm (L.map (·.1))).symm.map _)
/-- The pages that have words. -/
theorem pages_cells {w : World} {b : Nat} {S : Nat → Nat} {L : List (Nat × Nat)} (h : MemL w b S L) {cs : List (Nat × Nat)} (hc : IsCells S cs) {qs : List Nat} (hq : qs.Pairwise (· < ·)) (hm : ∀ p, p ∈ qs ↔ ∃ x ∈ cs, x.1 / 4096 = p) : sortU (L.map (·.1)) = qs := by
  have nd : ∀ {k : List Nat}, k.Pairwise (· < ·) → k.Nodup := fun hk => List.nodup_iff_pairwise_ne.2 (hk.imp fun hlt e => by omega)
  have h1 := sortU_rise h.map.nodup
  refine List.Perm.eq_of_pairwise (le := fun x y => x < y) (fun a b _ _ h1 h2 => by omega) h1 hq ((List.perm_ext_iff_of_nodup (nd h1) (nd hq)).2 fun p => ?_)
  rw [(sortU_perm _).mem_iff, hm]
  constructor
  · intro hp
    have hlt := key_lt h hp
    obtain ⟨i, hi, hn⟩ := (key_iff h hlt).1 hp
    unfold pgW at hn
    exact ⟨(p * 4096 + i, S (p * 4096 + i)), (hc.mem _).2 ⟨by simp only; omega, rfl, hn⟩, by simp only; omega⟩
  · rintro ⟨x, hx, rfl⟩
    obtain ⟨h2, h3, h4⟩ := (hc.mem x).1 hx
    refine (key_iff h (by omega)).2 ⟨x.1 % 4096, by omega, ?_⟩
    unfold pgW
    rw [show x.1 / 4096 * 4096 + x.1 % 4096 = x.1 by omega, ← h3]
    exact h4
theorem cells_few {S : Nat → Nat} {cs : List (Nat × Nat)} (h : IsCells S cs) : cs.length ≤ 4294967296 := by
  have := nodup_bound 4294967296 (cs.map (·.1)) (by
    rw [List.nodup_iff_pairwise_ne, List.pairwise_map]
    exact h.rise.imp fun hlt e => by omega) (fun p hp => by
    obtain ⟨x, hx, rfl⟩ := List.mem_map.1 hp
    exact ((h.mem x).1 hx).1)
  simpa using this
end Go.Proofs.YtleihmmkonakhaaDoor
