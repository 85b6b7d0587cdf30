/- The document's with: its contract. -/
import Derived.Test.YtedllkahalfjgaaWR1
namespace Go.Proofs.Ytedllkahalfjgaa
open Go Go.RowKit

/-- What is made anew may be used too. -/
abbrev OrNew (R : Nat → Prop) (w : World) : Nat → Prop := fun k => R k ∨ w.heap.size ≤ k
/-- Two of its cells are others: one lock is another one. -/
theorem RefW.set2 {R : Nat → Prop} {w : World} {g n cap : Nat} {ls : List Lk} (h : RefW R w (.slice (some ⟨g, 0, none⟩) n cap) ls) {i : Nat} (hi : i < ls.length) {y : Lk} {sv : Value} (hy : CutR w sv y.rd) (hR : ∀ k, sv.ownBlock = some k → R k) :
    RefW R ((w.setCell ⟨g, i * 2, none⟩ sv).setCell ⟨g, i * 2 + 1, none⟩ (.int .i64 y.wr)) (.slice (some ⟨g, 0, none⟩) n cap) (ls.set i y) := by
  obtain ⟨g', cap', cur, e, hr, hg, h1, h2, h3, h4⟩ := h
  simp only [Value.slice.injEq, Option.some.injEq, Addr.mk.injEq, and_true] at e
  obtain ⟨rfl, rfl, rfl⟩ := e
  have far : ∀ k, k ≠ g → ((w.setCell ⟨g, i * 2, none⟩ sv).setCell ⟨g, i * 2 + 1, none⟩ (.int .i64 y.wr)).heap[k]? = w.heap[k]? := fun k hk => (Below.heap_setCell _ _ _ _ hk).trans (Below.heap_setCell _ _ _ _ hk)
  have row : ∀ {v : Value} {xs : List Int}, CutR w v xs → ∀ k, v.ownBlock = some k → k ≠ g := fun hv k hk e => by
    obtain ⟨c2, hc2⟩ := hv.type k hk
    rw [e, hg] at hc2
    simp only [Option.some.injEq, Obj.cells.injEq] at hc2
    have := hc2.2.1
    revert this; decide
  refine ⟨g, cap, (cur.set! (i * 2) sv).set! (i * 2 + 1) (.int .i64 y.wr), by rw [List.length_set], hr, ?_, by rw [List.length_set]; exact h1, h2, by simpa using h3, fun j x hx => ?_⟩
  · simp only [World.setCell, Array.getElem?_modify, hg]
    simp
  · simp only [Array.set!_eq_setIfInBounds]
    rw [List.getElem?_set] at hx
    by_cases e : i = j
    · subst e
      rw [if_pos rfl, if_pos hi] at hx
      simp only [Option.some.injEq] at hx
      subst hx
      refine ⟨?_, sv, ?_, hy.kept (fun k hk => far k (row hy k hk)), hR⟩
      · rw [Array.getElem?_setIfInBounds_self_of_lt (by simp; omega)]
      · rw [Array.getElem?_setIfInBounds_ne (by omega), Array.getElem?_setIfInBounds_self_of_lt (by omega)]
    · rw [if_neg e] at hx
      obtain ⟨a, sv2, b, c, d⟩ := h4 j x hx
      refine ⟨?_, sv2, ?_, c.kept (fun k hk => far k (row c k hk)), d⟩
      · rw [Array.getElem?_setIfInBounds_ne (by omega), Array.getElem?_setIfInBounds_ne (by omega)]; exact a
      · rw [Array.getElem?_setIfInBounds_ne (by omega), Array.getElem?_setIfInBounds_ne (by omega)]; exact b
theorem RefW.free {R : Nat → Prop} {w : World} {g n cap : Nat} {ls : List Lk} (h : RefW R w (.slice (some ⟨g, 0, none⟩) n cap) ls) (j : Nat) : w.frozen? ⟨g, j, none⟩ = false := by
  obtain ⟨g', cap', cur, e, hr, hg, _⟩ := h
  simp only [Value.slice.injEq, Option.some.injEq, Addr.mk.injEq, and_true] at e
  obtain ⟨rfl, _, _⟩ := e
  simp [World.frozen?, hg]
/-- append of all of it to an empty row. -/
theorem wpR_appL {ops : Array Oper} {rest : List Oper} {o : Oper} {a : Act} {w : World} {Q : Exit → Act → World → Prop} (hgd : o.guard = none) (s x : Operand)
    (ho : o.op = .call { callee := .builtin .append, args := #[s, x], argTypes := #[28, 28] }) (n2 : Nat) (hs : a.eval s = .slice (some ⟨n2, 0, none⟩) 0 0) (hown : w.ownsRow n2 108 2 (.slice (some ⟨n2, 0, none⟩) 0 0) 0 [])
    (g cap : Nat) (ls : List Lk) (R : Nat → Prop) (hx : a.eval x = .slice (some ⟨g, 0, none⟩) ls.length cap) (hR : RefW R w (.slice (some ⟨g, 0, none⟩) ls.length cap) ls) (hl : ls.length ≤ 64) (h0 : ls ≠ []) (hb : n2 ≤ w.heap.size) (hRn : ∀ k, R k → k < n2)
    (K : ∀ g3 cap3 w3, n2 ≤ g3 → RefW (fun k => R k ∨ k = g3) w3 (.slice (some ⟨g3, 0, none⟩) ls.length cap3) ls → w.grownBy w3 (some n2) → wpList Try.prog ops Q rest (a.put o.dst (.slice (some ⟨g3, 0, none⟩) ls.length cap3)) w3) : wpList Try.prog ops Q (o :: rest) a w := by
  obtain ⟨i0, hi, hz0, hz1, hz2⟩ := info_parts infoLk
  have hpos : 0 < ls.length := List.length_pos_iff.2 h0
  have hRR := hR
  obtain ⟨g', cap', cur, e, hr, hg, h1, h2, h3, h4⟩ := hR
  simp only [Value.slice.injEq, Option.some.injEq, Addr.mk.injEq, and_true, true_and] at e
  obtain ⟨rfl, rfl⟩ := e
  have hlen : (cur.toList.take (ls.length * 2)).length = ls.length * 2 := by simp; omega
  have hone : ∀ u ∈ cur.toList.take (ls.length * 2), u.oneCell' = true := by
    intro u hu
    obtain ⟨j, hj⟩ := List.getElem?_of_mem hu
    have hj2 : j < ls.length * 2 := by rw [← hlen]; exact (List.getElem?_eq_some_iff.1 hj).1
    rw [List.getElem?_take, if_pos hj2, Array.getElem?_toList] at hj
    have hjl : j / 2 < ls.length := by omega
    obtain ⟨q1, sv, q2, q3, _⟩ := h4 (j / 2) _ (List.getElem?_eq_getElem hjl)
    by_cases hp : j % 2 = 0
    · rw [show j / 2 * 2 = j by omega] at q2
      rw [q2] at hj
      simp only [Option.some.injEq] at hj
      subst hj
      obtain ⟨ao, cp, e, _⟩ := q3.form
      rw [e]; rfl
    · rw [show j / 2 * 2 + 1 = j by omega] at q1
      rw [q1] at hj
      simp only [Option.some.injEq] at hj
      subst hj
      rfl
  refine wpList_append_own _ hgd s x 28 ho n2 108 i0 (.agg #[.slice none 0 0, .int .i64 0]) 2 32 Try.underlying28 hi hz0 hz1 hz2 rfl (by decide) _ 0 [] hs hown ⟨g, 0, none⟩ ls.length cap (cur.toList.take (ls.length * 2)) hx hlen (fun j u hu => ?_) hone (by unfold maxLen; omega) (by omega) hb ?_
  · rw [List.getElem?_take] at hu
    split at hu
    · rw [add_lit, Nat.zero_add, cell_of_row w g j cur _ _ hg]
      simpa using hu
    · cases hu
  · intro v' w3 ho3 hg3 _
    rcases ho3.2 with ⟨_, h1'⟩ | ⟨g3, cap3, cur3, e3, k2, k3, k4, k5, k6, k7⟩
    · exact absurd h1' (by omega)
    · simp only [Nat.zero_add, List.nil_append] at e3 k4 k7 k6
      subst e3
      have same : ∀ j, j < ls.length * 2 → cur3[j]? = cur[j]? := fun j hj => by
        have h8 := congrArg (fun l => l[j]?) k7
        simp only [List.getElem?_take, if_pos hj, Array.getElem?_toList] at h8
        exact h8
      refine K g3 cap3 w3 k2 ⟨g3, cap3, cur3, rfl, .inr rfl, k3, k4, k5, k6, fun i x hx => ?_⟩ hg3
      have hil := (List.getElem?_eq_some_iff.1 hx).1
      obtain ⟨a, sv, b, c, d⟩ := h4 i x hx
      refine ⟨by rw [same _ (by omega)]; exact a, sv, by rw [same _ (by omega)]; exact b, c.kept (fun k hk => hg3.block k (c.lt k hk) (fun e => ?_)), fun k hk => .inl (d k hk)⟩
      have := hRn k (d k hk)
      have e' : k = n2 := Option.some.inj e
      omega
end Go.Proofs.Ytedllkahalfjgaa
