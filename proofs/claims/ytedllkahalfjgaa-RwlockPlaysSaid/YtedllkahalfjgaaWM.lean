/- Locks in memory: rows of readers, cut at the front; the list; what turns of it. -/
import Derived.Test.YtedllkahalfjgaaWPl
import Derived.ArgAppend
import Derived.Laws.CopyRow
namespace Go.Proofs.Ytedllkahalfjgaa
open Go Go.RowKit

theorem flat_get {α β : Type} (f : α → List β) (k : Nat) (hf : ∀ x, (f x).length = k) : ∀ (l : List α) (i j : Nat), j < k → (l.flatMap f)[i * k + j]? = (l[i]?).bind fun x => (f x)[j]?
  | [], i, j, _ => by simp
  | x :: l, 0, j, hj => by
    simp only [List.flatMap_cons, Nat.zero_mul, Nat.zero_add]
    rw [List.getElem?_append_left (by rw [hf]; exact hj)]
    simp
  | x :: l, i + 1, j, hj => by
    simp only [List.flatMap_cons]
    rw [List.getElem?_append_right (by rw [hf, Nat.add_mul]; omega), hf, show (i + 1) * k + j - k = i * k + j by rw [Nat.add_mul]; omega, flat_get f k hf l i j hj]
    simp
theorem flat_len {α β : Type} (f : α → List β) (k : Nat) (hf : ∀ x, (f x).length = k) : ∀ l : List α, (l.flatMap f).length = l.length * k
  | [] => by simp
  | x :: l => by simp only [List.flatMap_cons, List.length_append, hf, flat_len f k hf l, List.length_cons, Nat.add_mul]; omega
theorem flat_set {α β : Type} (f : α → List β) (k : Nat) (hf : ∀ x, (f x).length = k) (l : List α) (i j : Nat) (hj : j < k) (u : β) (y : α) (hy : ∀ x, l[i]? = some x → f y = (f x).set j u) : (l.flatMap f).set (i * k + j) u = (l.set i y).flatMap f := by
  have key : ∀ (l : List α) (i : Nat), (∀ x, l[i]? = some x → f y = (f x).set j u) → (l.flatMap f).set (i * k + j) u = (l.set i y).flatMap f := by
    intro l
    induction l with
    | nil => intro i _; simp
    | cons x l ih =>
      intro i h
      cases i with
      | zero =>
        simp only [List.flatMap_cons, Nat.zero_mul, Nat.zero_add, List.set_cons_zero]
        rw [List.set_append_left _ _ (by rw [hf]; exact hj), h x rfl]
      | succ i =>
        simp only [List.flatMap_cons, List.set_cons_succ]
        rw [List.set_append_right _ _ (by rw [hf, Nat.add_mul]; omega), hf, show (i + 1) * k + j - k = i * k + j by rw [Nat.add_mul]; omega, ih i (fun z hz => h z (by simpa using hz))]
  exact key l i hy
theorem add_lit (g k j : Nat) : (⟨g, k, none⟩ : Addr).add j = ⟨g, k + j, none⟩ := by unfold Addr.add; split <;> simp_all

/-! ### a row of readers -/
abbrev intV (x : Int) : Value := .int .i64 x
def CutR (w : World) (v : Value) (xs : List Int) : Prop :=
  (v = .slice none 0 0 ∧ xs = []) ∨ ∃ g k cap cur, v = .slice (some ⟨g, k, none⟩) xs.length cap ∧ w.heap[g]? = some (.cells cur 3 (0, 0)) ∧ k + cap ≤ cur.size ∧ xs.length ≤ cap ∧ cap ≤ maxLen ∧ (cur.toList.drop k).take xs.length = xs.map intV
theorem CutR.nil (w : World) : CutR w (.slice none 0 0) [] := .inl ⟨rfl, rfl⟩
theorem CutR.lt {w : World} {v : Value} {xs : List Int} (h : CutR w v xs) : ∀ g, v.ownBlock = some g → g < w.heap.size := by
  intro g hg
  rcases h with ⟨rfl, _⟩ | ⟨g', k, cap, cur, rfl, hh, _⟩
  · cases hg
  · simp only [Value.ownBlock, Option.some.injEq] at hg
    subst hg
    exact (Array.getElem?_eq_some_iff.1 hh).1
/-- The block of it is of ints. -/
theorem CutR.type {w : World} {v : Value} {xs : List Int} (h : CutR w v xs) : ∀ g, v.ownBlock = some g → ∃ cur, w.heap[g]? = some (.cells cur 3 (0, 0)) := by
  intro g hg
  rcases h with ⟨rfl, _⟩ | ⟨g', k, cap, cur, rfl, hh, _⟩
  · cases hg
  · simp only [Value.ownBlock, Option.some.injEq] at hg
    subst hg
    exact ⟨cur, hh⟩
theorem CutR.form {w : World} {v : Value} {xs : List Int} (h : CutR w v xs) : ∃ ao cap, v = .slice ao xs.length cap ∧ xs.length ≤ cap ∧ cap ≤ maxLen := by
  rcases h with ⟨rfl, rfl⟩ | ⟨g', k, cap, cur, rfl, hh, h1, h2, h3, h4⟩
  · exact ⟨none, 0, rfl, Nat.le_refl _, Nat.zero_le _⟩
  · exact ⟨_, cap, rfl, h2, h3⟩
theorem CutR.kept {w w' : World} {v : Value} {xs : List Int} (h : CutR w v xs) (hb : ∀ g, v.ownBlock = some g → w'.heap[g]? = w.heap[g]?) : CutR w' v xs := by
  rcases h with h | ⟨g', k, cap, cur, rfl, hh, r⟩
  · exact .inl h
  · exact .inr ⟨g', k, cap, cur, rfl, (hb g' rfl).trans hh, r⟩
theorem CutR.adds {w w' : World} {v : Value} {xs : List Int} (h : CutR w v xs) (ha : Adds w w') : CutR w' v xs := h.kept fun g hg => ha.block g (h.lt g hg)
theorem CutR.of_own {w : World} {base : Nat} {v : Value} {n : Nat} {xs : List Int} (h : w.ownsRow base 3 1 v n (xs.map intV)) : CutR w v xs := by
  obtain ⟨h1, h2⟩ := h
  have hl : n = xs.length := by simpa using h1.symm
  subst hl
  rcases h2 with ⟨rfl, h0⟩ | ⟨g, cap, cur, rfl, _, hh, h3, h4, h5, h6⟩
  · exact .inl ⟨rfl, List.length_eq_zero_iff.1 h0⟩
  · exact .inr ⟨g, 0, cap, cur, rfl, hh, by simp at h5; omega, h3, h4, by simpa using h6⟩
theorem CutR.cells {w : World} {g k n cap : Nat} {xs : List Int} (h : CutR w (.slice (some ⟨g, k, none⟩) n cap) xs) : n = xs.length ∧ ∀ j x, xs[j]? = some x → w.cell? ⟨g, k + j, none⟩ = some (intV x) := by
  rcases h with ⟨h, _⟩ | ⟨g', k', cap', cur, e, hh, h1, h2, h3, h4⟩
  · cases h
  · simp only [Value.slice.injEq, Option.some.injEq, Addr.mk.injEq, and_true] at e
    obtain ⟨⟨rfl, rfl⟩, rfl, rfl⟩ := e
    refine ⟨rfl, fun j x hx => ?_⟩
    have hj : j < xs.length := (List.getElem?_eq_some_iff.1 hx).1
    rw [cell_of_row w g (k + j) cur _ _ hh]
    have := congrArg (fun l => l[j]?) h4
    simp only [List.getElem?_take, hj, if_true, List.getElem?_drop, List.getElem?_map, hx, Option.map_some] at this
    simpa using this
/-- Where there are any, where they lie. -/
theorem CutR.some {w : World} {v : Value} {xs : List Int} (h : CutR w v xs) (h0 : xs ≠ []) : ∃ g k cap, v = .slice (some ⟨g, k, none⟩) xs.length cap ∧ xs.length ≤ cap ∧ cap ≤ maxLen := by
  rcases h with ⟨rfl, e⟩ | ⟨g', k, cap, cur, rfl, hh, h1, h2, h3, h4⟩
  · exact absurd e h0
  · exact ⟨g', k, cap, rfl, h2, h3⟩
theorem infoI : (Try.prog.info? 3).map (fun i => (i.zero, i.size, i.bytes)) = some (some (.int .i64 0), 1, 8) := by kernel_rfl
/-- append of one. -/
theorem run_app1 {w : World} {v : Value} {xs : List Int} (ty : TypeId) (h : CutR w v xs) (hl : xs.length ≤ 1000000) (b c : Nat) (x : Int) (hc : w.cell? ⟨b, 0, none⟩ = some (intV x)) :
    ∃ v' w', (Builtin.append_ #[41, 41] ty #[v, .slice (some ⟨b, 0, none⟩) 1 c]).run Try.prog w = .ok v' w' ∧ CutR w' v' (xs ++ [x]) ∧ w.grownBy w' v.ownBlock ∧ (∀ g, v'.ownBlock = some g → v.ownBlock = some g ∨ w.heap.size ≤ g) := by
  obtain ⟨i0, hi, hz, hs, hb⟩ := info_parts infoI
  have hnew : ∀ j u, [intV x][j]? = some u → w.cell? (Addr.add ⟨b, 0, none⟩ j) = some u := by
    intro j u hu
    cases j with
    | zero => simp only [List.getElem?_cons_zero, Option.some.injEq] at hu; subst hu; rw [add_lit]; exact hc
    | succ j => simp at hu
  rcases h with ⟨rfl, rfl⟩ | ⟨g, k, cap, cur, rfl, hh, h1, h2, h3, h4⟩
  · obtain ⟨v', w', hr, ho, hg, _⟩ := run_append_own (P := Try.prog) w w.heap.size 41 ty 3 i0 _ 1 8 Try.underlying41 hi hz hs hb rfl (by decide) (.slice none 0 0) 0 [] (World.ownsRow_nil _ _ _ _) ⟨b, 0, none⟩ 1 c [intV x] rfl hnew
      (by intro u hu; rw [List.mem_singleton.1 hu]; rfl) (by unfold maxLen; omega) (by omega) (Nat.le_refl _)
    refine ⟨v', w', hr, CutR.of_own (n := 0 + 1) (by simpa using ho), hg, fun g hg' => .inr (ho.lt g hg').1⟩
  · by_cases hroom : xs.length + 1 ≤ cap
    · have hcell : (w.cell? ⟨g, k + xs.length * i0.size, none⟩).isSome = true := by
        rw [hs, Nat.mul_one, cell_of_row w g _ cur _ _ hh, Array.getElem?_eq_getElem (by omega)]
        rfl
      have hr := run_append_room_cells (P := Try.prog) w 41 ty 3 i0 Try.underlying41 hi g k xs.length cap ⟨b, 0, none⟩ 1 c [intV x] (by rw [hs]; rfl) hnew (by intro u hu; rw [List.mem_singleton.1 hu]; rfl) hroom
        (by intro j hj; simp at hj; subst hj; simpa using hcell) (by intro j hj; simp [World.frozen?, hh])
      refine ⟨_, _, hr, ?_, ?_, fun g' hg' => .inl (by simpa [Value.ownBlock] using hg')⟩
      · refine .inr ⟨g, k, cap, cur.set! (k + xs.length) (intV x), ?_, ?_, by simpa using h1, by simpa using hroom, h3, ?_⟩
        · simp
        · simp only [World.setCells, hs, Nat.mul_one, World.setCell, Array.getElem?_modify, hh]
          simp
        · apply List.ext_getElem?
          intro j
          have e4 := congrArg (fun l => l[j]?) h4
          simp only [List.getElem?_take, List.getElem?_drop, List.getElem?_map, Array.getElem?_toList, List.length_append, List.length_singleton, Array.set!_eq_setIfInBounds, Array.getElem?_setIfInBounds, List.getElem?_append] at e4 ⊢
          by_cases hj : j < xs.length
          · rw [if_pos hj] at e4
            rw [if_pos (by omega), if_neg (by omega), if_pos hj]
            exact e4
          · by_cases hj2 : j = xs.length
            · subst hj2
              rw [if_pos (by omega), if_pos rfl, if_pos (by omega), if_neg (by omega)]
              simp
            · rw [if_neg (by omega), if_neg (by omega), List.getElem?_eq_none (by simp; omega)]
              rfl
      · simp only [World.setCells, hs, Nat.mul_one]
        exact ⟨rfl, rfl, rfl, by simp [World.setCell], fun q _ hq => Below.heap_setCell w _ _ _ (fun e => hq (by rw [e]; rfl))⟩
    · have hold : CutR w (.slice (some ⟨g, k, none⟩) xs.length cap) xs := .inr ⟨g, k, cap, cur, rfl, hh, h1, h2, h3, h4⟩
      obtain ⟨v', w', hr, ho, hg⟩ := run_append_arg_grows (P := Try.prog) w 41 ty 3 i0 _ 1 8 Try.underlying41 hi hz hs hb rfl (by decide) ⟨g, k, none⟩ xs.length cap (xs.map intV) (by simp) (fun j u hu => by
          rw [List.getElem?_map] at hu
          obtain ⟨x', hx', rfl⟩ := Option.map_eq_some_iff.1 hu
          rw [add_lit]
          exact hold.cells.2 j x' hx') ⟨b, 0, none⟩ 1 c [intV x] rfl hnew (by omega) (by unfold maxLen; omega) (by omega)
      refine ⟨v', w', hr, CutR.of_own (n := xs.length + 1) (by simpa using ho), ⟨hg.os, hg.tape, hg.output, hg.size, fun q hq _ => hg.block q hq (by simp)⟩, fun g hg' => .inr (ho.lt g hg').1⟩
theorem wpR_app1 {w : World} {ops : Array Oper} {rest : List Oper} {o : Oper} {a : Act} {Q : Exit → Act → World → Prop} (hgd : o.guard = none) (s x : Operand)
    (ho : o.op = .call { callee := .builtin .append, args := #[s, x], argTypes := #[41, 41] }) (v : Value) (xs : List Int) (b c : Nat) (y : Int) (hs : a.eval s = v) (hx : a.eval x = .slice (some ⟨b, 0, none⟩) 1 c)
    (hown : CutR w v xs) (hl : xs.length ≤ 1000000) (hc : w.cell? ⟨b, 0, none⟩ = some (intV y))
    (h : ∀ v' w', CutR w' v' (xs ++ [y]) → w.grownBy w' v.ownBlock → (∀ g, v'.ownBlock = some g → v.ownBlock = some g ∨ w.heap.size ≤ g) → wpList Try.prog ops Q rest (a.put o.dst v') w') : wpList Try.prog ops Q (o :: rest) a w := by
  refine wpList_plain hgd fun K' hK' => ?_
  obtain ⟨v', w', hrun, h1, h2, h3⟩ := run_app1 o.type hown hl b c y hc
  unfold Oper.wp
  simp [execOp, ho, resolve, invoke, builtin, hs, hx, hrun, Result.andThen]
  exact hK' _ _ (h v' w' h1 h2 h3)
end Go.Proofs.Ytedllkahalfjgaa
