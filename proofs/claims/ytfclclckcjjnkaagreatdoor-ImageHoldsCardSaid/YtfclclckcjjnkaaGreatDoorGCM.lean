/- Merged: GC1, GC2, GC3, M9. -/
import Derived.Test.YtfclclckcjjnkaaGreatDoorGMem
import Derived.Test.YtfclclckcjjnkaaGreatDoorIR4
import Derived.Maps.AppendAt
namespace Go.Proofs.YtfclclckcjjnkaaGreatDoor
open Go Go.RowKit Go.Shelf

theorem flat_get {α β : Type} (f : α → List β) (k : Nat) (hf : ∀ x, (f x).length = k) : ∀ (l : List α) (i j : Nat), j < k → (l.flatMap f)[i * k + j]? = (l[i]?).bind fun x => (f x)[j]?
  | [], i, j, _ => by simp
  | x :: l, 0, j, hj => by
    simp only [List.flatMap_cons, Nat.zero_mul, Nat.zero_add]
    rw [List.getElem?_append_left (by rw [hf]; exact hj)]
    simp
  | x :: l, i + 1, j, hj => by
    simp only [List.flatMap_cons]
    rw [List.getElem?_append_right (by rw [hf, Nat.add_mul]; omega), hf, show (i + 1) * k + j - k = i * k + j by rw [Nat.add_mul]; omega, flat_get f k hf l i j hj]
    simp
theorem flat_len {α β : Type} (f : α → List β) (k : Nat) (hf : ∀ x, (f x).length = k) : ∀ l : List α, (l.flatMap f).length = l.length * k
  | [] => by simp
  | x :: l => by simp only [List.flatMap_cons, List.length_append, hf, flat_len f k hf l, List.length_cons, Nat.add_mul]; omega
theorem flat_set {α β : Type} (f : α → List β) (k : Nat) (hf : ∀ x, (f x).length = k) (l : List α) (i j : Nat) (hj : j < k) (u : β) (y : α) (hy : ∀ x, l[i]? = some x → f y = (f x).set j u) : (l.flatMap f).set (i * k + j) u = (l.set i y).flatMap f := by
  have key : ∀ (l : List α) (i : Nat), (∀ x, l[i]? = some x → f y = (f x).set j u) → (l.flatMap f).set (i * k + j) u = (l.set i y).flatMap f := by
    intro l
    induction l with
    | nil => intro i _; simp
    | cons x l ih =>
      intro i h
      cases i with
      | zero =>
        simp only [List.flatMap_cons, Nat.zero_mul, Nat.zero_add, List.set_cons_zero]
        rw [List.set_append_left _ _ (by rw [hf]; exact hj), h x rfl]
      | succ i =>
        simp only [List.flatMap_cons, List.set_cons_succ]
        rw [List.set_append_right _ _ (by rw [hf, Nat.add_mul]; omega), hf, show (i + 1) * k + j - k = i * k + j by rw [Nat.add_mul]; omega, ih i (fun z hz => h z (by simpa using hz))]
  exact key l i hy
/-- An own row, one cell of which is written. -/
theorem ownsRow_set {w : World} {base : Nat} {e : TypeId} {size n g cap : Nat} {xs : List Value} (h : w.ownsRow base e size (.slice (some ⟨g, 0, none⟩) n cap) n xs) (j : Nat) (u : Value) : (w.setCell ⟨g, j, none⟩ u).ownsRow base e size (.slice (some ⟨g, 0, none⟩) n cap) n (xs.set j u) := by
  obtain ⟨h1, h2⟩ := h
  refine ⟨by simpa using h1, ?_⟩
  rcases h2 with ⟨h2, _⟩ | ⟨g', cap', cur, hv, hg, hh, h3, h4, h5, h6⟩
  · cases h2
  · simp only [Value.slice.injEq, Option.some.injEq, Addr.mk.injEq, and_true, true_and] at hv
    obtain ⟨rfl, rfl⟩ := hv
    refine Or.inr ⟨g, cap, cur.set! j u, rfl, hg, ?_, h3, h4, by simpa using h5, ?_⟩
    · simp only [World.setCell, Array.getElem?_modify, hh]
      simp
    · rw [← h6]
      simp [List.take_set]
/-- And of any row, of which one cell is written anywhere: a row still. -/
theorem ownsRow_any {w : World} {base : Nat} {e : TypeId} {size n : Nat} {v : Value} {xs : List Value} (h : w.ownsRow base e size v n xs) (b j : Nat) (u : Value) : ∃ ys, (w.setCell ⟨b, j, none⟩ u).ownsRow base e size v n ys := by
  obtain ⟨h1, h2⟩ := h
  rcases h2 with ⟨h2, h3⟩ | ⟨g, cap, cur, hv, hg, hh, h3, h4, h5, h6⟩
  · exact ⟨xs, h1, Or.inl ⟨h2, h3⟩⟩
  · by_cases hb : b = g
    · subst hb
      refine ⟨xs.set j u, by simpa using h1, Or.inr ⟨b, cap, cur.set! j u, hv, hg, ?_, h3, h4, by simpa using h5, ?_⟩⟩
      · simp only [World.setCell, Array.getElem?_modify, hh]
        simp
      · rw [← h6]
        simp [List.take_set]
    · exact ⟨xs, h1, Or.inr ⟨g, cap, cur, hv, hg, by rw [Below.heap_setCell _ _ _ _ (fun e => hb e.symm)]; exact hh, h3, h4, h5, h6⟩⟩
/-- The block of an own row may be written. -/
theorem ownsRow_free {w : World} {base : Nat} {e : TypeId} {size n g cap : Nat} {xs : List Value} (h : w.ownsRow base e size (.slice (some ⟨g, 0, none⟩) n cap) n xs) (j : Nat) : w.frozen? ⟨g, j, none⟩ = false := by
  rcases h.2 with ⟨h2, _⟩ | ⟨g', cap', cur, hv, hg, hh, _⟩
  · cases h2
  · simp only [Value.slice.injEq, Option.some.injEq, Addr.mk.injEq, and_true, true_and] at hv
    obtain ⟨rfl, rfl⟩ := hv
    simp [World.frozen?, hh]
theorem Adds.cellP {w w' : World} (h : Adds w w') {p : Addr} {v : Value} (hc : w.cell? p = some v) : w'.cell? p = some v :=
  (World.cell?_of_block (h.block p.block (World.block_lt_of_cell? w _ hc))).trans hc
theorem ownsRow_adds {w w' : World} {base : Nat} {e : TypeId} {size n : Nat} {v : Value} {xs : List Value} (h : w.ownsRow base e size v n xs) (ha : Adds w w') : w'.ownsRow base e size v n xs := by
  obtain ⟨h1, h2⟩ := h
  refine ⟨h1, ?_⟩
  rcases h2 with h2 | ⟨g, cap, cur, hv, hg, hh, r⟩
  · exact Or.inl h2
  · exact Or.inr ⟨g, cap, cur, hv, hg, (ha.block g (Array.getElem?_eq_some_iff.1 hh).1).trans hh, r⟩
/-- The block of an own row is of its elements' type. -/
theorem ownsRow_ne {w : World} {base base' : Nat} {e e' : TypeId} {size size' n n' : Nat} {v v' : Value} {xs xs' : List Value} (h : w.ownsRow base e size v n xs) (h' : w.ownsRow base' e' size' v' n' xs') (he : e ≠ e') (g : Nat) (hg : v.ownBlock = some g) : v'.ownBlock ≠ some g := by
  intro hg'
  rcases h.2 with ⟨rfl, _⟩ | ⟨k, cap, cur, rfl, _, hh, _⟩
  · cases hg
  · rcases h'.2 with ⟨rfl, _⟩ | ⟨k', cap', cur', rfl, _, hh', _⟩
    · cases hg'
    · simp only [Value.ownBlock, Option.some.injEq] at hg hg'
      subst hg hg'
      rw [hh] at hh'
      simp only [Option.some.injEq, Obj.cells.injEq] at hh'
      exact he hh'.2.1
theorem ownsRow_cell {w : World} {base : Nat} {e : TypeId} {size n g cap : Nat} {xs : List Value} (h : w.ownsRow base e size (.slice (some ⟨g, 0, none⟩) n cap) n xs) (j : Nat) {u : Value} (hu : xs[j]? = some u) : w.cell? ⟨g, j, none⟩ = some u := by
  have h' := h.cells (g := g) rfl j u hu
  have hadd : (⟨g, 0, none⟩ : Addr).add j = ⟨g, j, none⟩ := by unfold Addr.add; split <;> simp_all
  rwa [hadd] at h'

theorem insC_len (x : In) : (insC x).length = 5 := rfl
/-- A code in memory of the call's own. -/
def CodeO (n : Nat) (w : World) (v : Value) (c : List In) : Prop := w.ownsRow n 82 5 v c.length (c.flatMap insC)
theorem CodeO.code {n : Nat} {w : World} {v : Value} {c : List In} (h : CodeO n w v c) : CodeW w.heap.size w v c := by
  have H := h
  unfold CodeO at h
  obtain ⟨h1, h2⟩ := h
  rcases h2 with ⟨rfl, h0⟩ | ⟨g, cap, cur, rfl, hb, hh, h3, h4, _⟩
  · have hc : c = [] := by simpa using h0
    subst hc
    exact ⟨none, 0, rfl, by simp, by simp, fun h => absurd rfl h⟩
  · refine ⟨_, cap, rfl, h3, h4, fun _ => ⟨g, 0, rfl, (Array.getElem?_eq_some_iff.1 hh).1, fun i hi => ?_⟩⟩
    have key : ∀ j, j < 5 → ∀ u, (insC (c.getD i zI))[j]? = some u → w.cell? ⟨g, 0 + i * 5 + j, none⟩ = some u := by
      intro j hj u hu
      rw [Nat.zero_add]
      refine ownsRow_cell H (i * 5 + j) ?_
      rw [flat_get insC 5 insC_len c i j hj, List.getElem?_eq_getElem hi]
      rw [List.getD_eq_getElem?_getD, List.getElem?_eq_getElem hi] at hu
      exact hu
    exact ⟨key 0 (by decide) _ rfl, key 1 (by decide) _ rfl, key 2 (by decide) _ rfl, key 3 (by decide) _ rfl, key 4 (by decide) _ rfl⟩
/-- The cells of a code, where it stands. -/
theorem CodeW.cells {n : Nat} {w : World} {ad : Addr} {cap : Nat} {c : List In} (h : CodeW n w (.slice (some ad) c.length cap) c) : ∀ j u, (c.flatMap insC)[j]? = some u → w.cell? (ad.add j) = some u := by
  intro j u hu
  have hj : j < c.length * 5 := by
    have := (List.getElem?_eq_some_iff.1 hu).1
    rwa [flat_len insC 5 insC_len] at this
  have hi : j / 5 < c.length := by omega
  obtain ⟨g, off, e, _, h0, h1, h2, h3, h4⟩ := h.at hi
  simp only [Option.some.injEq] at e
  subst e
  rw [show j = j / 5 * 5 + j % 5 by omega, flat_get insC 5 insC_len c _ _ (by omega), List.getElem?_eq_getElem hi] at hu
  have hadd : (⟨g, off, none⟩ : Addr).add j = ⟨g, off + j / 5 * 5 + j % 5, none⟩ := by
    have : (⟨g, off, none⟩ : Addr).add j = ⟨g, off + j, none⟩ := by unfold Addr.add; split <;> simp_all
    rw [this, show off + j / 5 * 5 + j % 5 = off + j by omega]
  rw [hadd]
  rw [List.getD_eq_getElem?_getD, List.getElem?_eq_getElem hi] at h0 h1 h2 h3 h4
  have hm : j % 5 < 5 := by omega
  generalize j % 5 = m at *
  match m, hm with
  | 0, _ => simp at hu; subst hu; exact h0
  | 1, _ => simp at hu; subst hu; exact h1
  | 2, _ => simp at hu; subst hu; exact h2
  | 3, _ => simp at hu; subst hu; exact h3
  | 4, _ => simp at hu; subst hu; exact h4
theorem insC_one (c : List In) : ∀ u ∈ c.flatMap insC, u.oneCell' = true := by
  intro u hu
  obtain ⟨x, _, hx⟩ := List.mem_flatMap.1 hu
  simp only [insC, List.mem_cons, List.not_mem_nil, or_false] at hx
  rcases hx with rfl | rfl | rfl | rfl | rfl <;> rfl

/-- A row of functions: their registers, and their codes' slices. -/
abbrev zR : Int × Value := (0, undef)
abbrev fuC (x : Int × Value) : List Value := [.int .i64 x.1, x.2]
theorem fuC_len (x : Int × Value) : (fuC x).length = 2 := rfl
def RowO (n : Nat) (w : World) (v : Value) (r : List (Int × Value)) : Prop := w.ownsRow n 78 2 v r.length (r.flatMap fuC)
/-- What a program's copy is: a row of functions of the call's own, with the same registers, and the same codes, of the call's own. -/
def CopyO (n : Nat) (w : World) (v : Value) (fs : List Fu) : Prop :=
  ∃ r, RowO n w v r ∧ r.length = fs.length ∧ ∀ i, i < fs.length → (r.getD i zR).1 = (fs.getD i zF).1 ∧ CodeO n w (r.getD i zR).2 (fs.getD i zF).2
theorem CopyO.funcs {n : Nat} {w : World} {v : Value} {fs : List Fu} (h : CopyO n w v fs) (hok : ∀ f ∈ fs, ∀ x ∈ f.2, OkIn x) : FuncsW w.heap.size w v fs := by
  obtain ⟨r, hR, hl, hi⟩ := h
  have H := hR
  unfold RowO at hR
  obtain ⟨h1, h2⟩ := hR
  rcases h2 with ⟨rfl, h0⟩ | ⟨g, cap, cur, rfl, hb, hh, h3, h4, _⟩
  · have hc : fs = [] := by rw [hl] at h0; simpa using h0
    subst hc
    exact ⟨none, 0, rfl, by simp, by simp, fun h => absurd rfl h⟩
  · refine ⟨_, cap, by rw [hl], by omega, h4, fun _ => ⟨g, 0, rfl, (Array.getElem?_eq_some_iff.1 hh).1, fun i hlt => ?_⟩⟩
    have hri : i < r.length := by omega
    obtain ⟨e1, e2⟩ := hi i hlt
    have key : ∀ j, j < 2 → ∀ u, (fuC (r.getD i zR))[j]? = some u → w.cell? ⟨g, 0 + i * 2 + j, none⟩ = some u := by
      intro j hj u hu
      rw [Nat.zero_add]
      refine ownsRow_cell H (i * 2 + j) ?_
      rw [flat_get fuC 2 fuC_len r i j hj, List.getElem?_eq_getElem hri]
      rw [List.getD_eq_getElem?_getD, List.getElem?_eq_getElem hri] at hu
      exact hu
    refine ⟨?_, _, key 1 (by decide) _ rfl, e2.code, hok _ ?_⟩
    · have := key 0 (by decide) _ rfl
      rw [e1] at this
      exact this
    · rw [List.getD_eq_getElem?_getD, List.getElem?_eq_getElem hlt]
      exact List.getElem_mem hlt
end Go.Proofs.YtfclclckcjjnkaaGreatDoor
namespace Go.Proofs.YtfclclckcjjnkaaGreatDoor
open Go Go.RowKit Go.Shelf

theorem infoI5 : (Tryz.prog.info? 82).map (fun i => (i.zero, i.size, i.bytes)) = some (some (.agg #[.int .i64 0, .int .i64 0, .int .i64 0, .int .i64 0, .int .u32 0]), 5, 40) := by kernel_rfl
theorem infoF2 : (Tryz.prog.info? 78).map (fun i => (i.zero, i.size, i.bytes)) = some (some (.agg #[.int .i64 0, .slice none 0 0]), 2, 32) := by kernel_rfl

set_option maxRecDepth 100000 in
set_option maxHeartbeats 1000000 in
theorem clone_ins {n : Nat} (v : Value) (c : List In) (w : World) (hc : CodeW n w v c) (hl : c.length ≤ 1600) : Calls Tryz.prog 111 #[v] w fun e w' => ∃ v', e = .returned v' ∧ CodeO w.heap.size w' v' c ∧ Adds w w' := by
  have HC := Lib.hid hc
  obtain ⟨ao, cap, rfl, h1, h2, h3⟩ := hc
  cases ao with
  | none =>
    have hnil : c = [] := by
      apply Classical.byContradiction
      intro h
      obtain ⟨b, off, e, _⟩ := h3 h
      cases e
    clear h3
    have hq : ∀ W m, (binOp .eql 76 (.slice none m cap) (.slice none 0 0)).run Tryz.prog W = .ok (.bool true) W := fun W m => Lib.run_eql_slice_nil W _ 82 none _ _ _ _ (by kernel_rfl)
    go_enter Tryz.func111, Tryz.ntmps111
    go_wp2
    go_ret
    exact ⟨_, rfl, hnil ▸ World.ownsRow_nil _ _ _ _, Adds.refl _⟩
  | some ad =>
    clear h3
    obtain ⟨i0, hi, hz, hs, hb⟩ := info_parts infoI5
    have hq : ∀ W, (binOp .eql 76 (.slice (some ad) c.length cap) (.slice none 0 0)).run Tryz.prog W = .ok (.bool false) W := fun W => Lib.run_eql_slice_nil W _ 82 (some ad) _ _ _ _ (by kernel_rfl)
    have A1 := Lib.hid (Gr.new w (.cells #[] 82)).adds
    have HN := Lib.hid (HC.out.adds A1.out).cells
    obtain ⟨l, hl'⟩ : ∃ l, c.length = l := ⟨_, rfl⟩
    have HL := Lib.hid hl'
    have HB := Lib.hid hl
    simp only [hl'] at hq HC ⊢
    clear hl' hl h1 h2
    go_enter Tryz.func111, Tryz.ntmps111
    go_wp2_with (at_builtin; refine wpList_append_own _ rfl _ _ 76 rfl w.heap.size 82 i0 _ 5 40 (by kernel_rfl) hi hz hs hb rfl (by decide) _ _ _ rfl (World.ownsRow_made w #[] 0 (Nat.le_refl _) (Nat.zero_le _) (by simp)) ad l cap (c.flatMap insC) rfl (by rw [flat_len insC 5 insC_len, HL.out]) HN.out (insC_one c) (by have := HB.out; have := HL.out; simp only [maxLen]; omega) (by have := HB.out; have := HL.out; omega) (by simp) ?_; intro v5 w5 o5 b5 _; have O5 := Lib.hid o5; clear o5; have A5 := Lib.hid (show Adds w w5 from TnS.own A1.out (Nat.le_refl _) b5); clear b5)
    go_ret
    refine ⟨_, rfl, ?_, A5.out⟩
    have h := O5.out
    rw [Nat.zero_add, List.nil_append] at h
    unfold CodeO
    rw [HL.out]
    exact h
/-- The functions' cells, as a row. -/
theorem FuncsW.row {n : Nat} {w : World} {v : Value} {fs : List Fu} (h : FuncsW n w v fs) : ∃ r : List (Int × Value), r.length = fs.length ∧ (∀ i, i < fs.length → (r.getD i zR).1 = (fs.getD i zF).1 ∧ CodeW n w (r.getD i zR).2 (fs.getD i zF).2) ∧
    (∀ ad cap, v = .slice (some ad) fs.length cap → ∀ j u, (r.flatMap fuC)[j]? = some u → w.cell? (ad.add j) = some u) ∧ (∀ u ∈ r.flatMap fuC, u.oneCell' = true) := by
  obtain ⟨ao, cap, rfl, _, _, h3⟩ := h
  by_cases h0 : fs = []
  · subst h0
    exact ⟨[], rfl, fun i hi => by simp at hi, fun _ _ _ j u hu => by simp at hu, fun u hu => by simp at hu⟩
  · obtain ⟨g, off, rfl, hg, hat⟩ := h3 h0
    clear h3
    let P : Nat → Int × Value → Prop := fun i x => w.cell? ⟨g, off + i * 2, none⟩ = some (.int .i64 x.1) ∧ w.cell? ⟨g, off + i * 2 + 1, none⟩ = some x.2 ∧ x.1 = (fs.getD i zF).1 ∧ CodeW n w x.2 (fs.getD i zF).2
    obtain ⟨r, hrl, hr⟩ : ∃ r : List (Int × Value), r.length = fs.length ∧ ∀ i, i < fs.length → P i (r.getD i zR) := by
      have hex : ∀ i, i < fs.length → ∃ x, P i x := fun i hi => by
        obtain ⟨k0, u, k1, hc, _⟩ := hat i hi
        exact ⟨((fs.getD i zF).1, u), k0, k1, rfl, hc⟩
      classical
      let F : Nat → Int × Value := fun i => if h' : i < fs.length then (hex i h').choose else zR
      refine ⟨(List.range fs.length).map F, by simp, fun i hi => ?_⟩
      have e : ((List.range fs.length).map F).getD i zR = (hex i hi).choose := by simp [List.getD_eq_getElem?_getD, hi, F]
      rw [e]
      exact (hex i hi).choose_spec
    refine ⟨r, hrl, fun i hi => (hr i hi).2.2, ?_, ?_⟩
    · intro ad cap' e j u hu
      simp only [Value.slice.injEq, Option.some.injEq, true_and] at e
      obtain ⟨rfl, _⟩ := e
      have hj : j < r.length * 2 := by
        have := (List.getElem?_eq_some_iff.1 hu).1
        rwa [flat_len fuC 2 fuC_len] at this
      have hi : j / 2 < r.length := by omega
      obtain ⟨k0, k1, _, _⟩ := hr (j / 2) (by omega)
      rw [show j = j / 2 * 2 + j % 2 by omega, flat_get fuC 2 fuC_len r _ _ (by omega), List.getElem?_eq_getElem hi] at hu
      have hadd : (⟨g, off, none⟩ : Addr).add j = ⟨g, off + j / 2 * 2 + j % 2, none⟩ := by
        have : (⟨g, off, none⟩ : Addr).add j = ⟨g, off + j, none⟩ := by unfold Addr.add; split <;> simp_all
        rw [this, show off + j / 2 * 2 + j % 2 = off + j by omega]
      rw [hadd]
      rw [List.getD_eq_getElem?_getD, List.getElem?_eq_getElem hi] at k0 k1
      have hm : j % 2 < 2 := by omega
      generalize j % 2 = m at *
      match m, hm with
      | 0, _ => simp at hu; subst hu; exact k0
      | 1, _ => simp at hu; subst hu; exact k1
    · intro u hu
      obtain ⟨x, hx, hxu⟩ := List.mem_flatMap.1 hu
      simp only [fuC, List.mem_cons, List.not_mem_nil, or_false] at hxu
      obtain ⟨i, hi, rfl⟩ := List.mem_iff_getElem.1 hx
      rcases hxu with rfl | rfl
      · rfl
      · obtain ⟨_, _, _, hc⟩ := hr i (by omega)
        rw [List.getD_eq_getElem?_getD, List.getElem?_eq_getElem hi] at hc
        obtain ⟨_, _, e, _, _⟩ := hc.form
        simp only [Option.getD_some] at e
        rw [e]
        rfl
set_option maxRecDepth 100000 in
set_option maxHeartbeats 1000000 in
theorem clone_funcs {n : Nat} (v : Value) (fs : List Fu) (w : World) (hc : FuncsW n w v fs) (hl : fs.length ≤ 40) : Calls Tryz.prog 110 #[v] w fun e w' => ∃ v' r, e = .returned v' ∧ RowO w.heap.size w' v' r ∧ r.length = fs.length ∧ (∀ i, i < fs.length → (r.getD i zR).1 = (fs.getD i zF).1 ∧ CodeW n w (r.getD i zR).2 (fs.getD i zF).2) ∧ Adds w w' := by
  obtain ⟨r, hrl, hr1, hr2, hr3⟩ := hc.row
  have HC := Lib.hid hc
  have HR := Lib.hid hr1
  have H1 := Lib.hid hr3
  obtain ⟨ao, cap, rfl, h1, h2, h3⟩ := hc
  cases ao with
  | none =>
    have hnil : r = [] := by
      apply List.eq_nil_of_length_eq_zero
      rw [hrl]
      apply Classical.byContradiction
      intro h
      obtain ⟨b, off, e, _⟩ := h3 (by rintro rfl; exact h rfl)
      cases e
    have HRl := Lib.hid hrl
    clear h3 hr1 hr2 hr3 hrl
    have hq : ∀ W m, (binOp .eql 22 (.slice none m cap) (.slice none 0 0)).run Tryz.prog W = .ok (.bool true) W := fun W m => Lib.run_eql_slice_nil W _ 78 none _ _ _ _ (by kernel_rfl)
    go_enter Tryz.func110, Tryz.ntmps110
    go_wp2
    go_ret
    refine ⟨_, r, rfl, ?_, HRl.out, HR.out, Adds.refl _⟩
    rw [hnil]
    exact World.ownsRow_nil _ _ _ _
  | some ad =>
    obtain ⟨i0, hi, hz, hs, hb⟩ := info_parts infoF2
    have hq : ∀ W, (binOp .eql 22 (.slice (some ad) fs.length cap) (.slice none 0 0)).run Tryz.prog W = .ok (.bool false) W := fun W => Lib.run_eql_slice_nil W _ 78 (some ad) _ _ _ _ (by kernel_rfl)
    have A1 := Lib.hid (Gr.new w (.cells #[] 78)).adds
    have HN := Lib.hid (fun j u hu => Adds.cellP A1.out (hr2 ad cap rfl j u hu))
    obtain ⟨l, hl'⟩ : ∃ l, fs.length = l := ⟨_, rfl⟩
    have HL := Lib.hid hl'
    have HB := Lib.hid hl
    have HRl := Lib.hid hrl
    simp only [hl'] at hq HC ⊢
    clear hl' hl h1 h2 h3 hr1 hr2 hr3 hrl
    go_enter Tryz.func110, Tryz.ntmps110
    go_wp2_with (at_builtin; refine wpList_append_own _ rfl _ _ 22 rfl w.heap.size 78 i0 _ 2 32 (by kernel_rfl) hi hz hs hb rfl (by decide) _ _ _ rfl (World.ownsRow_made w #[] 0 (Nat.le_refl _) (Nat.zero_le _) (by simp)) ad l cap (r.flatMap fuC) rfl (by rw [flat_len fuC 2 fuC_len, HRl.out, HL.out]) HN.out H1.out (by have := HB.out; have := HL.out; simp only [maxLen]; omega) (by have := HB.out; have := HL.out; omega) (by simp) ?_; intro v5 w5 o5 b5 _; have O5 := Lib.hid o5; clear o5; have A5 := Lib.hid (show Adds w w5 from TnS.own A1.out (Nat.le_refl _) b5); clear b5)
    go_ret
    refine ⟨_, r, rfl, ?_, by rw [HRl.out, HL.out], fun i hi => HR.out i (by rw [HL.out]; exact hi), A5.out⟩
    have h := O5.out
    rw [Nat.zero_add, List.nil_append] at h
    unfold RowO
    rw [HRl.out, HL.out]
    exact h
end Go.Proofs.YtfclclckcjjnkaaGreatDoor
namespace Go.Proofs.YtfclclckcjjnkaaGreatDoor
open Go Go.RowKit Go.Shelf

theorem wp_calmC {P : Program} {c : Code} {Q : Exit → Act → World → Prop} {a : Act} {w : World} (h : c.wp P (Exit.then (Q .normal) (fun _ _ _ => False)) a w) : c.wp P Q a w :=
  Code.wp_mono (Q := Exit.then (Q .normal) (fun _ _ _ => False)) (fun e _ _ hq => by cases e <;> first | exact hq | exact hq.elim) h
/-- The loop's state: the first k codes are copied. -/
structure CopyK (B n0 : Nat) (v : Value) (fs : List Fu) (k : Nat) (w0 W : World) : Prop where
  adds : Adds w0 W
  row : ∃ r, RowO B W v r ∧ r.length = fs.length ∧ (∀ i, i < fs.length → (r.getD i zR).1 = (fs.getD i zF).1) ∧ (∀ i, i < k → i < fs.length → CodeO B W (r.getD i zR).2 (fs.getD i zF).2) ∧ (∀ i, k ≤ i → i < fs.length → CodeW n0 W (r.getD i zR).2 (fs.getD i zF).2)
theorem CodeO.adds {n : Nat} {w w' : World} {v : Value} {c : List In} (h : CodeO n w v c) (ha : Adds w w') : CodeO n w' v c := ownsRow_adds h ha
theorem RowO.adds {n : Nat} {w w' : World} {v : Value} {r : List (Int × Value)} (h : RowO n w v r) (ha : Adds w w') : RowO n w' v r := ownsRow_adds h ha
theorem CopyK.more {B n0 : Nat} {v : Value} {fs : List Fu} {k : Nat} {w0 W W' : World} (h : CopyK B n0 v fs k w0 W) (ha : Adds W W') (hn : n0 ≤ W.heap.size) : CopyK B n0 v fs k w0 W' := by
  obtain ⟨h1, r, h2, h3, h4, h5, h6⟩ := h
  exact ⟨h1.trans ha, r, h2.adds ha, h3, h4, fun i hk hi => (h5 i hk hi).adds ha, fun i hk hi => (h6 i hk hi).below (Below.mono ha hn)⟩
theorem RowO.at {n g cap : Nat} {w : World} {r : List (Int × Value)} (h : RowO n w (.slice (some ⟨g, 0, none⟩) r.length cap) r) {i : Nat} (hi : i < r.length) : w.cell? ⟨g, i * 2, none⟩ = some (.int .i64 (r.getD i zR).1) ∧ w.cell? ⟨g, i * 2 + 1, none⟩ = some (r.getD i zR).2 := by
  have key : ∀ j, j < 2 → ∀ u, (fuC (r.getD i zR))[j]? = some u → w.cell? ⟨g, i * 2 + j, none⟩ = some u := by
    intro j hj u hu
    refine ownsRow_cell h (i * 2 + j) ?_
    rw [flat_get fuC 2 fuC_len r i j hj, List.getElem?_eq_getElem hi]
    rw [List.getD_eq_getElem?_getD, List.getElem?_eq_getElem hi] at hu
    exact hu
  exact ⟨key 0 (by decide) _ rfl, key 1 (by decide) _ rfl⟩
/-- One code more. -/
theorem CopyK.step {B n0 g cap : Nat} {fs : List Fu} {k : Nat} {w0 W : World} {u : Value} (h : CopyK B n0 (.slice (some ⟨g, 0, none⟩) fs.length cap) fs k w0 W) (hk : k < fs.length) (hn : n0 ≤ B) (hw : w0.heap.size ≤ B) (hu : CodeO B W u (fs.getD k zF).2) :
    CopyK B n0 (.slice (some ⟨g, 0, none⟩) fs.length cap) fs (k + 1) w0 (W.setCell ⟨g, k * 2 + 1, none⟩ u) := by
  obtain ⟨h1, r, h2, h3, h4, h5, h6⟩ := h
  have hg : B ≤ g := (h2.lt g rfl).1
  have hT : (78 : TypeId) ≠ 82 := by decide
  have hrow : RowO B (W.setCell ⟨g, k * 2 + 1, none⟩ u) (.slice (some ⟨g, 0, none⟩) fs.length cap) (r.set k ((r.getD k zR).1, u)) := by
    unfold RowO at h2 ⊢
    rw [h3] at h2
    have h := ownsRow_set h2 (k * 2 + 1) u
    rw [flat_set fuC 2 fuC_len r k 1 (by decide) u ((r.getD k zR).1, u) (fun x hx => by rw [List.getD_eq_getElem?_getD, hx]; rfl)] at h
    rw [List.length_set, h3]
    exact h
  have hget : ∀ i, i ≠ k → (r.set k ((r.getD k zR).1, u)).getD i zR = r.getD i zR := fun i hi => by
    simp only [List.getD_eq_getElem?_getD]
    rw [List.getElem?_set_ne (fun e => hi e.symm)]
  have hgk : (r.set k ((r.getD k zR).1, u)).getD k zR = ((r.getD k zR).1, u) := by
    rw [List.getD_eq_getElem?_getD, List.getElem?_set_self (by omega)]; rfl
  refine ⟨Adds.set h1 (Nat.le_trans hw hg) _ _, _, hrow, by simpa using h3, ?_, ?_, ?_⟩
  · intro i hi
    by_cases e : i = k
    · subst e; rw [hgk]; exact h4 i hi
    · rw [hget i e]; exact h4 i hi
  · intro i hik hi
    by_cases e : i = k
    · subst e
      rw [hgk]
      exact ownsRow_setCell_other hu (ownsRow_ne h2 hu hT g rfl) u
    · rw [hget i e]
      exact ownsRow_setCell_other (h5 i (by omega) hi) (ownsRow_ne h2 (h5 i (by omega) hi) hT g rfl) u
  · intro i hik hi
    rw [hget i (by omega)]
    exact (h6 i (by omega) hi).below ⟨rfl, rfl, rfl, by simp [World.setCell], fun b hb => Below.heap_setCell W _ _ _ (fun e => by simp only at e; omega)⟩
theorem ownsRow_low {w : World} {base base' : Nat} {e : TypeId} {size n : Nat} {v : Value} {xs : List Value} (h : w.ownsRow base e size v n xs) (hb : base' ≤ base) : w.ownsRow base' e size v n xs := by
  obtain ⟨h1, h2⟩ := h
  refine ⟨h1, ?_⟩
  rcases h2 with h2 | ⟨g, cap, cur, hv, hg, hh, r⟩
  · exact Or.inl h2
  · exact Or.inr ⟨g, cap, cur, hv, by omega, hh, r⟩
theorem CopyK.start {B B' n0 : Nat} {v : Value} {fs : List Fu} {w0 W : World} {r : List (Int × Value)} (ha : Adds w0 W) (hr : RowO B' W v r) (hB : B ≤ B') (hl : r.length = fs.length) (hi : ∀ i, i < fs.length → (r.getD i zR).1 = (fs.getD i zF).1 ∧ CodeW n0 W (r.getD i zR).2 (fs.getD i zF).2) : CopyK B n0 v fs 0 w0 W :=
  ⟨ha, r, ownsRow_low hr hB, hl, fun i h => (hi i h).1, fun i h => absurd h (Nat.not_lt_zero i), fun i _ h => (hi i h).2⟩
theorem CopyK.form {B n0 : Nat} {v : Value} {fs : List Fu} {k : Nat} {w0 W : World} (h : CopyK B n0 v fs k w0 W) : ∃ ao cap, v = .slice ao fs.length cap ∧ cap ≤ maxLen ∧ (0 < fs.length → ∃ g, ao = some ⟨g, 0, none⟩ ∧ B ≤ g ∧ ∃ cur, W.heap[g]? = some (.cells cur 78 (0, 0))) := by
  obtain ⟨_, r, h2, h3, _⟩ := h
  rcases h2.2 with ⟨rfl, h0⟩ | ⟨g, cap, cur, rfl, hg, hh, _, hm, _⟩
  · rw [h3] at h0
    rw [h0]
    exact ⟨none, 0, rfl, by simp [maxLen], fun h => absurd h (Nat.lt_irrefl 0)⟩
  · rw [h3]
    exact ⟨_, cap, rfl, hm, fun _ => ⟨g, rfl, hg, cur, hh⟩⟩
theorem CopyK.done {B n0 : Nat} {v : Value} {fs : List Fu} {w0 W : World} (h : CopyK B n0 v fs fs.length w0 W) : CopyO B W v fs ∧ Adds w0 W := by
  obtain ⟨h1, r, h2, h3, h4, h5, h6⟩ := h
  exact ⟨⟨r, h2, h3, fun i hi => ⟨h4 i hi, h5 i hi hi⟩⟩, h1⟩
theorem CopyK.here {B n0 g cap : Nat} {fs : List Fu} {k : Nat} {w0 W : World} (h : CopyK B n0 (.slice (some ⟨g, 0, none⟩) fs.length cap) fs k w0 W) (hk : k < fs.length) : ∃ x u, W.cell? ⟨g, k * 2, none⟩ = some (.int .i64 x) ∧ W.cell? ⟨g, k * 2 + 1, none⟩ = some u ∧ W.frozen? ⟨g, k * 2 + 1, none⟩ = false ∧ CodeW n0 W u (fs.getD k zF).2 := by
  obtain ⟨h1, r, h2, h3, h4, h5, h6⟩ := h
  have h2' := h2
  rw [← h3] at h2'
  obtain ⟨k0, k1⟩ := h2'.at (i := k) (by omega)
  exact ⟨_, _, k0, k1, ownsRow_free h2' _, h6 k (Nat.le_refl _) hk⟩
theorem bks_ne {t t' : TypeId} {w : World} {b g : Nat} {l : List Value} {cur : Array Value} (h : BkS t w b l) (hg : w.heap[g]? = some (.cells cur t' (0, 0))) (ht : t ≠ t') : g ≠ b := by
  rintro rfl
  unfold BkS at h
  rw [h] at hg
  simp only [Option.some.injEq, Obj.cells.injEq] at hg
  exact ht hg.2.1
theorem CopyK.box {B n0 b : Nat} {v : Value} {fs : List Fu} {k : Nat} {w0 W : World} {l : List Value} (h : CopyK B n0 v fs k w0 W) (hb : BkS 24 W b l) (hw : w0.heap.size ≤ b) (hn : n0 ≤ b) (i : Nat) (u : Value) : CopyK B n0 v fs k w0 (W.setCell ⟨b, i, none⟩ u) := by
  obtain ⟨h1, r, h2, h3, h4, h5, h6⟩ := h
  have key : ∀ {e : TypeId} {size n : Nat} {v : Value} {xs : List Value}, W.ownsRow B e size v n xs → 24 ≠ e → v.ownBlock ≠ some b := by
    intro e size n v xs ho he hv
    rcases ho.2 with ⟨rfl, _⟩ | ⟨g, cap, cur, rfl, _, hh, _⟩
    · cases hv
    · simp only [Value.ownBlock, Option.some.injEq] at hv
      exact bks_ne hb hh he hv
  refine ⟨Adds.set h1 hw _ _, r, ownsRow_setCell_other h2 (key h2 (by decide)) u, h3, h4, fun i hk hi => ownsRow_setCell_other (h5 i hk hi) (key (h5 i hk hi) (by decide)) u, fun i hk hi => (h6 i hk hi).below ⟨rfl, rfl, rfl, by simp [World.setCell], fun b hb => Below.heap_setCell W _ _ _ (fun e => by simp only at e; omega)⟩⟩
theorem CodeO.low {n m : Nat} {w : World} {v : Value} {c : List In} (h : CodeO n w v c) (hm : m ≤ n) : CodeO m w v c := ownsRow_low h hm
theorem CopyK.block {B n0 g cap : Nat} {fs : List Fu} {k : Nat} {w0 W : World} (h : CopyK B n0 (.slice (some ⟨g, 0, none⟩) fs.length cap) fs k w0 W) (hk : k < fs.length) : ∃ cur, W.heap[g]? = some (.cells cur 78 (0, 0)) := by
  obtain ⟨_, _, e, _, h3⟩ := h.form
  simp only [Value.slice.injEq, true_and] at e
  obtain ⟨rfl, rfl⟩ := e
  obtain ⟨g', e, _, h⟩ := h3 (by omega)
  simp only [Option.some.injEq, Addr.mk.injEq, and_true] at e
  rw [e]
  exact h
set_option maxRecDepth 100000 in
set_option maxHeartbeats 4000000 in
theorem copy_any {n : Nat} (u : Value) (p : Pg) (w : World) (hf : FuncsW n w u p.1) (hn : n ≤ w.heap.size) (hl : p.1.length ≤ 40) (hc : ∀ f ∈ p.1, f.2.length ≤ 1600) : Calls Tryz.prog 69 #[pgV u p] w fun e w' => ∃ v', e = .returned (pgV v' p) ∧ CopyO w.heap.size w' v' p.1 ∧ Adds w w' := by
  obtain ⟨fs, x1, x2, x3⟩ := p
  simp only at hf hl hc ⊢
  have HF := Lib.hid hf
  have HC := Lib.hid hc
  have HN := Lib.hid hn
  have HL := Lib.hid hl
  obtain ⟨ao, cap, rfl, _, _, _⟩ := hf
  obtain ⟨fl, hfl⟩ : ∃ fl, fs.length = fl := ⟨_, rfl⟩
  have HFl := Lib.hid hfl
  simp only [hfl] at HF ⊢
  have hfI : (fl : Int) ≤ 40 := by omega
  clear hfl hl hc hn
  obtain ⟨w1, hw1⟩ : ∃ w1, w.alloc (.cells #[.slice ao fl cap, .int .i64 x1, .int .i64 x2, .int .i64 x3] 24) = w1 := ⟨_, rfl⟩
  have A1 := Lib.hid (show Adds w w1 by rw [← hw1]; exact (Gr.new _ _).adds)
  have B1 := Lib.hid (show BkS 24 w1 w.heap.size [.slice ao fl cap, .int .i64 x1, .int .i64 x2, .int .i64 x3] by rw [← hw1]; exact BkS.new _ _ _)
  have b0 : w1.cell? ⟨w.heap.size, 0, none⟩ = some (.slice ao fl cap) := B1.out.cell 0
  obtain ⟨w2, hw2⟩ : ∃ w2, w1.alloc (.cells #[.slice none 0 0, .int .i64 0, .int .i64 0, .int .i64 0] 24) = w2 := ⟨_, rfl⟩
  have A2 := Lib.hid (show Adds w1 w2 by rw [← hw2]; exact (Gr.new _ _).adds)
  have B2 := Lib.hid (show BkS 24 w2 w1.heap.size [.slice none 0 0, .int .i64 0, .int .i64 0, .int .i64 0] by rw [← hw2]; exact BkS.new _ _ _)
  have C1 := Lib.hid (B1.out.adds A2.out)
  have S1 := Lib.hid B1.out.lt
  have S2 := Lib.hid B2.out.lt
  have A12 := Lib.hid (Adds.trans A1.out A2.out)
  have HCl := Lib.hid (clone_funcs (.slice ao fl cap) fs w2 (by have h := HF.out.below (Below.mono A12.out HN.out); exact h) (by have := HFl.out; have := HL.out; omega))
  have c0 : w2.cell? ⟨w.heap.size, 0, none⟩ = some (.slice ao fl cap) := C1.out.cell 0
  clear b0
  go_enter Tryz.func69, Tryz.ntmps69
  go_wp2_with (go_at_call 110; refine HCl.out.mono ?_; clear HCl; rintro e w3 ⟨v', r, rfl, hro, hrl, hri, a3⟩; have hk := CopyK.start (B := w.heap.size) (Adds.trans A12.out a3) (hro) (Nat.le_of_lt (Nat.lt_trans S1.out S2.out)) hrl (fun i hi => ⟨(hri i hi).1, (hri i hi).2.below (Below.mono a3 (Nat.le_trans HN.out (Nat.le_of_lt (Nat.lt_trans S1.out S2.out))))⟩); obtain ⟨ap, cp, rfl, hcm, hfm⟩ := hk.form; rw [HFl.out] at hfm; have HFm := Lib.hid hfm; have HK := Lib.hid hk; have A3 := Lib.hid a3; have C3 := Lib.hid (C1.out.adds a3); have D3 := Lib.hid (B2.out.adds a3); have fz := C3.out.free 0; have c3 : w3.cell? ⟨w.heap.size, 0, none⟩ = some (.slice ao fl cap) := C3.out.cell 0; have E4 := Lib.hid (C3.out.set 0 (.slice ap fl cp)); have c4 : (w3.setCell ⟨w.heap.size, 0, none⟩ (.slice ap fl cp)).cell? ⟨w.heap.size, 0, none⟩ = some (.slice ap fl cp) := E4.out.cell 0; clear hro hrl hri a3 hk hfm c0; simp only [HFl.out])
  have HK4 := Lib.hid (HK.out.box C3.out (Nat.le_refl _) HN.out 0 (.slice ap fl cp))
  have D4 := Lib.hid (D3.out.other (c := w.heap.size) (i := 0) (Nat.ne_of_lt S1.out) (.slice ap fl cp))
  clear HK D3 C3 fz c3 c4
  generalize w3.setCell ⟨w.heap.size, 0, none⟩ (.slice ap fl cp) = w4 at *
  go_loopw [12] (fun i wr => ∃ k : Nat, i = .int .i64 k ∧ k ≤ fl ∧ Hid (BkS 24 wr w.heap.size [.slice ap fl cp, .int .i64 x1, .int .i64 x2, .int .i64 x3]) ∧ Hid (BkS 24 wr w1.heap.size [.slice none 0 0, .int .i64 0, .int .i64 0, .int .i64 0]) ∧ Hid (CopyK w.heap.size n (.slice ap fs.length cp) fs k w wr)) (fun i _ => fl + 1 - (intOf i).toNat)
  case atStart => exact ⟨0, rfl, Nat.zero_le _, E4, D4, HK4⟩
  case round =>
    obtain ⟨k, rfl, hk, E, D, K⟩ := hrel
    by_cases hlt : k < fl
    · have hltI : (k : Int) < (fl : Int) := by omega
      obtain ⟨g, rfl, hg, _⟩ := HFm.out (Nat.lt_of_le_of_lt (Nat.zero_le _) hlt)
      obtain ⟨x, u, k0, k1, kf, hcu⟩ := K.out.here (k := k) (by rw [HFl.out]; exact hlt)
      obtain ⟨ac, cc, rfl, _, _⟩ := hcu.form
      have hcl : (fs.getD k zF).2.length ≤ 1600 := by
        have hk : k < fs.length := by rw [HFl.out]; exact hlt
        rw [List.getD_eq_getElem?_getD, List.getElem?_eq_getElem hk]
        exact HC.out _ (List.getElem_mem hk)
      have HKf := Lib.hid kf
      have HLt := Lib.hid hlt
      have HCk := Lib.hid (fun W (h : Adds wr W) => clone_ins _ (fs.getD k zF).2 W (hcu.adds h) hcl)
      have HNr := Lib.hid (Nat.le_trans HN.out K.out.adds.size)
      clear hcu hcl kf hlt hk
      obtain ⟨lc, hlc⟩ : ∃ l, (fs.getD k zF).2.length = l := ⟨_, rfl⟩
      have HLc := Lib.hid hlc
      simp only [hlc] at k1 HCk ⊢
      clear hlc
      obtain ⟨w5, hw5⟩ : ∃ w5, wr.alloc (.cells #[.int .i64 0, .slice none 0 0] 78) = w5 := ⟨_, rfl⟩
      have A5 := Lib.hid (show Adds wr w5 by rw [← hw5]; exact (Gr.new _ _).adds)
      have B5 := Lib.hid (show BkS 78 w5 wr.heap.size [.int .i64 0, .slice none 0 0] by rw [← hw5]; exact BkS.new _ _ _)
      have z0 : w5.cell? ⟨wr.heap.size, 0, none⟩ = some (.int .i64 0) := B5.out.cell 0
      have z1 : w5.cell? ⟨wr.heap.size, 1, none⟩ = some (.slice none 0 0) := B5.out.cell 1
      have y0 := B5.out.free 0
      have y1 := B5.out.free 1
      go_wp2
      have A7 := Lib.hid (show Adds wr ((w5.setCell ⟨wr.heap.size, 0, none⟩ (.int .i64 x)).setCell ⟨wr.heap.size, 1, none⟩ (.slice ac lc cc)) from Adds.set (Adds.set A5.out (Nat.le_refl _) _ _) (Nat.le_refl _) _ _)
      have B7 := Lib.hid ((B5.out.set 0 (.int .i64 x)).set 1 (.slice ac lc cc))
      clear z0 z1 y0 y1 k0 k1 B5 A5
      generalize (w5.setCell ⟨wr.heap.size, 0, none⟩ (.int .i64 x)).setCell ⟨wr.heap.size, 1, none⟩ (.slice ac lc cc) = w7 at *
      clear hw5
      have l0 : w7.cell? ⟨w.heap.size, 0, none⟩ = some (.slice (some ⟨g, 0, none⟩) fl cp) := (E.out.adds A7.out).cell 0
      have l1 : w7.cell? ⟨wr.heap.size, 1, none⟩ = some (.slice ac lc cc) := B7.out.cell 1
      refine wp_calmC ?_
      go_region_with (go_at_call 111; refine (HCk.out _ (Adds.trans A7.out (Adds.drew _))).mono ?_; rintro e w8 ⟨u', rfl, ho, a8⟩; have A8 := Lib.hid (Adds.trans (Adds.trans A7.out (Adds.drew _)) a8); have HO := Lib.hid ho; obtain ⟨a2, c2, he2, _, _⟩ := ho.code.form; rw [HLc.out] at he2; subst he2; have K8 := Lib.hid (K.out.more A8.out HNr.out); obtain ⟨_, _, _, n1, nf, _⟩ := K8.out.here (k := k) (by rw [HFl.out]; exact HLt.out); have m0 : w8.cell? ⟨w.heap.size, 0, none⟩ = some (.slice (some ⟨g, 0, none⟩) fl cp) := (E.out.adds A8.out).cell 0; clear ho a8)
      all_goals
        simp only [Exit.then]
        go_simp
        go_wp2
        go_roundw
        case rel =>
          have hs := K8.out.step (by rw [HFl.out]; exact HLt.out) HN.out (Nat.le_refl _) (CodeO.low HO.out (Nat.le_trans K.out.adds.size (Nat.le_trans A7.out.size (by exact Nat.le_refl _))))
          obtain ⟨cur, hcur⟩ := K8.out.block (by rw [HFl.out]; exact HLt.out)
          refine ⟨k + 1, by go_num, HLt.out, Lib.hid ((E.out.adds A8.out).other ?_ _), Lib.hid ((D.out.adds A8.out).other ?_ _), Lib.hid hs⟩
          · exact bks_ne (E.out.adds A8.out) hcur (by decide)
          · exact bks_ne (D.out.adds A8.out) hcur (by decide)
        case measure => simp [intOf]; have := HLt.out; omega
    · have hltI : ¬ (k : Int) < (fl : Int) := by omega
      have e0 : wr.cell? ⟨w.heap.size, 0, none⟩ = some (.slice ap fl cp) := E.out.cell 0
      have e1 : wr.cell? ⟨w.heap.size, 1, none⟩ = some (.int .i64 x1) := E.out.cell 1
      have e2 : wr.cell? ⟨w.heap.size, 2, none⟩ = some (.int .i64 x2) := E.out.cell 2
      have e3 : wr.cell? ⟨w.heap.size, 3, none⟩ = some (.int .i64 x3) := E.out.cell 3
      have d0 : wr.cell? ⟨w1.heap.size, 0, none⟩ = some (.slice none 0 0) := D.out.cell 0
      have d1 : wr.cell? ⟨w1.heap.size, 1, none⟩ = some (.int .i64 0) := D.out.cell 1
      have d2 : wr.cell? ⟨w1.heap.size, 2, none⟩ = some (.int .i64 0) := D.out.cell 2
      have d3 : wr.cell? ⟨w1.heap.size, 3, none⟩ = some (.int .i64 0) := D.out.cell 3
      have y0 := D.out.free 0
      have y1 := D.out.free 1
      have y2 := D.out.free 2
      have y3 := D.out.free 3
      go_wp2
      try simp only [Exit.jump]
      try simp only [Exit.inBlock, Exit.then]
      refine bodyPost_ret (res_box rfl _ _ _ _ _ _ _ rfl ((((D.out.set 0 (.slice ap fl cp)).set 1 (.int .i64 x1)).set 2 (.int .i64 x2)).set 3 (.int .i64 x3)) Tryz.underlying24 rfl (by kernel_rfl)) rfl ?_
      have hkl : k = fs.length := by have := HFl.out; omega
      have h0 : w.heap.size ≤ w1.heap.size := Nat.le_of_lt S1.out
      have h1 : n ≤ w1.heap.size := Nat.le_trans HN.out h0
      have hd := ((((K.out.box D.out h0 h1 0 (.slice ap fl cp)).box (D.out.set 0 _) h0 h1 1 (.int .i64 x1)).box ((D.out.set 0 _).set 1 _) h0 h1 2 (.int .i64 x2)).box (((D.out.set 0 _).set 1 _).set 2 _) h0 h1 3 (.int .i64 x3))
      rw [hkl, HFl.out] at hd
      rw [← HFl.out] at hd
      have hd2 := hd.done
      rw [HFl.out] at hd2
      exact ⟨_, rfl, hd2.1, hd2.2⟩
end Go.Proofs.YtfclclckcjjnkaaGreatDoor
namespace Go.Proofs.YtfclclckcjjnkaaGreatDoor
open Go Go.RowKit Go.Shelf

theorem ownsRow_tn {w w' : World} {base b : Nat} {e : TypeId} {size n : Nat} {v : Value} {xs : List Value} (h : w.ownsRow base e size v n xs) (ht : TnS b w w') (hb : v.ownBlock ≠ some b) : w'.ownsRow base e size v n xs := by
  obtain ⟨h1, h2⟩ := h
  refine ⟨h1, ?_⟩
  rcases h2 with h2 | ⟨g, cap, cur, hv, hg, hh, r⟩
  · exact Or.inl h2
  · subst hv
    exact Or.inr ⟨g, cap, cur, rfl, hg, (ht.block g (Array.getElem?_eq_some_iff.1 hh).1 (fun e => hb (by simpa [Value.ownBlock] using e))).trans hh, r⟩
theorem ownsRow_grown {w w' : World} {base : Nat} {row : Option Nat} {e : TypeId} {size n : Nat} {v : Value} {xs : List Value} (h : w.ownsRow base e size v n xs) (ht : w.grownBy w' row) (hb : ∀ g, v.ownBlock = some g → row ≠ some g) : w'.ownsRow base e size v n xs := by
  obtain ⟨h1, h2⟩ := h
  refine ⟨h1, ?_⟩
  rcases h2 with h2 | ⟨g, cap, cur, hv, hg, hh, r⟩
  · exact Or.inl h2
  · subst hv
    exact Or.inr ⟨g, cap, cur, rfl, hg, (ht.block g (Array.getElem?_eq_some_iff.1 hh).1 (fun e => hb g rfl e.symm)).trans hh, r⟩
theorem CodeO.tn {n b : Nat} {w w' : World} {v : Value} {c : List In} (h : CodeO n w v c) (ht : TnS b w w') (hb : b < n) : CodeO n w' v c :=
  ownsRow_tn h ht (fun e => by have := (World.ownsRow.lt h b e).1; omega)
theorem CodeO.nil (n : Nat) (w : World) : CodeO n w (.slice none 0 0) [] := World.ownsRow_nil _ _ _ _
theorem CodeO.lower {n m : Nat} {w : World} {v : Value} {c : List In} (h : CodeO n w v c) (hm : m ≤ n) : CodeO m w v c := by
  obtain ⟨h1, h2⟩ := h
  refine ⟨h1, ?_⟩
  rcases h2 with h2 | ⟨g, cap, cur, hv, hg, r⟩
  · exact Or.inl h2
  · exact Or.inr ⟨g, cap, cur, hv, Nat.le_trans hm hg, r⟩
theorem CodeO.form {n : Nat} {w : World} {v : Value} {c : List In} (h : CodeO n w v c) : ∃ ao cap, v = .slice ao c.length cap := by
  obtain ⟨ao, cap, e, _⟩ := h.code.form
  exact ⟨ao, cap, e⟩
theorem cell_newL (w : World) (l : List Value) (t : TypeId) : ∀ j u, l[j]? = some u → (w.alloc (.cells l.toArray t)).cell? ((⟨w.heap.size, 0, none⟩ : Addr).add j) = some u := by
  intro j u h
  have hadd : (⟨w.heap.size, 0, none⟩ : Addr).add j = ⟨w.heap.size, j, none⟩ := by unfold Addr.add; split <;> simp_all
  rw [hadd, (BkS.new t w l).cell j]
  exact h
/-- append of one instruction, which lies in a fresh block. -/
theorem wpI_append1 {w : World} {ops : Array Oper} {rest : List Oper} {o : Oper} {a : Act} {Q : Exit → Act → World → Prop} (hgd : o.guard = none) (s x : Operand)
    (ho : o.op = .call { callee := .builtin .append, args := #[s, x], argTypes := #[76, 76] }) (base : Nat) (v : Value) (pre : List In) (c : In) (hs : a.eval s = v) (hown : CodeO base w v pre)
    (k : Nat) (hx : a.eval x = .slice (some ⟨k, 0, none⟩) 1 1) (hk : k = w.heap.size)
    (hlen : pre.length ≤ 4000000) (hbase : base ≤ w.heap.size)
    (h : ∀ v' w', CodeO base w' v' (pre ++ [c]) → w.grownBy w' v.ownBlock → wpList Tryz.prog ops Q rest (a.put o.dst v') w') : wpList Tryz.prog ops Q (o :: rest) a (w.alloc (.cells #[.int .i64 c.1, .int .i64 c.2.1, .int .i64 c.2.2.1, .int .i64 c.2.2.2.1, .int .u32 c.2.2.2.2] 82)) := by
  subst hk
  obtain ⟨i0, hi, hz0, hz1, hz2⟩ := info_parts infoI5
  refine wpList_append_own _ hgd s x 76 ho base 82 i0 (.agg #[.int .i64 0, .int .i64 0, .int .i64 0, .int .i64 0, .int .u32 0]) 5 40 Tryz.underlying76 hi hz0 hz1 hz2 rfl (by decide) v pre.length (pre.flatMap insC) hs (World.ownsRow.alloc hown _) ⟨w.heap.size, 0, none⟩ 1 1 (insC c) hx rfl (cell_newL _ _ _)
    (fun u hu => by simp at hu; rcases hu with rfl | rfl | rfl | rfl | rfl <;> rfl) (by unfold maxLen; omega) (by omega) (by simp; omega) fun v' w' h1 h2 _ => h v' w' ?_ ?_
  · unfold CodeO; rw [List.length_append, List.flatMap_append]; simpa using h1
  · exact ⟨h2.os, h2.tape, h2.output, Nat.le_trans (by simp) h2.size, fun i hi hne => (h2.block i (by simp; omega) hne).trans (Below.heap_alloc _ _ i hi)⟩
/-- append of one function. -/
theorem wpF_append1 {w : World} {ops : Array Oper} {rest : List Oper} {o : Oper} {a : Act} {Q : Exit → Act → World → Prop} (hgd : o.guard = none) (s x : Operand)
    (ho : o.op = .call { callee := .builtin .append, args := #[s, x], argTypes := #[22, 22] }) (base : Nat) (v : Value) (pre : List Fu) (r : Int) (cv : Value) (c : List In) (hs : a.eval s = v) (hown : CopyO base w v pre) (hc : CodeO base w cv c)
    (k : Nat) (hx : a.eval x = .slice (some ⟨k, 0, none⟩) 1 1) (hk : k = w.heap.size)
    (hlen : pre.length ≤ 4000000) (hbase : base ≤ w.heap.size)
    (h : ∀ v' w', CopyO base w' v' (pre ++ [(r, c)]) → w.grownBy w' v.ownBlock → wpList Tryz.prog ops Q rest (a.put o.dst v') w') : wpList Tryz.prog ops Q (o :: rest) a (w.alloc (.cells #[.int .i64 r, cv] 78)) := by
  subst hk
  obtain ⟨i0, hi, hz0, hz1, hz2⟩ := info_parts infoF2
  obtain ⟨rs, hR, hl, hi2⟩ := hown
  have hone : ∀ u ∈ fuC (r, cv), u.oneCell' = true := by
    obtain ⟨ao, cap, rfl⟩ := hc.form
    intro u hu
    simp at hu
    rcases hu with rfl | rfl <;> rfl
  have hrow := hR
  unfold RowO at hrow
  refine wpList_append_own _ hgd s x 22 ho base 78 i0 (.agg #[.int .i64 0, .slice none 0 0]) 2 32 Tryz.underlying22 hi hz0 hz1 hz2 rfl (by decide) v rs.length (rs.flatMap fuC) hs (World.ownsRow.alloc hrow _) ⟨w.heap.size, 0, none⟩ 1 1 (fuC (r, cv)) hx rfl (cell_newL _ _ _)
    hone (by rw [hl]; unfold maxLen; omega) (by rw [hl]; omega) (by simp; omega) fun v' w' h1 h2 _ => h v' w' ?_ ?_
  · refine ⟨rs ++ [(r, cv)], ?_, by simp [hl], fun i hlt => ?_⟩
    · unfold RowO; rw [List.length_append, List.flatMap_append]; simpa using h1
    · have keep : ∀ u d, CodeO base w u d → CodeO base w' u d := fun u d hd =>
        ownsRow_grown (ownsRow_adds hd ((Below.refl _ _).alloc (Nat.le_refl _) _)) h2 (fun g hg e => ownsRow_ne hd hR (by decide) g hg e)
      rw [List.length_append, List.length_singleton] at hlt
      by_cases hlt2 : i < pre.length
      · have e1 : (rs ++ [(r, cv)]).getD i zR = rs.getD i zR := by rw [List.getD_eq_getElem?_getD, List.getD_eq_getElem?_getD, List.getElem?_append_left (by omega)]
        have e2 : (pre ++ [(r, c)]).getD i zF = pre.getD i zF := by rw [List.getD_eq_getElem?_getD, List.getD_eq_getElem?_getD, List.getElem?_append_left hlt2]
        rw [e1, e2]
        exact ⟨(hi2 i hlt2).1, keep _ _ (hi2 i hlt2).2⟩
      · have hie : i = pre.length := by omega
        subst hie
        have e1 : (rs ++ [(r, cv)]).getD pre.length zR = (r, cv) := by rw [← hl, List.getD_eq_getElem?_getD]; simp
        have e2 : (pre ++ [(r, c)]).getD pre.length zF = (r, c) := by rw [List.getD_eq_getElem?_getD]; simp
        rw [e1, e2]
        exact ⟨rfl, keep _ _ hc⟩
  · exact ⟨h2.os, h2.tape, h2.output, Nat.le_trans (by simp) h2.size, fun i hi hne => (h2.block i (by simp; omega) hne).trans (Below.heap_alloc _ _ i hi)⟩
theorem CopyO.tn {n b : Nat} {w w' : World} {v : Value} {fs : List Fu} (h : CopyO n w v fs) (ht : TnS b w w') (hb : b < n) : CopyO n w' v fs := by
  obtain ⟨r, hR, hl, hi⟩ := h
  refine ⟨r, ownsRow_tn hR ht (fun e => by have := (World.ownsRow.lt hR b e).1; omega), hl, fun i hlt => ⟨(hi i hlt).1, (hi i hlt).2.tn ht hb⟩⟩
theorem CopyO.nil (n : Nat) (w : World) : CopyO n w (.slice none 0 0) [] := ⟨[], World.ownsRow_nil _ _ _ _, rfl, fun _ h => absurd h (by simp)⟩
end Go.Proofs.YtfclclckcjjnkaaGreatDoor
