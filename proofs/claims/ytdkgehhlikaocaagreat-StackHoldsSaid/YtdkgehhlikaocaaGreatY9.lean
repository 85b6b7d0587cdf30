/- Merged: AF4, GC1, GC2. -/
import Derived.Test.YtdkgehhlikaocaaGreatY8
import Derived.Test.YtdkgehhlikaocaaGreatY6
namespace Go.Proofs.YtdkgehhlikaocaaGreat
open Go Go.RowKit

def doX (x : Int) (a b : Nat) : Nat × Int := if 1 ≤ x ∧ x ≤ 12 then (if byNone x.toNat b then (0, 150) else (doN x.toNat a b, 0)) else (0, 2)
theorem foldX_one (x : Int) (a : Nat) (u : UInt32) : (foldX x a [u]).2.2 = (doX x a u.toNat).2 ∧ ((doX x a u.toNat).2 = 0 → (foldX x a [u]).1 = (doX x a u.toNat).1) ∧ ((doX x a u.toNat).2 ≠ 0 → (doX x a u.toNat).1 = 0) := by
  unfold foldX doX
  split
  · rw [foldN, foldN]
    split <;> simp
  · simp
set_option maxRecDepth 100000 in
theorem do_any (x : Int) (hx : (Lit.int .i64 x).wf = true) (a b : Nat) (ha : a < 4294967296) (hb : b < 4294967296) (w : World) :
    Calls Tryz.prog 93 #[.int .i64 x, .int .u32 a, .int .u32 b] w fun e w' => e = .returned (.tuple #[.int .u32 (doX x a b).1, .int .i64 (doX x a b).2]) ∧ Adds w w' := by
  obtain ⟨u, rfl⟩ : ∃ u : UInt32, b = u.toNat := ⟨UInt32.ofNat b, by rw [show (UInt32.ofNat b).toNat = b % 4294967296 from UInt32.toNat_ofNat']; omega⟩
  have HF := Lib.hid (fold_any x hx a ha (.slice (some ⟨w.heap.size, 0, none⟩) 1 1) [u] (w.alloc (.cells #[.int .u32 (u.toNat : Nat)] 30)) (cells32_lit w [u] (by simp [maxLen])))
  unfold FoldPost at HF
  have A0 := Lib.hid (adds_box w (.cells #[.int .u32 (u.toNat : Nat)] 30))
  obtain ⟨e1, e2, e3⟩ := foldX_one x a u
  have E2 := Lib.hid e2; clear e2
  have E3 := Lib.hid e3; clear e3
  generalize foldX x a [u] = r at e1 E2 HF
  generalize doX x a u.toNat = r' at e1 E2 E3 ⊢
  obtain ⟨n, m, er⟩ := r
  obtain ⟨n', er'⟩ := r'
  simp only at e1 E2 E3 HF ⊢
  subst e1
  clear hx ha hb
  by_cases he : er = 0
  · subst he
    obtain rfl : n = n' := E2.out rfl
    go_enter Tryz.func93, Tryz.ntmps93
    go_wp2
    refine wp_scope_fwd 0 rfl ?_
    go_wp2_with (go_at_call 105; refine HF.out.mono ?_; rintro e w2 ⟨rfl, a2⟩; have A2 := Lib.hid a2; clear a2)
    simp only [Exit.jump]
    go_ret2
    exact ⟨rfl, A0.out.trans A2.out⟩
  · obtain rfl : n' = 0 := E3.out he
    have hne : (er != 0) = true := by simpa using he
    clear he E2 E3
    go_enter Tryz.func93, Tryz.ntmps93
    go_wp2
    refine wp_scope_fwd 0 rfl ?_
    go_wp2_with (go_at_call 105; refine HF.out.mono ?_; rintro e w2 ⟨rfl, a2⟩; have A2 := Lib.hid a2; clear a2)
    go_step3
    refine ⟨rfl, ?_⟩
    go_wp2
    rw [Exit.noGoto_ret]
    go_ret2
    exact ⟨rfl, A0.out.trans A2.out⟩
end Go.Proofs.YtdkgehhlikaocaaGreat
namespace Go.Proofs.YtdkgehhlikaocaaGreat
open Go Go.RowKit Go.Shelf

theorem flat_get {α β : Type} (f : α → List β) (k : Nat) (hf : ∀ x, (f x).length = k) : ∀ (l : List α) (i j : Nat), j < k → (l.flatMap f)[i * k + j]? = (l[i]?).bind fun x => (f x)[j]?
  | [], i, j, _ => by simp
  | x :: l, 0, j, hj => by
    simp only [List.flatMap_cons, Nat.zero_mul, Nat.zero_add]
    rw [List.getElem?_append_left (by rw [hf]; exact hj)]
    simp
  | x :: l, i + 1, j, hj => by
    simp only [List.flatMap_cons]
    rw [List.getElem?_append_right (by rw [hf, Nat.add_mul]; omega), hf, show (i + 1) * k + j - k = i * k + j by rw [Nat.add_mul]; omega, flat_get f k hf l i j hj]
    simp
theorem flat_len {α β : Type} (f : α → List β) (k : Nat) (hf : ∀ x, (f x).length = k) : ∀ l : List α, (l.flatMap f).length = l.length * k
  | [] => by simp
  | x :: l => by simp only [List.flatMap_cons, List.length_append, hf, flat_len f k hf l, List.length_cons, Nat.add_mul]; omega
theorem flat_set {α β : Type} (f : α → List β) (k : Nat) (hf : ∀ x, (f x).length = k) (l : List α) (i j : Nat) (hj : j < k) (u : β) (y : α) (hy : ∀ x, l[i]? = some x → f y = (f x).set j u) : (l.flatMap f).set (i * k + j) u = (l.set i y).flatMap f := by
  have key : ∀ (l : List α) (i : Nat), (∀ x, l[i]? = some x → f y = (f x).set j u) → (l.flatMap f).set (i * k + j) u = (l.set i y).flatMap f := by
    intro l
    induction l with
    | nil => intro i _; simp
    | cons x l ih =>
      intro i h
      cases i with
      | zero =>
        simp only [List.flatMap_cons, Nat.zero_mul, Nat.zero_add, List.set_cons_zero]
        rw [List.set_append_left _ _ (by rw [hf]; exact hj), h x rfl]
      | succ i =>
        simp only [List.flatMap_cons, List.set_cons_succ]
        rw [List.set_append_right _ _ (by rw [hf, Nat.add_mul]; omega), hf, show (i + 1) * k + j - k = i * k + j by rw [Nat.add_mul]; omega, ih i (fun z hz => h z (by simpa using hz))]
  exact key l i hy
/-- An own row, one cell of which is written. -/
theorem ownsRow_set {w : World} {base : Nat} {e : TypeId} {size n g cap : Nat} {xs : List Value} (h : w.ownsRow base e size (.slice (some ⟨g, 0, none⟩) n cap) n xs) (j : Nat) (u : Value) : (w.setCell ⟨g, j, none⟩ u).ownsRow base e size (.slice (some ⟨g, 0, none⟩) n cap) n (xs.set j u) := by
  obtain ⟨h1, h2⟩ := h
  refine ⟨by simpa using h1, ?_⟩
  rcases h2 with ⟨h2, _⟩ | ⟨g', cap', cur, hv, hg, hh, h3, h4, h5, h6⟩
  · cases h2
  · simp only [Value.slice.injEq, Option.some.injEq, Addr.mk.injEq, and_true, true_and] at hv
    obtain ⟨rfl, rfl⟩ := hv
    refine Or.inr ⟨g, cap, cur.set! j u, rfl, hg, ?_, h3, h4, by simpa using h5, ?_⟩
    · simp only [World.setCell, Array.getElem?_modify, hh]
      simp
    · rw [← h6]
      simp [List.take_set]
/-- And of any row, of which one cell is written anywhere: a row still. -/
theorem ownsRow_any {w : World} {base : Nat} {e : TypeId} {size n : Nat} {v : Value} {xs : List Value} (h : w.ownsRow base e size v n xs) (b j : Nat) (u : Value) : ∃ ys, (w.setCell ⟨b, j, none⟩ u).ownsRow base e size v n ys := by
  obtain ⟨h1, h2⟩ := h
  rcases h2 with ⟨h2, h3⟩ | ⟨g, cap, cur, hv, hg, hh, h3, h4, h5, h6⟩
  · exact ⟨xs, h1, Or.inl ⟨h2, h3⟩⟩
  · by_cases hb : b = g
    · subst hb
      refine ⟨xs.set j u, by simpa using h1, Or.inr ⟨b, cap, cur.set! j u, hv, hg, ?_, h3, h4, by simpa using h5, ?_⟩⟩
      · simp only [World.setCell, Array.getElem?_modify, hh]
        simp
      · rw [← h6]
        simp [List.take_set]
    · exact ⟨xs, h1, Or.inr ⟨g, cap, cur, hv, hg, by rw [Below.heap_setCell _ _ _ _ (fun e => hb e.symm)]; exact hh, h3, h4, h5, h6⟩⟩
/-- The block of an own row may be written. -/
theorem ownsRow_free {w : World} {base : Nat} {e : TypeId} {size n g cap : Nat} {xs : List Value} (h : w.ownsRow base e size (.slice (some ⟨g, 0, none⟩) n cap) n xs) (j : Nat) : w.frozen? ⟨g, j, none⟩ = false := by
  rcases h.2 with ⟨h2, _⟩ | ⟨g', cap', cur, hv, hg, hh, _⟩
  · cases h2
  · simp only [Value.slice.injEq, Option.some.injEq, Addr.mk.injEq, and_true, true_and] at hv
    obtain ⟨rfl, rfl⟩ := hv
    simp [World.frozen?, hh]
theorem Adds.cellP {w w' : World} (h : Adds w w') {p : Addr} {v : Value} (hc : w.cell? p = some v) : w'.cell? p = some v :=
  (World.cell?_of_block (h.block p.block (World.block_lt_of_cell? w _ hc))).trans hc
theorem ownsRow_adds {w w' : World} {base : Nat} {e : TypeId} {size n : Nat} {v : Value} {xs : List Value} (h : w.ownsRow base e size v n xs) (ha : Adds w w') : w'.ownsRow base e size v n xs := by
  obtain ⟨h1, h2⟩ := h
  refine ⟨h1, ?_⟩
  rcases h2 with h2 | ⟨g, cap, cur, hv, hg, hh, r⟩
  · exact Or.inl h2
  · exact Or.inr ⟨g, cap, cur, hv, hg, (ha.block g (Array.getElem?_eq_some_iff.1 hh).1).trans hh, r⟩
/-- The block of an own row is of its elements' type. -/
theorem ownsRow_ne {w : World} {base base' : Nat} {e e' : TypeId} {size size' n n' : Nat} {v v' : Value} {xs xs' : List Value} (h : w.ownsRow base e size v n xs) (h' : w.ownsRow base' e' size' v' n' xs') (he : e ≠ e') (g : Nat) (hg : v.ownBlock = some g) : v'.ownBlock ≠ some g := by
  intro hg'
  rcases h.2 with ⟨rfl, _⟩ | ⟨k, cap, cur, rfl, _, hh, _⟩
  · cases hg
  · rcases h'.2 with ⟨rfl, _⟩ | ⟨k', cap', cur', rfl, _, hh', _⟩
    · cases hg'
    · simp only [Value.ownBlock, Option.some.injEq] at hg hg'
      subst hg hg'
      rw [hh] at hh'
      simp only [Option.some.injEq, Obj.cells.injEq] at hh'
      exact he hh'.2.1
theorem ownsRow_cell {w : World} {base : Nat} {e : TypeId} {size n g cap : Nat} {xs : List Value} (h : w.ownsRow base e size (.slice (some ⟨g, 0, none⟩) n cap) n xs) (j : Nat) {u : Value} (hu : xs[j]? = some u) : w.cell? ⟨g, j, none⟩ = some u := by
  have h' := h.cells (g := g) rfl j u hu
  have hadd : (⟨g, 0, none⟩ : Addr).add j = ⟨g, j, none⟩ := by unfold Addr.add; split <;> simp_all
  rwa [hadd] at h'

theorem insC_len (x : In) : (insC x).length = 5 := rfl
/-- A code in memory of the call's own. -/
def CodeO (n : Nat) (w : World) (v : Value) (c : List In) : Prop := w.ownsRow n 56 5 v c.length (c.flatMap insC)
theorem CodeO.code {n : Nat} {w : World} {v : Value} {c : List In} (h : CodeO n w v c) : CodeW w.heap.size w v c := by
  have H := h
  unfold CodeO at h
  obtain ⟨h1, h2⟩ := h
  rcases h2 with ⟨rfl, h0⟩ | ⟨g, cap, cur, rfl, hb, hh, h3, h4, _⟩
  · have hc : c = [] := by simpa using h0
    subst hc
    exact ⟨none, 0, rfl, by simp, by simp, fun h => absurd rfl h⟩
  · refine ⟨_, cap, rfl, h3, h4, fun _ => ⟨g, 0, rfl, (Array.getElem?_eq_some_iff.1 hh).1, fun i hi => ?_⟩⟩
    have key : ∀ j, j < 5 → ∀ u, (insC (c.getD i zI))[j]? = some u → w.cell? ⟨g, 0 + i * 5 + j, none⟩ = some u := by
      intro j hj u hu
      rw [Nat.zero_add]
      refine ownsRow_cell H (i * 5 + j) ?_
      rw [flat_get insC 5 insC_len c i j hj, List.getElem?_eq_getElem hi]
      rw [List.getD_eq_getElem?_getD, List.getElem?_eq_getElem hi] at hu
      exact hu
    exact ⟨key 0 (by decide) _ rfl, key 1 (by decide) _ rfl, key 2 (by decide) _ rfl, key 3 (by decide) _ rfl, key 4 (by decide) _ rfl⟩
/-- The cells of a code, where it stands. -/
theorem CodeW.cells {n : Nat} {w : World} {ad : Addr} {cap : Nat} {c : List In} (h : CodeW n w (.slice (some ad) c.length cap) c) : ∀ j u, (c.flatMap insC)[j]? = some u → w.cell? (ad.add j) = some u := by
  intro j u hu
  have hj : j < c.length * 5 := by
    have := (List.getElem?_eq_some_iff.1 hu).1
    rwa [flat_len insC 5 insC_len] at this
  have hi : j / 5 < c.length := by omega
  obtain ⟨g, off, e, _, h0, h1, h2, h3, h4⟩ := h.at hi
  simp only [Option.some.injEq] at e
  subst e
  rw [show j = j / 5 * 5 + j % 5 by omega, flat_get insC 5 insC_len c _ _ (by omega), List.getElem?_eq_getElem hi] at hu
  have hadd : (⟨g, off, none⟩ : Addr).add j = ⟨g, off + j / 5 * 5 + j % 5, none⟩ := by
    have : (⟨g, off, none⟩ : Addr).add j = ⟨g, off + j, none⟩ := by unfold Addr.add; split <;> simp_all
    rw [this, show off + j / 5 * 5 + j % 5 = off + j by omega]
  rw [hadd]
  rw [List.getD_eq_getElem?_getD, List.getElem?_eq_getElem hi] at h0 h1 h2 h3 h4
  have hm : j % 5 < 5 := by omega
  generalize j % 5 = m at *
  match m, hm with
  | 0, _ => simp at hu; subst hu; exact h0
  | 1, _ => simp at hu; subst hu; exact h1
  | 2, _ => simp at hu; subst hu; exact h2
  | 3, _ => simp at hu; subst hu; exact h3
  | 4, _ => simp at hu; subst hu; exact h4
theorem insC_one (c : List In) : ∀ u ∈ c.flatMap insC, u.oneCell' = true := by
  intro u hu
  obtain ⟨x, _, hx⟩ := List.mem_flatMap.1 hu
  simp only [insC, List.mem_cons, List.not_mem_nil, or_false] at hx
  rcases hx with rfl | rfl | rfl | rfl | rfl <;> rfl

/-- A row of functions: their registers, and their codes' slices. -/
abbrev zR : Int × Value := (0, undef)
abbrev fuC (x : Int × Value) : List Value := [.int .i64 x.1, x.2]
theorem fuC_len (x : Int × Value) : (fuC x).length = 2 := rfl
def RowO (n : Nat) (w : World) (v : Value) (r : List (Int × Value)) : Prop := w.ownsRow n 46 2 v r.length (r.flatMap fuC)
/-- What a program's copy is: a row of functions of the call's own, with the same registers, and the same codes, of the call's own. -/
def CopyO (n : Nat) (w : World) (v : Value) (fs : List Fu) : Prop :=
  ∃ r, RowO n w v r ∧ r.length = fs.length ∧ ∀ i, i < fs.length → (r.getD i zR).1 = (fs.getD i zF).1 ∧ CodeO n w (r.getD i zR).2 (fs.getD i zF).2
theorem CopyO.funcs {n : Nat} {w : World} {v : Value} {fs : List Fu} (h : CopyO n w v fs) (hok : ∀ f ∈ fs, ∀ x ∈ f.2, OkIn x) : FuncsW w.heap.size w v fs := by
  obtain ⟨r, hR, hl, hi⟩ := h
  have H := hR
  unfold RowO at hR
  obtain ⟨h1, h2⟩ := hR
  rcases h2 with ⟨rfl, h0⟩ | ⟨g, cap, cur, rfl, hb, hh, h3, h4, _⟩
  · have hc : fs = [] := by rw [hl] at h0; simpa using h0
    subst hc
    exact ⟨none, 0, rfl, by simp, by simp, fun h => absurd rfl h⟩
  · refine ⟨_, cap, by rw [hl], by omega, h4, fun _ => ⟨g, 0, rfl, (Array.getElem?_eq_some_iff.1 hh).1, fun i hlt => ?_⟩⟩
    have hri : i < r.length := by omega
    obtain ⟨e1, e2⟩ := hi i hlt
    have key : ∀ j, j < 2 → ∀ u, (fuC (r.getD i zR))[j]? = some u → w.cell? ⟨g, 0 + i * 2 + j, none⟩ = some u := by
      intro j hj u hu
      rw [Nat.zero_add]
      refine ownsRow_cell H (i * 2 + j) ?_
      rw [flat_get fuC 2 fuC_len r i j hj, List.getElem?_eq_getElem hri]
      rw [List.getD_eq_getElem?_getD, List.getElem?_eq_getElem hri] at hu
      exact hu
    refine ⟨?_, _, key 1 (by decide) _ rfl, e2.code, hok _ ?_⟩
    · have := key 0 (by decide) _ rfl
      rw [e1] at this
      exact this
    · rw [List.getD_eq_getElem?_getD, List.getElem?_eq_getElem hlt]
      exact List.getElem_mem hlt
end Go.Proofs.YtdkgehhlikaocaaGreat
namespace Go.Proofs.YtdkgehhlikaocaaGreat
open Go Go.RowKit Go.Shelf

theorem infoI5 : (Tryz.prog.info? 56).map (fun i => (i.zero, i.size, i.bytes)) = some (some (.agg #[.int .i64 0, .int .i64 0, .int .i64 0, .int .i64 0, .int .u32 0]), 5, 40) := by kernel_rfl
theorem infoF2 : (Tryz.prog.info? 46).map (fun i => (i.zero, i.size, i.bytes)) = some (some (.agg #[.int .i64 0, .slice none 0 0]), 2, 32) := by kernel_rfl

set_option maxRecDepth 100000 in
set_option maxHeartbeats 1000000 in
theorem clone_ins {n : Nat} (v : Value) (c : List In) (w : World) (hc : CodeW n w v c) (hl : c.length ≤ 1600) : Calls Tryz.prog 65 #[v] w fun e w' => ∃ v', e = .returned v' ∧ CodeO w.heap.size w' v' c ∧ Adds w w' := by
  have HC := Lib.hid hc
  obtain ⟨ao, cap, rfl, h1, h2, h3⟩ := hc
  cases ao with
  | none =>
    have hnil : c = [] := by
      apply Classical.byContradiction
      intro h
      obtain ⟨b, off, e, _⟩ := h3 h
      cases e
    clear h3
    have hq : ∀ W m, (binOp .eql 44 (.slice none m cap) (.slice none 0 0)).run Tryz.prog W = .ok (.bool true) W := fun W m => Lib.run_eql_slice_nil W _ 56 none _ _ _ _ (by kernel_rfl)
    go_enter Tryz.func65, Tryz.ntmps65
    go_wp2
    go_ret
    exact ⟨_, rfl, hnil ▸ World.ownsRow_nil _ _ _ _, Adds.refl _⟩
  | some ad =>
    clear h3
    obtain ⟨i0, hi, hz, hs, hb⟩ := info_parts infoI5
    have hq : ∀ W, (binOp .eql 44 (.slice (some ad) c.length cap) (.slice none 0 0)).run Tryz.prog W = .ok (.bool false) W := fun W => Lib.run_eql_slice_nil W _ 56 (some ad) _ _ _ _ (by kernel_rfl)
    have A1 := Lib.hid (Gr.new w (.cells #[] 56)).adds
    have HN := Lib.hid (HC.out.adds A1.out).cells
    obtain ⟨l, hl'⟩ : ∃ l, c.length = l := ⟨_, rfl⟩
    have HL := Lib.hid hl'
    have HB := Lib.hid hl
    simp only [hl'] at hq HC ⊢
    clear hl' hl h1 h2
    go_enter Tryz.func65, Tryz.ntmps65
    go_wp2_with (at_builtin; refine wpList_append_own _ rfl _ _ 44 rfl w.heap.size 56 i0 _ 5 40 (by kernel_rfl) hi hz hs hb rfl (by decide) _ _ _ rfl (World.ownsRow_made w #[] 0 (Nat.le_refl _) (Nat.zero_le _) (by simp)) ad l cap (c.flatMap insC) rfl (by rw [flat_len insC 5 insC_len, HL.out]) HN.out (insC_one c) (by have := HB.out; have := HL.out; simp only [maxLen]; omega) (by have := HB.out; have := HL.out; omega) (by simp) ?_; intro v5 w5 o5 b5 _; have O5 := Lib.hid o5; clear o5; have A5 := Lib.hid (show Adds w w5 from TnS.own A1.out (Nat.le_refl _) b5); clear b5)
    go_ret
    refine ⟨_, rfl, ?_, A5.out⟩
    have h := O5.out
    rw [Nat.zero_add, List.nil_append] at h
    unfold CodeO
    rw [HL.out]
    exact h
/-- The functions' cells, as a row. -/
theorem FuncsW.row {n : Nat} {w : World} {v : Value} {fs : List Fu} (h : FuncsW n w v fs) : ∃ r : List (Int × Value), r.length = fs.length ∧ (∀ i, i < fs.length → (r.getD i zR).1 = (fs.getD i zF).1 ∧ CodeW n w (r.getD i zR).2 (fs.getD i zF).2) ∧
    (∀ ad cap, v = .slice (some ad) fs.length cap → ∀ j u, (r.flatMap fuC)[j]? = some u → w.cell? (ad.add j) = some u) ∧ (∀ u ∈ r.flatMap fuC, u.oneCell' = true) := by
  obtain ⟨ao, cap, rfl, _, _, h3⟩ := h
  by_cases h0 : fs = []
  · subst h0
    exact ⟨[], rfl, fun i hi => by simp at hi, fun _ _ _ j u hu => by simp at hu, fun u hu => by simp at hu⟩
  · obtain ⟨g, off, rfl, hg, hat⟩ := h3 h0
    clear h3
    let P : Nat → Int × Value → Prop := fun i x => w.cell? ⟨g, off + i * 2, none⟩ = some (.int .i64 x.1) ∧ w.cell? ⟨g, off + i * 2 + 1, none⟩ = some x.2 ∧ x.1 = (fs.getD i zF).1 ∧ CodeW n w x.2 (fs.getD i zF).2
    obtain ⟨r, hrl, hr⟩ : ∃ r : List (Int × Value), r.length = fs.length ∧ ∀ i, i < fs.length → P i (r.getD i zR) := by
      have hex : ∀ i, i < fs.length → ∃ x, P i x := fun i hi => by
        obtain ⟨k0, u, k1, hc, _⟩ := hat i hi
        exact ⟨((fs.getD i zF).1, u), k0, k1, rfl, hc⟩
      classical
      let F : Nat → Int × Value := fun i => if h' : i < fs.length then (hex i h').choose else zR
      refine ⟨(List.range fs.length).map F, by simp, fun i hi => ?_⟩
      have e : ((List.range fs.length).map F).getD i zR = (hex i hi).choose := by simp [List.getD_eq_getElem?_getD, hi, F]
      rw [e]
      exact (hex i hi).choose_spec
    refine ⟨r, hrl, fun i hi => (hr i hi).2.2, ?_, ?_⟩
    · intro ad cap' e j u hu
      simp only [Value.slice.injEq, Option.some.injEq, true_and] at e
      obtain ⟨rfl, _⟩ := e
      have hj : j < r.length * 2 := by
        have := (List.getElem?_eq_some_iff.1 hu).1
        rwa [flat_len fuC 2 fuC_len] at this
      have hi : j / 2 < r.length := by omega
      obtain ⟨k0, k1, _, _⟩ := hr (j / 2) (by omega)
      rw [show j = j / 2 * 2 + j % 2 by omega, flat_get fuC 2 fuC_len r _ _ (by omega), List.getElem?_eq_getElem hi] at hu
      have hadd : (⟨g, off, none⟩ : Addr).add j = ⟨g, off + j / 2 * 2 + j % 2, none⟩ := by
        have : (⟨g, off, none⟩ : Addr).add j = ⟨g, off + j, none⟩ := by unfold Addr.add; split <;> simp_all
        rw [this, show off + j / 2 * 2 + j % 2 = off + j by omega]
      rw [hadd]
      rw [List.getD_eq_getElem?_getD, List.getElem?_eq_getElem hi] at k0 k1
      have hm : j % 2 < 2 := by omega
      generalize j % 2 = m at *
      match m, hm with
      | 0, _ => simp at hu; subst hu; exact k0
      | 1, _ => simp at hu; subst hu; exact k1
    · intro u hu
      obtain ⟨x, hx, hxu⟩ := List.mem_flatMap.1 hu
      simp only [fuC, List.mem_cons, List.not_mem_nil, or_false] at hxu
      obtain ⟨i, hi, rfl⟩ := List.mem_iff_getElem.1 hx
      rcases hxu with rfl | rfl
      · rfl
      · obtain ⟨_, _, _, hc⟩ := hr i (by omega)
        rw [List.getD_eq_getElem?_getD, List.getElem?_eq_getElem hi] at hc
        obtain ⟨_, _, e, _, _⟩ := hc.form
        simp only [Option.getD_some] at e
        rw [e]
        rfl
set_option maxRecDepth 100000 in
set_option maxHeartbeats 1000000 in
theorem clone_funcs {n : Nat} (v : Value) (fs : List Fu) (w : World) (hc : FuncsW n w v fs) (hl : fs.length ≤ 40) : Calls Tryz.prog 64 #[v] w fun e w' => ∃ v' r, e = .returned v' ∧ RowO w.heap.size w' v' r ∧ r.length = fs.length ∧ (∀ i, i < fs.length → (r.getD i zR).1 = (fs.getD i zF).1 ∧ CodeW n w (r.getD i zR).2 (fs.getD i zF).2) ∧ Adds w w' := by
  obtain ⟨r, hrl, hr1, hr2, hr3⟩ := hc.row
  have HC := Lib.hid hc
  have HR := Lib.hid hr1
  have H1 := Lib.hid hr3
  obtain ⟨ao, cap, rfl, h1, h2, h3⟩ := hc
  cases ao with
  | none =>
    have hnil : r = [] := by
      apply List.eq_nil_of_length_eq_zero
      rw [hrl]
      apply Classical.byContradiction
      intro h
      obtain ⟨b, off, e, _⟩ := h3 (by rintro rfl; exact h rfl)
      cases e
    have HRl := Lib.hid hrl
    clear h3 hr1 hr2 hr3 hrl
    have hq : ∀ W m, (binOp .eql 22 (.slice none m cap) (.slice none 0 0)).run Tryz.prog W = .ok (.bool true) W := fun W m => Lib.run_eql_slice_nil W _ 46 none _ _ _ _ (by kernel_rfl)
    go_enter Tryz.func64, Tryz.ntmps64
    go_wp2
    go_ret
    refine ⟨_, r, rfl, ?_, HRl.out, HR.out, Adds.refl _⟩
    rw [hnil]
    exact World.ownsRow_nil _ _ _ _
  | some ad =>
    obtain ⟨i0, hi, hz, hs, hb⟩ := info_parts infoF2
    have hq : ∀ W, (binOp .eql 22 (.slice (some ad) fs.length cap) (.slice none 0 0)).run Tryz.prog W = .ok (.bool false) W := fun W => Lib.run_eql_slice_nil W _ 46 (some ad) _ _ _ _ (by kernel_rfl)
    have A1 := Lib.hid (Gr.new w (.cells #[] 46)).adds
    have HN := Lib.hid (fun j u hu => Adds.cellP A1.out (hr2 ad cap rfl j u hu))
    obtain ⟨l, hl'⟩ : ∃ l, fs.length = l := ⟨_, rfl⟩
    have HL := Lib.hid hl'
    have HB := Lib.hid hl
    have HRl := Lib.hid hrl
    simp only [hl'] at hq HC ⊢
    clear hl' hl h1 h2 h3 hr1 hr2 hr3 hrl
    go_enter Tryz.func64, Tryz.ntmps64
    go_wp2_with (at_builtin; refine wpList_append_own _ rfl _ _ 22 rfl w.heap.size 46 i0 _ 2 32 (by kernel_rfl) hi hz hs hb rfl (by decide) _ _ _ rfl (World.ownsRow_made w #[] 0 (Nat.le_refl _) (Nat.zero_le _) (by simp)) ad l cap (r.flatMap fuC) rfl (by rw [flat_len fuC 2 fuC_len, HRl.out, HL.out]) HN.out H1.out (by have := HB.out; have := HL.out; simp only [maxLen]; omega) (by have := HB.out; have := HL.out; omega) (by simp) ?_; intro v5 w5 o5 b5 _; have O5 := Lib.hid o5; clear o5; have A5 := Lib.hid (show Adds w w5 from TnS.own A1.out (Nat.le_refl _) b5); clear b5)
    go_ret
    refine ⟨_, r, rfl, ?_, by rw [HRl.out, HL.out], fun i hi => HR.out i (by rw [HL.out]; exact hi), A5.out⟩
    have h := O5.out
    rw [Nat.zero_add, List.nil_append] at h
    unfold RowO
    rw [HRl.out, HL.out]
    exact h
end Go.Proofs.YtdkgehhlikaocaaGreat
