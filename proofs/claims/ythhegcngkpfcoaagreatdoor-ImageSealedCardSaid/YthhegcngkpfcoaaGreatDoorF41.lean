/- Merged: GC2, GC3, M9. -/
import Derived.Test.YthhegcngkpfcoaaGreatDoorF40
import Derived.Test.YthhegcngkpfcoaaGreatDoorF19
import Derived.Maps.AppendAt
namespace Go.Proofs.YthhegcngkpfcoaaGreatDoor
open Go Go.RowKit Go.Shelf

theorem infoI5 : (Tryz.prog.info? 59).map (fun i => (i.zero, i.size, i.bytes)) = some (some (.agg #[.int .i64 0, .int .i64 0, .int .i64 0, .int .i64 0, .int .u32 0]), 5, 40) := by kernel_rfl
theorem infoF2 : (Tryz.prog.info? 55).map (fun i => (i.zero, i.size, i.bytes)) = some (some (.agg #[.int .i64 0, .slice none 0 0]), 2, 32) := by kernel_rfl

/-- The functions' cells, as a row. -/
theorem FuncsW.row {n : Nat} {w : World} {v : Value} {fs : List Fu} (h : FuncsW n w v fs) : ∃ r : List (Int × Value), r.length = fs.length ∧ (∀ i, i < fs.length → (r.getD i zR).1 = (fs.getD i zF).1 ∧ CodeW n w (r.getD i zR).2 (fs.getD i zF).2) ∧
    (∀ ad cap, v = .slice (some ad) fs.length cap → ∀ j u, (r.flatMap fuC)[j]? = some u → w.cell? (ad.add j) = some u) ∧ (∀ u ∈ r.flatMap fuC, u.oneCell' = true) := by
  obtain ⟨ao, cap, rfl, _, _, h3⟩ := h
  by_cases h0 : fs = []
  · subst h0
    exact ⟨[], rfl, fun i hi => by simp at hi, fun _ _ _ j u hu => by simp at hu, fun u hu => by simp at hu⟩
  · obtain ⟨g, off, rfl, hg, hat⟩ := h3 h0
    clear h3
    let P : Nat → Int × Value → Prop := fun i x => w.cell? ⟨g, off + i * 2, none⟩ = some (.int .i64 x.1) ∧ w.cell? ⟨g, off + i * 2 + 1, none⟩ = some x.2 ∧ x.1 = (fs.getD i zF).1 ∧ CodeW n w x.2 (fs.getD i zF).2
    obtain ⟨r, hrl, hr⟩ : ∃ r : List (Int × Value), r.length = fs.length ∧ ∀ i, i < fs.length → P i (r.getD i zR) := by
      have hex : ∀ i, i < fs.length → ∃ x, P i x := fun i hi => by
        obtain ⟨k0, u, k1, hc, _⟩ := hat i hi
        exact ⟨((fs.getD i zF).1, u), k0, k1, rfl, hc⟩
      classical
      let F : Nat → Int × Value := fun i => if h' : i < fs.length then (hex i h').choose else zR
      refine ⟨(List.range fs.length).map F, by simp, fun i hi => ?_⟩
      have e : ((List.range fs.length).map F).getD i zR = (hex i hi).choose := by simp [List.getD_eq_getElem?_getD, hi, F]
      rw [e]
      exact (hex i hi).choose_spec
    refine ⟨r, hrl, fun i hi => (hr i hi).2.2, ?_, ?_⟩
    · intro ad cap' e j u hu
      simp only [Value.slice.injEq, Option.some.injEq, true_and] at e
      obtain ⟨rfl, _⟩ := e
      have hj : j < r.length * 2 := by
        have := (List.getElem?_eq_some_iff.1 hu).1
        rwa [flat_len fuC 2 fuC_len] at this
      have hi : j / 2 < r.length := by omega
      obtain ⟨k0, k1, _, _⟩ := hr (j / 2) (by omega)
      rw [show j = j / 2 * 2 + j % 2 by omega, flat_get fuC 2 fuC_len r _ _ (by omega), List.getElem?_eq_getElem hi] at hu
      have hadd : (⟨g, off, none⟩ : Addr).add j = ⟨g, off + j / 2 * 2 + j % 2, none⟩ := by
        have : (⟨g, off, none⟩ : Addr).add j = ⟨g, off + j, none⟩ := by unfold Addr.add; split <;> simp_all
        rw [this, show off + j / 2 * 2 + j % 2 = off + j by omega]
      rw [hadd]
      rw [List.getD_eq_getElem?_getD, List.getElem?_eq_getElem hi] at k0 k1
      have hm : j % 2 < 2 := by omega
      generalize j % 2 = m at *
      match m, hm with
      | 0, _ => simp at hu; subst hu; exact k0
      | 1, _ => simp at hu; subst hu; exact k1
    · intro u hu
      obtain ⟨x, hx, hxu⟩ := List.mem_flatMap.1 hu
      simp only [fuC, List.mem_cons, List.not_mem_nil, or_false] at hxu
      obtain ⟨i, hi, rfl⟩ := List.mem_iff_getElem.1 hx
      rcases hxu with rfl | rfl
      · rfl
      · obtain ⟨_, _, _, hc⟩ := hr i (by omega)
        rw [List.getD_eq_getElem?_getD, List.getElem?_eq_getElem hi] at hc
        obtain ⟨_, _, e, _, _⟩ := hc.form
        simp only [Option.getD_some] at e
        rw [e]
        rfl
end Go.Proofs.YthhegcngkpfcoaaGreatDoor
namespace Go.Proofs.YthhegcngkpfcoaaGreatDoor
open Go Go.RowKit Go.Shelf

/-- The loop's state: the first k codes are copied. -/
structure CopyK (B n0 : Nat) (v : Value) (fs : List Fu) (k : Nat) (w0 W : World) : Prop where
  adds : Adds w0 W
  row : ∃ r, RowO B W v r ∧ r.length = fs.length ∧ (∀ i, i < fs.length → (r.getD i zR).1 = (fs.getD i zF).1) ∧ (∀ i, i < k → i < fs.length → CodeO B W (r.getD i zR).2 (fs.getD i zF).2) ∧ (∀ i, k ≤ i → i < fs.length → CodeW n0 W (r.getD i zR).2 (fs.getD i zF).2)
theorem CodeO.adds {n : Nat} {w w' : World} {v : Value} {c : List In} (h : CodeO n w v c) (ha : Adds w w') : CodeO n w' v c := ownsRow_adds h ha
theorem RowO.adds {n : Nat} {w w' : World} {v : Value} {r : List (Int × Value)} (h : RowO n w v r) (ha : Adds w w') : RowO n w' v r := ownsRow_adds h ha
theorem RowO.at {n g cap : Nat} {w : World} {r : List (Int × Value)} (h : RowO n w (.slice (some ⟨g, 0, none⟩) r.length cap) r) {i : Nat} (hi : i < r.length) : w.cell? ⟨g, i * 2, none⟩ = some (.int .i64 (r.getD i zR).1) ∧ w.cell? ⟨g, i * 2 + 1, none⟩ = some (r.getD i zR).2 := by
  have key : ∀ j, j < 2 → ∀ u, (fuC (r.getD i zR))[j]? = some u → w.cell? ⟨g, i * 2 + j, none⟩ = some u := by
    intro j hj u hu
    refine ownsRow_cell h (i * 2 + j) ?_
    rw [flat_get fuC 2 fuC_len r i j hj, List.getElem?_eq_getElem hi]
    rw [List.getD_eq_getElem?_getD, List.getElem?_eq_getElem hi] at hu
    exact hu
  exact ⟨key 0 (by decide) _ rfl, key 1 (by decide) _ rfl⟩
theorem ownsRow_low {w : World} {base base' : Nat} {e : TypeId} {size n : Nat} {v : Value} {xs : List Value} (h : w.ownsRow base e size v n xs) (hb : base' ≤ base) : w.ownsRow base' e size v n xs := by
  obtain ⟨h1, h2⟩ := h
  refine ⟨h1, ?_⟩
  rcases h2 with h2 | ⟨g, cap, cur, hv, hg, hh, r⟩
  · exact Or.inl h2
  · exact Or.inr ⟨g, cap, cur, hv, by omega, hh, r⟩
theorem CopyK.start {B B' n0 : Nat} {v : Value} {fs : List Fu} {w0 W : World} {r : List (Int × Value)} (ha : Adds w0 W) (hr : RowO B' W v r) (hB : B ≤ B') (hl : r.length = fs.length) (hi : ∀ i, i < fs.length → (r.getD i zR).1 = (fs.getD i zF).1 ∧ CodeW n0 W (r.getD i zR).2 (fs.getD i zF).2) : CopyK B n0 v fs 0 w0 W :=
  ⟨ha, r, ownsRow_low hr hB, hl, fun i h => (hi i h).1, fun i h => absurd h (Nat.not_lt_zero i), fun i _ h => (hi i h).2⟩
theorem CopyK.form {B n0 : Nat} {v : Value} {fs : List Fu} {k : Nat} {w0 W : World} (h : CopyK B n0 v fs k w0 W) : ∃ ao cap, v = .slice ao fs.length cap ∧ cap ≤ maxLen ∧ (0 < fs.length → ∃ g, ao = some ⟨g, 0, none⟩ ∧ B ≤ g ∧ ∃ cur, W.heap[g]? = some (.cells cur 55 (0, 0))) := by
  obtain ⟨_, r, h2, h3, _⟩ := h
  rcases h2.2 with ⟨rfl, h0⟩ | ⟨g, cap, cur, rfl, hg, hh, _, hm, _⟩
  · rw [h3] at h0
    rw [h0]
    exact ⟨none, 0, rfl, by simp [maxLen], fun h => absurd h (Nat.lt_irrefl 0)⟩
  · rw [h3]
    exact ⟨_, cap, rfl, hm, fun _ => ⟨g, rfl, hg, cur, hh⟩⟩
theorem CopyK.done {B n0 : Nat} {v : Value} {fs : List Fu} {w0 W : World} (h : CopyK B n0 v fs fs.length w0 W) : CopyO B W v fs ∧ Adds w0 W := by
  obtain ⟨h1, r, h2, h3, h4, h5, h6⟩ := h
  exact ⟨⟨r, h2, h3, fun i hi => ⟨h4 i hi, h5 i hi hi⟩⟩, h1⟩
theorem CopyK.here {B n0 g cap : Nat} {fs : List Fu} {k : Nat} {w0 W : World} (h : CopyK B n0 (.slice (some ⟨g, 0, none⟩) fs.length cap) fs k w0 W) (hk : k < fs.length) : ∃ x u, W.cell? ⟨g, k * 2, none⟩ = some (.int .i64 x) ∧ W.cell? ⟨g, k * 2 + 1, none⟩ = some u ∧ W.frozen? ⟨g, k * 2 + 1, none⟩ = false ∧ CodeW n0 W u (fs.getD k zF).2 := by
  obtain ⟨h1, r, h2, h3, h4, h5, h6⟩ := h
  have h2' := h2
  rw [← h3] at h2'
  obtain ⟨k0, k1⟩ := h2'.at (i := k) (by omega)
  exact ⟨_, _, k0, k1, ownsRow_free h2' _, h6 k (Nat.le_refl _) hk⟩
theorem bks_ne {t t' : TypeId} {w : World} {b g : Nat} {l : List Value} {cur : Array Value} (h : BkS t w b l) (hg : w.heap[g]? = some (.cells cur t' (0, 0))) (ht : t ≠ t') : g ≠ b := by
  rintro rfl
  unfold BkS at h
  rw [h] at hg
  simp only [Option.some.injEq, Obj.cells.injEq] at hg
  exact ht hg.2.1
theorem CopyK.box {B n0 b : Nat} {v : Value} {fs : List Fu} {k : Nat} {w0 W : World} {l : List Value} (h : CopyK B n0 v fs k w0 W) (hb : BkS 24 W b l) (hw : w0.heap.size ≤ b) (hn : n0 ≤ b) (i : Nat) (u : Value) : CopyK B n0 v fs k w0 (W.setCell ⟨b, i, none⟩ u) := by
  obtain ⟨h1, r, h2, h3, h4, h5, h6⟩ := h
  have key : ∀ {e : TypeId} {size n : Nat} {v : Value} {xs : List Value}, W.ownsRow B e size v n xs → 24 ≠ e → v.ownBlock ≠ some b := by
    intro e size n v xs ho he hv
    rcases ho.2 with ⟨rfl, _⟩ | ⟨g, cap, cur, rfl, _, hh, _⟩
    · cases hv
    · simp only [Value.ownBlock, Option.some.injEq] at hv
      exact bks_ne hb hh he hv
  refine ⟨Adds.set h1 hw _ _, r, ownsRow_setCell_other h2 (key h2 (by decide)) u, h3, h4, fun i hk hi => ownsRow_setCell_other (h5 i hk hi) (key (h5 i hk hi) (by decide)) u, fun i hk hi => (h6 i hk hi).below ⟨rfl, rfl, rfl, by simp [World.setCell], fun b hb => Below.heap_setCell W _ _ _ (fun e => by simp only at e; omega)⟩⟩
theorem CodeO.low {n m : Nat} {w : World} {v : Value} {c : List In} (h : CodeO n w v c) (hm : m ≤ n) : CodeO m w v c := ownsRow_low h hm
theorem CopyK.block {B n0 g cap : Nat} {fs : List Fu} {k : Nat} {w0 W : World} (h : CopyK B n0 (.slice (some ⟨g, 0, none⟩) fs.length cap) fs k w0 W) (hk : k < fs.length) : ∃ cur, W.heap[g]? = some (.cells cur 55 (0, 0)) := by
  obtain ⟨_, _, e, _, h3⟩ := h.form
  simp only [Value.slice.injEq, true_and] at e
  obtain ⟨rfl, rfl⟩ := e
  obtain ⟨g', e, _, h⟩ := h3 (by omega)
  simp only [Option.some.injEq, Addr.mk.injEq, and_true] at e
  rw [e]
  exact h
end Go.Proofs.YthhegcngkpfcoaaGreatDoor
namespace Go.Proofs.YthhegcngkpfcoaaGreatDoor
open Go Go.RowKit Go.Shelf

theorem ownsRow_tn {w w' : World} {base b : Nat} {e : TypeId} {size n : Nat} {v : Value} {xs : List Value} (h : w.ownsRow base e size v n xs) (ht : TnS b w w') (hb : v.ownBlock ≠ some b) : w'.ownsRow base e size v n xs := by
  obtain ⟨h1, h2⟩ := h
  refine ⟨h1, ?_⟩
  rcases h2 with h2 | ⟨g, cap, cur, hv, hg, hh, r⟩
  · exact Or.inl h2
  · subst hv
    exact Or.inr ⟨g, cap, cur, rfl, hg, (ht.block g (Array.getElem?_eq_some_iff.1 hh).1 (fun e => hb (by simpa [Value.ownBlock] using e))).trans hh, r⟩
theorem ownsRow_grown {w w' : World} {base : Nat} {row : Option Nat} {e : TypeId} {size n : Nat} {v : Value} {xs : List Value} (h : w.ownsRow base e size v n xs) (ht : w.grownBy w' row) (hb : ∀ g, v.ownBlock = some g → row ≠ some g) : w'.ownsRow base e size v n xs := by
  obtain ⟨h1, h2⟩ := h
  refine ⟨h1, ?_⟩
  rcases h2 with h2 | ⟨g, cap, cur, hv, hg, hh, r⟩
  · exact Or.inl h2
  · subst hv
    exact Or.inr ⟨g, cap, cur, rfl, hg, (ht.block g (Array.getElem?_eq_some_iff.1 hh).1 (fun e => hb g rfl e.symm)).trans hh, r⟩
theorem CodeO.tn {n b : Nat} {w w' : World} {v : Value} {c : List In} (h : CodeO n w v c) (ht : TnS b w w') (hb : b < n) : CodeO n w' v c :=
  ownsRow_tn h ht (fun e => by have := (World.ownsRow.lt h b e).1; omega)
theorem CodeO.nil (n : Nat) (w : World) : CodeO n w (.slice none 0 0) [] := World.ownsRow_nil _ _ _ _
theorem CodeO.lower {n m : Nat} {w : World} {v : Value} {c : List In} (h : CodeO n w v c) (hm : m ≤ n) : CodeO m w v c := by
  obtain ⟨h1, h2⟩ := h
  refine ⟨h1, ?_⟩
  rcases h2 with h2 | ⟨g, cap, cur, hv, hg, r⟩
  · exact Or.inl h2
  · exact Or.inr ⟨g, cap, cur, hv, Nat.le_trans hm hg, r⟩
theorem CodeO.form {n : Nat} {w : World} {v : Value} {c : List In} (h : CodeO n w v c) : ∃ ao cap, v = .slice ao c.length cap := by
  obtain ⟨ao, cap, e, _⟩ := h.code.form
  exact ⟨ao, cap, e⟩
theorem cell_newL (w : World) (l : List Value) (t : TypeId) : ∀ j u, l[j]? = some u → (w.alloc (.cells l.toArray t)).cell? ((⟨w.heap.size, 0, none⟩ : Addr).add j) = some u := by
  intro j u h
  have hadd : (⟨w.heap.size, 0, none⟩ : Addr).add j = ⟨w.heap.size, j, none⟩ := by unfold Addr.add; split <;> simp_all
  rw [hadd, (BkS.new t w l).cell j]
  exact h
/-- append of one instruction, which lies in a fresh block. -/
theorem wpI_append1 {w : World} {ops : Array Oper} {rest : List Oper} {o : Oper} {a : Act} {Q : Exit → Act → World → Prop} (hgd : o.guard = none) (s x : Operand)
    (ho : o.op = .call { callee := .builtin .append, args := #[s, x], argTypes := #[53, 53] }) (base : Nat) (v : Value) (pre : List In) (c : In) (hs : a.eval s = v) (hown : CodeO base w v pre)
    (k : Nat) (hx : a.eval x = .slice (some ⟨k, 0, none⟩) 1 1) (hk : k = w.heap.size)
    (hlen : pre.length ≤ 4000000) (hbase : base ≤ w.heap.size)
    (h : ∀ v' w', CodeO base w' v' (pre ++ [c]) → w.grownBy w' v.ownBlock → wpList Tryz.prog ops Q rest (a.put o.dst v') w') : wpList Tryz.prog ops Q (o :: rest) a (w.alloc (.cells #[.int .i64 c.1, .int .i64 c.2.1, .int .i64 c.2.2.1, .int .i64 c.2.2.2.1, .int .u32 c.2.2.2.2] 59)) := by
  subst hk
  obtain ⟨i0, hi, hz0, hz1, hz2⟩ := info_parts infoI5
  refine wpList_append_own _ hgd s x 53 ho base 59 i0 (.agg #[.int .i64 0, .int .i64 0, .int .i64 0, .int .i64 0, .int .u32 0]) 5 40 Tryz.underlying53 hi hz0 hz1 hz2 rfl (by decide) v pre.length (pre.flatMap insC) hs (World.ownsRow.alloc hown _) ⟨w.heap.size, 0, none⟩ 1 1 (insC c) hx rfl (cell_newL _ _ _)
    (fun u hu => by simp at hu; rcases hu with rfl | rfl | rfl | rfl | rfl <;> rfl) (by unfold maxLen; omega) (by omega) (by simp; omega) fun v' w' h1 h2 _ => h v' w' ?_ ?_
  · unfold CodeO; rw [List.length_append, List.flatMap_append]; simpa using h1
  · exact ⟨h2.os, h2.tape, h2.output, Nat.le_trans (by simp) h2.size, fun i hi hne => (h2.block i (by simp; omega) hne).trans (Below.heap_alloc _ _ i hi)⟩
/-- append of one function. -/
theorem wpF_append1 {w : World} {ops : Array Oper} {rest : List Oper} {o : Oper} {a : Act} {Q : Exit → Act → World → Prop} (hgd : o.guard = none) (s x : Operand)
    (ho : o.op = .call { callee := .builtin .append, args := #[s, x], argTypes := #[22, 22] }) (base : Nat) (v : Value) (pre : List Fu) (r : Int) (cv : Value) (c : List In) (hs : a.eval s = v) (hown : CopyO base w v pre) (hc : CodeO base w cv c)
    (k : Nat) (hx : a.eval x = .slice (some ⟨k, 0, none⟩) 1 1) (hk : k = w.heap.size)
    (hlen : pre.length ≤ 4000000) (hbase : base ≤ w.heap.size)
    (h : ∀ v' w', CopyO base w' v' (pre ++ [(r, c)]) → w.grownBy w' v.ownBlock → wpList Tryz.prog ops Q rest (a.put o.dst v') w') : wpList Tryz.prog ops Q (o :: rest) a (w.alloc (.cells #[.int .i64 r, cv] 55)) := by
  subst hk
  obtain ⟨i0, hi, hz0, hz1, hz2⟩ := info_parts infoF2
  obtain ⟨rs, hR, hl, hi2⟩ := hown
  have hone : ∀ u ∈ fuC (r, cv), u.oneCell' = true := by
    obtain ⟨ao, cap, rfl⟩ := hc.form
    intro u hu
    simp at hu
    rcases hu with rfl | rfl <;> rfl
  have hrow := hR
  unfold RowO at hrow
  refine wpList_append_own _ hgd s x 22 ho base 55 i0 (.agg #[.int .i64 0, .slice none 0 0]) 2 32 Tryz.underlying22 hi hz0 hz1 hz2 rfl (by decide) v rs.length (rs.flatMap fuC) hs (World.ownsRow.alloc hrow _) ⟨w.heap.size, 0, none⟩ 1 1 (fuC (r, cv)) hx rfl (cell_newL _ _ _)
    hone (by rw [hl]; unfold maxLen; omega) (by rw [hl]; omega) (by simp; omega) fun v' w' h1 h2 _ => h v' w' ?_ ?_
  · refine ⟨rs ++ [(r, cv)], ?_, by simp [hl], fun i hlt => ?_⟩
    · unfold RowO; rw [List.length_append, List.flatMap_append]; simpa using h1
    · have keep : ∀ u d, CodeO base w u d → CodeO base w' u d := fun u d hd =>
        ownsRow_grown (ownsRow_adds hd ((Below.refl _ _).alloc (Nat.le_refl _) _)) h2 (fun g hg e => ownsRow_ne hd hR (by decide) g hg e)
      rw [List.length_append, List.length_singleton] at hlt
      by_cases hlt2 : i < pre.length
      · have e1 : (rs ++ [(r, cv)]).getD i zR = rs.getD i zR := by rw [List.getD_eq_getElem?_getD, List.getD_eq_getElem?_getD, List.getElem?_append_left (by omega)]
        have e2 : (pre ++ [(r, c)]).getD i zF = pre.getD i zF := by rw [List.getD_eq_getElem?_getD, List.getD_eq_getElem?_getD, List.getElem?_append_left hlt2]
        rw [e1, e2]
        exact ⟨(hi2 i hlt2).1, keep _ _ (hi2 i hlt2).2⟩
      · have hie : i = pre.length := by omega
        subst hie
        have e1 : (rs ++ [(r, cv)]).getD pre.length zR = (r, cv) := by rw [← hl, List.getD_eq_getElem?_getD]; simp
        have e2 : (pre ++ [(r, c)]).getD pre.length zF = (r, c) := by rw [List.getD_eq_getElem?_getD]; simp
        rw [e1, e2]
        exact ⟨rfl, keep _ _ hc⟩
  · exact ⟨h2.os, h2.tape, h2.output, Nat.le_trans (by simp) h2.size, fun i hi hne => (h2.block i (by simp; omega) hne).trans (Below.heap_alloc _ _ i hi)⟩
theorem CopyO.tn {n b : Nat} {w w' : World} {v : Value} {fs : List Fu} (h : CopyO n w v fs) (ht : TnS b w w') (hb : b < n) : CopyO n w' v fs := by
  obtain ⟨r, hR, hl, hi⟩ := h
  refine ⟨r, ownsRow_tn hR ht (fun e => by have := (World.ownsRow.lt hR b e).1; omega), hl, fun i hlt => ⟨(hi i hlt).1, (hi i hlt).2.tn ht hb⟩⟩
theorem CopyO.nil (n : Nat) (w : World) : CopyO n w (.slice none 0 0) [] := ⟨[], World.ownsRow_nil _ _ _ _, rfl, fun _ h => absurd h (by simp)⟩
end Go.Proofs.YthhegcngkpfcoaaGreatDoor
