/- Merged: GC3. -/
import Derived.Test.YtdkgehhlikaocaaGreatY9
namespace Go.Proofs.YtdkgehhlikaocaaGreat
open Go Go.RowKit Go.Shelf

theorem wp_calmC {P : Program} {c : Code} {Q : Exit → Act → World → Prop} {a : Act} {w : World} (h : c.wp P (Exit.then (Q .normal) (fun _ _ _ => False)) a w) : c.wp P Q a w :=
  Code.wp_mono (Q := Exit.then (Q .normal) (fun _ _ _ => False)) (fun e _ _ hq => by cases e <;> first | exact hq | exact hq.elim) h
/-- The loop's state: the first k codes are copied. -/
structure CopyK (B n0 : Nat) (v : Value) (fs : List Fu) (k : Nat) (w0 W : World) : Prop where
  adds : Adds w0 W
  row : ∃ r, RowO B W v r ∧ r.length = fs.length ∧ (∀ i, i < fs.length → (r.getD i zR).1 = (fs.getD i zF).1) ∧ (∀ i, i < k → i < fs.length → CodeO B W (r.getD i zR).2 (fs.getD i zF).2) ∧ (∀ i, k ≤ i → i < fs.length → CodeW n0 W (r.getD i zR).2 (fs.getD i zF).2)
theorem CodeO.adds {n : Nat} {w w' : World} {v : Value} {c : List In} (h : CodeO n w v c) (ha : Adds w w') : CodeO n w' v c := ownsRow_adds h ha
theorem RowO.adds {n : Nat} {w w' : World} {v : Value} {r : List (Int × Value)} (h : RowO n w v r) (ha : Adds w w') : RowO n w' v r := ownsRow_adds h ha
theorem CopyK.more {B n0 : Nat} {v : Value} {fs : List Fu} {k : Nat} {w0 W W' : World} (h : CopyK B n0 v fs k w0 W) (ha : Adds W W') (hn : n0 ≤ W.heap.size) : CopyK B n0 v fs k w0 W' := by
  obtain ⟨h1, r, h2, h3, h4, h5, h6⟩ := h
  exact ⟨h1.trans ha, r, h2.adds ha, h3, h4, fun i hk hi => (h5 i hk hi).adds ha, fun i hk hi => (h6 i hk hi).below (Below.mono ha hn)⟩
theorem RowO.at {n g cap : Nat} {w : World} {r : List (Int × Value)} (h : RowO n w (.slice (some ⟨g, 0, none⟩) r.length cap) r) {i : Nat} (hi : i < r.length) : w.cell? ⟨g, i * 2, none⟩ = some (.int .i64 (r.getD i zR).1) ∧ w.cell? ⟨g, i * 2 + 1, none⟩ = some (r.getD i zR).2 := by
  have key : ∀ j, j < 2 → ∀ u, (fuC (r.getD i zR))[j]? = some u → w.cell? ⟨g, i * 2 + j, none⟩ = some u := by
    intro j hj u hu
    refine ownsRow_cell h (i * 2 + j) ?_
    rw [flat_get fuC 2 fuC_len r i j hj, List.getElem?_eq_getElem hi]
    rw [List.getD_eq_getElem?_getD, List.getElem?_eq_getElem hi] at hu
    exact hu
  exact ⟨key 0 (by decide) _ rfl, key 1 (by decide) _ rfl⟩
/-- One code more. -/
theorem CopyK.step {B n0 g cap : Nat} {fs : List Fu} {k : Nat} {w0 W : World} {u : Value} (h : CopyK B n0 (.slice (some ⟨g, 0, none⟩) fs.length cap) fs k w0 W) (hk : k < fs.length) (hn : n0 ≤ B) (hw : w0.heap.size ≤ B) (hu : CodeO B W u (fs.getD k zF).2) :
    CopyK B n0 (.slice (some ⟨g, 0, none⟩) fs.length cap) fs (k + 1) w0 (W.setCell ⟨g, k * 2 + 1, none⟩ u) := by
  obtain ⟨h1, r, h2, h3, h4, h5, h6⟩ := h
  have hg : B ≤ g := (h2.lt g rfl).1
  have hT : (46 : TypeId) ≠ 56 := by decide
  have hrow : RowO B (W.setCell ⟨g, k * 2 + 1, none⟩ u) (.slice (some ⟨g, 0, none⟩) fs.length cap) (r.set k ((r.getD k zR).1, u)) := by
    unfold RowO at h2 ⊢
    rw [h3] at h2
    have h := ownsRow_set h2 (k * 2 + 1) u
    rw [flat_set fuC 2 fuC_len r k 1 (by decide) u ((r.getD k zR).1, u) (fun x hx => by rw [List.getD_eq_getElem?_getD, hx]; rfl)] at h
    rw [List.length_set, h3]
    exact h
  have hget : ∀ i, i ≠ k → (r.set k ((r.getD k zR).1, u)).getD i zR = r.getD i zR := fun i hi => by
    simp only [List.getD_eq_getElem?_getD]
    rw [List.getElem?_set_ne (fun e => hi e.symm)]
  have hgk : (r.set k ((r.getD k zR).1, u)).getD k zR = ((r.getD k zR).1, u) := by
    rw [List.getD_eq_getElem?_getD, List.getElem?_set_self (by omega)]; rfl
  refine ⟨Adds.set h1 (Nat.le_trans hw hg) _ _, _, hrow, by simpa using h3, ?_, ?_, ?_⟩
  · intro i hi
    by_cases e : i = k
    · subst e; rw [hgk]; exact h4 i hi
    · rw [hget i e]; exact h4 i hi
  · intro i hik hi
    by_cases e : i = k
    · subst e
      rw [hgk]
      exact ownsRow_setCell_other hu (ownsRow_ne h2 hu hT g rfl) u
    · rw [hget i e]
      exact ownsRow_setCell_other (h5 i (by omega) hi) (ownsRow_ne h2 (h5 i (by omega) hi) hT g rfl) u
  · intro i hik hi
    rw [hget i (by omega)]
    exact (h6 i (by omega) hi).below ⟨rfl, rfl, rfl, by simp [World.setCell], fun b hb => Below.heap_setCell W _ _ _ (fun e => by simp only at e; omega)⟩
theorem ownsRow_low {w : World} {base base' : Nat} {e : TypeId} {size n : Nat} {v : Value} {xs : List Value} (h : w.ownsRow base e size v n xs) (hb : base' ≤ base) : w.ownsRow base' e size v n xs := by
  obtain ⟨h1, h2⟩ := h
  refine ⟨h1, ?_⟩
  rcases h2 with h2 | ⟨g, cap, cur, hv, hg, hh, r⟩
  · exact Or.inl h2
  · exact Or.inr ⟨g, cap, cur, hv, by omega, hh, r⟩
theorem CopyK.start {B B' n0 : Nat} {v : Value} {fs : List Fu} {w0 W : World} {r : List (Int × Value)} (ha : Adds w0 W) (hr : RowO B' W v r) (hB : B ≤ B') (hl : r.length = fs.length) (hi : ∀ i, i < fs.length → (r.getD i zR).1 = (fs.getD i zF).1 ∧ CodeW n0 W (r.getD i zR).2 (fs.getD i zF).2) : CopyK B n0 v fs 0 w0 W :=
  ⟨ha, r, ownsRow_low hr hB, hl, fun i h => (hi i h).1, fun i h => absurd h (Nat.not_lt_zero i), fun i _ h => (hi i h).2⟩
theorem CopyK.form {B n0 : Nat} {v : Value} {fs : List Fu} {k : Nat} {w0 W : World} (h : CopyK B n0 v fs k w0 W) : ∃ ao cap, v = .slice ao fs.length cap ∧ cap ≤ maxLen ∧ (0 < fs.length → ∃ g, ao = some ⟨g, 0, none⟩ ∧ B ≤ g ∧ ∃ cur, W.heap[g]? = some (.cells cur 46 (0, 0))) := by
  obtain ⟨_, r, h2, h3, _⟩ := h
  rcases h2.2 with ⟨rfl, h0⟩ | ⟨g, cap, cur, rfl, hg, hh, _, hm, _⟩
  · rw [h3] at h0
    rw [h0]
    exact ⟨none, 0, rfl, by simp [maxLen], fun h => absurd h (Nat.lt_irrefl 0)⟩
  · rw [h3]
    exact ⟨_, cap, rfl, hm, fun _ => ⟨g, rfl, hg, cur, hh⟩⟩
theorem CopyK.done {B n0 : Nat} {v : Value} {fs : List Fu} {w0 W : World} (h : CopyK B n0 v fs fs.length w0 W) : CopyO B W v fs ∧ Adds w0 W := by
  obtain ⟨h1, r, h2, h3, h4, h5, h6⟩ := h
  exact ⟨⟨r, h2, h3, fun i hi => ⟨h4 i hi, h5 i hi hi⟩⟩, h1⟩
theorem CopyK.here {B n0 g cap : Nat} {fs : List Fu} {k : Nat} {w0 W : World} (h : CopyK B n0 (.slice (some ⟨g, 0, none⟩) fs.length cap) fs k w0 W) (hk : k < fs.length) : ∃ x u, W.cell? ⟨g, k * 2, none⟩ = some (.int .i64 x) ∧ W.cell? ⟨g, k * 2 + 1, none⟩ = some u ∧ W.frozen? ⟨g, k * 2 + 1, none⟩ = false ∧ CodeW n0 W u (fs.getD k zF).2 := by
  obtain ⟨h1, r, h2, h3, h4, h5, h6⟩ := h
  have h2' := h2
  rw [← h3] at h2'
  obtain ⟨k0, k1⟩ := h2'.at (i := k) (by omega)
  exact ⟨_, _, k0, k1, ownsRow_free h2' _, h6 k (Nat.le_refl _) hk⟩
theorem bks_ne {t t' : TypeId} {w : World} {b g : Nat} {l : List Value} {cur : Array Value} (h : BkS t w b l) (hg : w.heap[g]? = some (.cells cur t' (0, 0))) (ht : t ≠ t') : g ≠ b := by
  rintro rfl
  unfold BkS at h
  rw [h] at hg
  simp only [Option.some.injEq, Obj.cells.injEq] at hg
  exact ht hg.2.1
theorem CopyK.box {B n0 b : Nat} {v : Value} {fs : List Fu} {k : Nat} {w0 W : World} {l : List Value} (h : CopyK B n0 v fs k w0 W) (hb : BkS 24 W b l) (hw : w0.heap.size ≤ b) (hn : n0 ≤ b) (i : Nat) (u : Value) : CopyK B n0 v fs k w0 (W.setCell ⟨b, i, none⟩ u) := by
  obtain ⟨h1, r, h2, h3, h4, h5, h6⟩ := h
  have key : ∀ {e : TypeId} {size n : Nat} {v : Value} {xs : List Value}, W.ownsRow B e size v n xs → 24 ≠ e → v.ownBlock ≠ some b := by
    intro e size n v xs ho he hv
    rcases ho.2 with ⟨rfl, _⟩ | ⟨g, cap, cur, rfl, _, hh, _⟩
    · cases hv
    · simp only [Value.ownBlock, Option.some.injEq] at hv
      exact bks_ne hb hh he hv
  refine ⟨Adds.set h1 hw _ _, r, ownsRow_setCell_other h2 (key h2 (by decide)) u, h3, h4, fun i hk hi => ownsRow_setCell_other (h5 i hk hi) (key (h5 i hk hi) (by decide)) u, fun i hk hi => (h6 i hk hi).below ⟨rfl, rfl, rfl, by simp [World.setCell], fun b hb => Below.heap_setCell W _ _ _ (fun e => by simp only at e; omega)⟩⟩
theorem CodeO.low {n m : Nat} {w : World} {v : Value} {c : List In} (h : CodeO n w v c) (hm : m ≤ n) : CodeO m w v c := ownsRow_low h hm
theorem CopyK.block {B n0 g cap : Nat} {fs : List Fu} {k : Nat} {w0 W : World} (h : CopyK B n0 (.slice (some ⟨g, 0, none⟩) fs.length cap) fs k w0 W) (hk : k < fs.length) : ∃ cur, W.heap[g]? = some (.cells cur 46 (0, 0)) := by
  obtain ⟨_, _, e, _, h3⟩ := h.form
  simp only [Value.slice.injEq, true_and] at e
  obtain ⟨rfl, rfl⟩ := e
  obtain ⟨g', e, _, h⟩ := h3 (by omega)
  simp only [Option.some.injEq, Addr.mk.injEq, and_true] at e
  rw [e]
  exact h
set_option maxRecDepth 100000 in
set_option maxHeartbeats 4000000 in
theorem copy_any {n : Nat} (u : Value) (p : Pg) (w : World) (hf : FuncsW n w u p.1) (hn : n ≤ w.heap.size) (hl : p.1.length ≤ 40) (hc : ∀ f ∈ p.1, f.2.length ≤ 1600) : Calls Tryz.prog 48 #[pgV u p] w fun e w' => ∃ v', e = .returned (pgV v' p) ∧ CopyO w.heap.size w' v' p.1 ∧ Adds w w' := by
  obtain ⟨fs, x1, x2, x3⟩ := p
  simp only at hf hl hc ⊢
  have HF := Lib.hid hf
  have HC := Lib.hid hc
  have HN := Lib.hid hn
  have HL := Lib.hid hl
  obtain ⟨ao, cap, rfl, _, _, _⟩ := hf
  obtain ⟨fl, hfl⟩ : ∃ fl, fs.length = fl := ⟨_, rfl⟩
  have HFl := Lib.hid hfl
  simp only [hfl] at HF ⊢
  have hfI : (fl : Int) ≤ 40 := by omega
  clear hfl hl hc hn
  obtain ⟨w1, hw1⟩ : ∃ w1, w.alloc (.cells #[.slice ao fl cap, .int .i64 x1, .int .i64 x2, .int .i64 x3] 24) = w1 := ⟨_, rfl⟩
  have A1 := Lib.hid (show Adds w w1 by rw [← hw1]; exact (Gr.new _ _).adds)
  have B1 := Lib.hid (show BkS 24 w1 w.heap.size [.slice ao fl cap, .int .i64 x1, .int .i64 x2, .int .i64 x3] by rw [← hw1]; exact BkS.new _ _ _)
  have b0 : w1.cell? ⟨w.heap.size, 0, none⟩ = some (.slice ao fl cap) := B1.out.cell 0
  obtain ⟨w2, hw2⟩ : ∃ w2, w1.alloc (.cells #[.slice none 0 0, .int .i64 0, .int .i64 0, .int .i64 0] 24) = w2 := ⟨_, rfl⟩
  have A2 := Lib.hid (show Adds w1 w2 by rw [← hw2]; exact (Gr.new _ _).adds)
  have B2 := Lib.hid (show BkS 24 w2 w1.heap.size [.slice none 0 0, .int .i64 0, .int .i64 0, .int .i64 0] by rw [← hw2]; exact BkS.new _ _ _)
  have C1 := Lib.hid (B1.out.adds A2.out)
  have S1 := Lib.hid B1.out.lt
  have S2 := Lib.hid B2.out.lt
  have A12 := Lib.hid (Adds.trans A1.out A2.out)
  have HCl := Lib.hid (clone_funcs (.slice ao fl cap) fs w2 (by have h := HF.out.below (Below.mono A12.out HN.out); exact h) (by have := HFl.out; have := HL.out; omega))
  have c0 : w2.cell? ⟨w.heap.size, 0, none⟩ = some (.slice ao fl cap) := C1.out.cell 0
  clear b0
  go_enter Tryz.func48, Tryz.ntmps48
  go_wp2_with (go_at_call 64; refine HCl.out.mono ?_; clear HCl; rintro e w3 ⟨v', r, rfl, hro, hrl, hri, a3⟩; have hk := CopyK.start (B := w.heap.size) (Adds.trans A12.out a3) (hro) (Nat.le_of_lt (Nat.lt_trans S1.out S2.out)) hrl (fun i hi => ⟨(hri i hi).1, (hri i hi).2.below (Below.mono a3 (Nat.le_trans HN.out (Nat.le_of_lt (Nat.lt_trans S1.out S2.out))))⟩); obtain ⟨ap, cp, rfl, hcm, hfm⟩ := hk.form; rw [HFl.out] at hfm; have HFm := Lib.hid hfm; have HK := Lib.hid hk; have A3 := Lib.hid a3; have C3 := Lib.hid (C1.out.adds a3); have D3 := Lib.hid (B2.out.adds a3); have fz := C3.out.free 0; have c3 : w3.cell? ⟨w.heap.size, 0, none⟩ = some (.slice ao fl cap) := C3.out.cell 0; have E4 := Lib.hid (C3.out.set 0 (.slice ap fl cp)); have c4 : (w3.setCell ⟨w.heap.size, 0, none⟩ (.slice ap fl cp)).cell? ⟨w.heap.size, 0, none⟩ = some (.slice ap fl cp) := E4.out.cell 0; clear hro hrl hri a3 hk hfm c0; simp only [HFl.out])
  have HK4 := Lib.hid (HK.out.box C3.out (Nat.le_refl _) HN.out 0 (.slice ap fl cp))
  have D4 := Lib.hid (D3.out.other (c := w.heap.size) (i := 0) (Nat.ne_of_lt S1.out) (.slice ap fl cp))
  clear HK D3 C3 fz c3 c4
  generalize w3.setCell ⟨w.heap.size, 0, none⟩ (.slice ap fl cp) = w4 at *
  go_loopw [12] (fun i wr => ∃ k : Nat, i = .int .i64 k ∧ k ≤ fl ∧ Hid (BkS 24 wr w.heap.size [.slice ap fl cp, .int .i64 x1, .int .i64 x2, .int .i64 x3]) ∧ Hid (BkS 24 wr w1.heap.size [.slice none 0 0, .int .i64 0, .int .i64 0, .int .i64 0]) ∧ Hid (CopyK w.heap.size n (.slice ap fs.length cp) fs k w wr)) (fun i _ => fl + 1 - (intOf i).toNat)
  case atStart => exact ⟨0, rfl, Nat.zero_le _, E4, D4, HK4⟩
  case round =>
    obtain ⟨k, rfl, hk, E, D, K⟩ := hrel
    by_cases hlt : k < fl
    · have hltI : (k : Int) < (fl : Int) := by omega
      obtain ⟨g, rfl, hg, _⟩ := HFm.out (Nat.lt_of_le_of_lt (Nat.zero_le _) hlt)
      obtain ⟨x, u, k0, k1, kf, hcu⟩ := K.out.here (k := k) (by rw [HFl.out]; exact hlt)
      obtain ⟨ac, cc, rfl, _, _⟩ := hcu.form
      have hcl : (fs.getD k zF).2.length ≤ 1600 := by
        have hk : k < fs.length := by rw [HFl.out]; exact hlt
        rw [List.getD_eq_getElem?_getD, List.getElem?_eq_getElem hk]
        exact HC.out _ (List.getElem_mem hk)
      have HKf := Lib.hid kf
      have HLt := Lib.hid hlt
      have HCk := Lib.hid (fun W (h : Adds wr W) => clone_ins _ (fs.getD k zF).2 W (hcu.adds h) hcl)
      have HNr := Lib.hid (Nat.le_trans HN.out K.out.adds.size)
      clear hcu hcl kf hlt hk
      obtain ⟨lc, hlc⟩ : ∃ l, (fs.getD k zF).2.length = l := ⟨_, rfl⟩
      have HLc := Lib.hid hlc
      simp only [hlc] at k1 HCk ⊢
      clear hlc
      obtain ⟨w5, hw5⟩ : ∃ w5, wr.alloc (.cells #[.int .i64 0, .slice none 0 0] 46) = w5 := ⟨_, rfl⟩
      have A5 := Lib.hid (show Adds wr w5 by rw [← hw5]; exact (Gr.new _ _).adds)
      have B5 := Lib.hid (show BkS 46 w5 wr.heap.size [.int .i64 0, .slice none 0 0] by rw [← hw5]; exact BkS.new _ _ _)
      have z0 : w5.cell? ⟨wr.heap.size, 0, none⟩ = some (.int .i64 0) := B5.out.cell 0
      have z1 : w5.cell? ⟨wr.heap.size, 1, none⟩ = some (.slice none 0 0) := B5.out.cell 1
      have y0 := B5.out.free 0
      have y1 := B5.out.free 1
      go_wp2
      have A7 := Lib.hid (show Adds wr ((w5.setCell ⟨wr.heap.size, 0, none⟩ (.int .i64 x)).setCell ⟨wr.heap.size, 1, none⟩ (.slice ac lc cc)) from Adds.set (Adds.set A5.out (Nat.le_refl _) _ _) (Nat.le_refl _) _ _)
      have B7 := Lib.hid ((B5.out.set 0 (.int .i64 x)).set 1 (.slice ac lc cc))
      clear z0 z1 y0 y1 k0 k1 B5 A5
      generalize (w5.setCell ⟨wr.heap.size, 0, none⟩ (.int .i64 x)).setCell ⟨wr.heap.size, 1, none⟩ (.slice ac lc cc) = w7 at *
      clear hw5
      have l0 : w7.cell? ⟨w.heap.size, 0, none⟩ = some (.slice (some ⟨g, 0, none⟩) fl cp) := (E.out.adds A7.out).cell 0
      have l1 : w7.cell? ⟨wr.heap.size, 1, none⟩ = some (.slice ac lc cc) := B7.out.cell 1
      refine wp_calmC ?_
      go_region_with (go_at_call 65; refine (HCk.out _ (Adds.trans A7.out (Adds.drew _))).mono ?_; rintro e w8 ⟨u', rfl, ho, a8⟩; have A8 := Lib.hid (Adds.trans (Adds.trans A7.out (Adds.drew _)) a8); have HO := Lib.hid ho; obtain ⟨a2, c2, he2, _, _⟩ := ho.code.form; rw [HLc.out] at he2; subst he2; have K8 := Lib.hid (K.out.more A8.out HNr.out); obtain ⟨_, _, _, n1, nf, _⟩ := K8.out.here (k := k) (by rw [HFl.out]; exact HLt.out); have m0 : w8.cell? ⟨w.heap.size, 0, none⟩ = some (.slice (some ⟨g, 0, none⟩) fl cp) := (E.out.adds A8.out).cell 0; clear ho a8)
      all_goals
        simp only [Exit.then]
        go_simp
        go_wp2
        go_roundw
        case rel =>
          have hs := K8.out.step (by rw [HFl.out]; exact HLt.out) HN.out (Nat.le_refl _) (CodeO.low HO.out (Nat.le_trans K.out.adds.size (Nat.le_trans A7.out.size (by exact Nat.le_refl _))))
          obtain ⟨cur, hcur⟩ := K8.out.block (by rw [HFl.out]; exact HLt.out)
          refine ⟨k + 1, by go_num, HLt.out, Lib.hid ((E.out.adds A8.out).other ?_ _), Lib.hid ((D.out.adds A8.out).other ?_ _), Lib.hid hs⟩
          · exact bks_ne (E.out.adds A8.out) hcur (by decide)
          · exact bks_ne (D.out.adds A8.out) hcur (by decide)
        case measure => simp [intOf]; have := HLt.out; omega
    · have hltI : ¬ (k : Int) < (fl : Int) := by omega
      have e0 : wr.cell? ⟨w.heap.size, 0, none⟩ = some (.slice ap fl cp) := E.out.cell 0
      have e1 : wr.cell? ⟨w.heap.size, 1, none⟩ = some (.int .i64 x1) := E.out.cell 1
      have e2 : wr.cell? ⟨w.heap.size, 2, none⟩ = some (.int .i64 x2) := E.out.cell 2
      have e3 : wr.cell? ⟨w.heap.size, 3, none⟩ = some (.int .i64 x3) := E.out.cell 3
      have d0 : wr.cell? ⟨w1.heap.size, 0, none⟩ = some (.slice none 0 0) := D.out.cell 0
      have d1 : wr.cell? ⟨w1.heap.size, 1, none⟩ = some (.int .i64 0) := D.out.cell 1
      have d2 : wr.cell? ⟨w1.heap.size, 2, none⟩ = some (.int .i64 0) := D.out.cell 2
      have d3 : wr.cell? ⟨w1.heap.size, 3, none⟩ = some (.int .i64 0) := D.out.cell 3
      have y0 := D.out.free 0
      have y1 := D.out.free 1
      have y2 := D.out.free 2
      have y3 := D.out.free 3
      go_wp2
      try simp only [Exit.jump]
      try simp only [Exit.inBlock, Exit.then]
      refine bodyPost_ret (res_box rfl _ _ _ _ _ _ _ rfl ((((D.out.set 0 (.slice ap fl cp)).set 1 (.int .i64 x1)).set 2 (.int .i64 x2)).set 3 (.int .i64 x3)) Tryz.underlying24 rfl (by kernel_rfl)) rfl ?_
      have hkl : k = fs.length := by have := HFl.out; omega
      have h0 : w.heap.size ≤ w1.heap.size := Nat.le_of_lt S1.out
      have h1 : n ≤ w1.heap.size := Nat.le_trans HN.out h0
      have hd := ((((K.out.box D.out h0 h1 0 (.slice ap fl cp)).box (D.out.set 0 _) h0 h1 1 (.int .i64 x1)).box ((D.out.set 0 _).set 1 _) h0 h1 2 (.int .i64 x2)).box (((D.out.set 0 _).set 1 _).set 2 _) h0 h1 3 (.int .i64 x3))
      rw [hkl, HFl.out] at hd
      rw [← HFl.out] at hd
      have hd2 := hd.done
      rw [HFl.out] at hd2
      exact ⟨_, rfl, hd2.1, hd2.2⟩
end Go.Proofs.YtdkgehhlikaocaaGreat
