/- Merged: GC2. -/
import Derived.Test.YthhegcngkpfcoaaGreatY15
namespace Go.Proofs.YthhegcngkpfcoaaGreat
open Go Go.RowKit Go.Shelf

theorem infoI5 : (Tryz.prog.info? 37).map (fun i => (i.zero, i.size, i.bytes)) = some (some (.agg #[.int .i64 0, .int .i64 0, .int .i64 0, .int .i64 0, .int .u32 0]), 5, 40) := by kernel_rfl
theorem infoF2 : (Tryz.prog.info? 72).map (fun i => (i.zero, i.size, i.bytes)) = some (some (.agg #[.int .i64 0, .slice none 0 0]), 2, 32) := by kernel_rfl

set_option maxRecDepth 100000 in
set_option maxHeartbeats 1000000 in
theorem clone_ins {n : Nat} (v : Value) (c : List In) (w : World) (hc : CodeW n w v c) (hl : c.length ≤ 1600) : Calls Tryz.prog 70 #[v] w fun e w' => ∃ v', e = .returned v' ∧ CodeO w.heap.size w' v' c ∧ Adds w w' := by
  have HC := Lib.hid hc
  obtain ⟨ao, cap, rfl, h1, h2, h3⟩ := hc
  cases ao with
  | none =>
    have hnil : c = [] := by
      apply Classical.byContradiction
      intro h
      obtain ⟨b, off, e, _⟩ := h3 h
      cases e
    clear h3
    have hq : ∀ W m, (binOp .eql 70 (.slice none m cap) (.slice none 0 0)).run Tryz.prog W = .ok (.bool true) W := fun W m => Lib.run_eql_slice_nil W _ 37 none _ _ _ _ (by kernel_rfl)
    go_enter Tryz.func70, Tryz.ntmps70
    go_wp2
    go_ret
    exact ⟨_, rfl, hnil ▸ World.ownsRow_nil _ _ _ _, Adds.refl _⟩
  | some ad =>
    clear h3
    obtain ⟨i0, hi, hz, hs, hb⟩ := info_parts infoI5
    have hq : ∀ W, (binOp .eql 70 (.slice (some ad) c.length cap) (.slice none 0 0)).run Tryz.prog W = .ok (.bool false) W := fun W => Lib.run_eql_slice_nil W _ 37 (some ad) _ _ _ _ (by kernel_rfl)
    have A1 := Lib.hid (Gr.new w (.cells #[] 37)).adds
    have HN := Lib.hid (HC.out.adds A1.out).cells
    obtain ⟨l, hl'⟩ : ∃ l, c.length = l := ⟨_, rfl⟩
    have HL := Lib.hid hl'
    have HB := Lib.hid hl
    simp only [hl'] at hq HC ⊢
    clear hl' hl h1 h2
    go_enter Tryz.func70, Tryz.ntmps70
    go_wp2_with (at_builtin; refine wpList_append_own _ rfl _ _ 70 rfl w.heap.size 37 i0 _ 5 40 (by kernel_rfl) hi hz hs hb rfl (by decide) _ _ _ rfl (World.ownsRow_made w #[] 0 (Nat.le_refl _) (Nat.zero_le _) (by simp)) ad l cap (c.flatMap insC) rfl (by rw [flat_len insC 5 insC_len, HL.out]) HN.out (insC_one c) (by have := HB.out; have := HL.out; simp only [maxLen]; omega) (by have := HB.out; have := HL.out; omega) (by simp) ?_; intro v5 w5 o5 b5 _; have O5 := Lib.hid o5; clear o5; have A5 := Lib.hid (show Adds w w5 from TnS.own A1.out (Nat.le_refl _) b5); clear b5)
    go_ret
    refine ⟨_, rfl, ?_, A5.out⟩
    have h := O5.out
    rw [Nat.zero_add, List.nil_append] at h
    unfold CodeO
    rw [HL.out]
    exact h
/-- The functions' cells, as a row. -/
theorem FuncsW.row {n : Nat} {w : World} {v : Value} {fs : List Fu} (h : FuncsW n w v fs) : ∃ r : List (Int × Value), r.length = fs.length ∧ (∀ i, i < fs.length → (r.getD i zR).1 = (fs.getD i zF).1 ∧ CodeW n w (r.getD i zR).2 (fs.getD i zF).2) ∧
    (∀ ad cap, v = .slice (some ad) fs.length cap → ∀ j u, (r.flatMap fuC)[j]? = some u → w.cell? (ad.add j) = some u) ∧ (∀ u ∈ r.flatMap fuC, u.oneCell' = true) := by
  obtain ⟨ao, cap, rfl, _, _, h3⟩ := h
  by_cases h0 : fs = []
  · subst h0
    exact ⟨[], rfl, fun i hi => by simp at hi, fun _ _ _ j u hu => by simp at hu, fun u hu => by simp at hu⟩
  · obtain ⟨g, off, rfl, hg, hat⟩ := h3 h0
    clear h3
    let P : Nat → Int × Value → Prop := fun i x => w.cell? ⟨g, off + i * 2, none⟩ = some (.int .i64 x.1) ∧ w.cell? ⟨g, off + i * 2 + 1, none⟩ = some x.2 ∧ x.1 = (fs.getD i zF).1 ∧ CodeW n w x.2 (fs.getD i zF).2
    obtain ⟨r, hrl, hr⟩ : ∃ r : List (Int × Value), r.length = fs.length ∧ ∀ i, i < fs.length → P i (r.getD i zR) := by
      have hex : ∀ i, i < fs.length → ∃ x, P i x := fun i hi => by
        obtain ⟨k0, u, k1, hc, _⟩ := hat i hi
        exact ⟨((fs.getD i zF).1, u), k0, k1, rfl, hc⟩
      classical
      let F : Nat → Int × Value := fun i => if h' : i < fs.length then (hex i h').choose else zR
      refine ⟨(List.range fs.length).map F, by simp, fun i hi => ?_⟩
      have e : ((List.range fs.length).map F).getD i zR = (hex i hi).choose := by simp [List.getD_eq_getElem?_getD, hi, F]
      rw [e]
      exact (hex i hi).choose_spec
    refine ⟨r, hrl, fun i hi => (hr i hi).2.2, ?_, ?_⟩
    · intro ad cap' e j u hu
      simp only [Value.slice.injEq, Option.some.injEq, true_and] at e
      obtain ⟨rfl, _⟩ := e
      have hj : j < r.length * 2 := by
        have := (List.getElem?_eq_some_iff.1 hu).1
        rwa [flat_len fuC 2 fuC_len] at this
      have hi : j / 2 < r.length := by omega
      obtain ⟨k0, k1, _, _⟩ := hr (j / 2) (by omega)
      rw [show j = j / 2 * 2 + j % 2 by omega, flat_get fuC 2 fuC_len r _ _ (by omega), List.getElem?_eq_getElem hi] at hu
      have hadd : (⟨g, off, none⟩ : Addr).add j = ⟨g, off + j / 2 * 2 + j % 2, none⟩ := by
        have : (⟨g, off, none⟩ : Addr).add j = ⟨g, off + j, none⟩ := by unfold Addr.add; split <;> simp_all
        rw [this, show off + j / 2 * 2 + j % 2 = off + j by omega]
      rw [hadd]
      rw [List.getD_eq_getElem?_getD, List.getElem?_eq_getElem hi] at k0 k1
      have hm : j % 2 < 2 := by omega
      generalize j % 2 = m at *
      match m, hm with
      | 0, _ => simp at hu; subst hu; exact k0
      | 1, _ => simp at hu; subst hu; exact k1
    · intro u hu
      obtain ⟨x, hx, hxu⟩ := List.mem_flatMap.1 hu
      simp only [fuC, List.mem_cons, List.not_mem_nil, or_false] at hxu
      obtain ⟨i, hi, rfl⟩ := List.mem_iff_getElem.1 hx
      rcases hxu with rfl | rfl
      · rfl
      · obtain ⟨_, _, _, hc⟩ := hr i (by omega)
        rw [List.getD_eq_getElem?_getD, List.getElem?_eq_getElem hi] at hc
        obtain ⟨_, _, e, _, _⟩ := hc.form
        simp only [Option.getD_some] at e
        rw [e]
        rfl
set_option maxRecDepth 100000 in
set_option maxHeartbeats 1000000 in
theorem clone_funcs {n : Nat} (v : Value) (fs : List Fu) (w : World) (hc : FuncsW n w v fs) (hl : fs.length ≤ 40) : Calls Tryz.prog 69 #[v] w fun e w' => ∃ v' r, e = .returned v' ∧ RowO w.heap.size w' v' r ∧ r.length = fs.length ∧ (∀ i, i < fs.length → (r.getD i zR).1 = (fs.getD i zF).1 ∧ CodeW n w (r.getD i zR).2 (fs.getD i zF).2) ∧ Adds w w' := by
  obtain ⟨r, hrl, hr1, hr2, hr3⟩ := hc.row
  have HC := Lib.hid hc
  have HR := Lib.hid hr1
  have H1 := Lib.hid hr3
  obtain ⟨ao, cap, rfl, h1, h2, h3⟩ := hc
  cases ao with
  | none =>
    have hnil : r = [] := by
      apply List.eq_nil_of_length_eq_zero
      rw [hrl]
      apply Classical.byContradiction
      intro h
      obtain ⟨b, off, e, _⟩ := h3 (by rintro rfl; exact h rfl)
      cases e
    have HRl := Lib.hid hrl
    clear h3 hr1 hr2 hr3 hrl
    have hq : ∀ W m, (binOp .eql 26 (.slice none m cap) (.slice none 0 0)).run Tryz.prog W = .ok (.bool true) W := fun W m => Lib.run_eql_slice_nil W _ 72 none _ _ _ _ (by kernel_rfl)
    go_enter Tryz.func69, Tryz.ntmps69
    go_wp2
    go_ret
    refine ⟨_, r, rfl, ?_, HRl.out, HR.out, Adds.refl _⟩
    rw [hnil]
    exact World.ownsRow_nil _ _ _ _
  | some ad =>
    obtain ⟨i0, hi, hz, hs, hb⟩ := info_parts infoF2
    have hq : ∀ W, (binOp .eql 26 (.slice (some ad) fs.length cap) (.slice none 0 0)).run Tryz.prog W = .ok (.bool false) W := fun W => Lib.run_eql_slice_nil W _ 72 (some ad) _ _ _ _ (by kernel_rfl)
    have A1 := Lib.hid (Gr.new w (.cells #[] 72)).adds
    have HN := Lib.hid (fun j u hu => Adds.cellP A1.out (hr2 ad cap rfl j u hu))
    obtain ⟨l, hl'⟩ : ∃ l, fs.length = l := ⟨_, rfl⟩
    have HL := Lib.hid hl'
    have HB := Lib.hid hl
    have HRl := Lib.hid hrl
    simp only [hl'] at hq HC ⊢
    clear hl' hl h1 h2 h3 hr1 hr2 hr3 hrl
    go_enter Tryz.func69, Tryz.ntmps69
    go_wp2_with (at_builtin; refine wpList_append_own _ rfl _ _ 26 rfl w.heap.size 72 i0 _ 2 32 (by kernel_rfl) hi hz hs hb rfl (by decide) _ _ _ rfl (World.ownsRow_made w #[] 0 (Nat.le_refl _) (Nat.zero_le _) (by simp)) ad l cap (r.flatMap fuC) rfl (by rw [flat_len fuC 2 fuC_len, HRl.out, HL.out]) HN.out H1.out (by have := HB.out; have := HL.out; simp only [maxLen]; omega) (by have := HB.out; have := HL.out; omega) (by simp) ?_; intro v5 w5 o5 b5 _; have O5 := Lib.hid o5; clear o5; have A5 := Lib.hid (show Adds w w5 from TnS.own A1.out (Nat.le_refl _) b5); clear b5)
    go_ret
    refine ⟨_, r, rfl, ?_, by rw [HRl.out, HL.out], fun i hi => HR.out i (by rw [HL.out]; exact hi), A5.out⟩
    have h := O5.out
    rw [Nat.zero_add, List.nil_append] at h
    unfold RowO
    rw [HRl.out, HL.out]
    exact h
end Go.Proofs.YthhegcngkpfcoaaGreat
