/- What the law ProgramSame asks of copies that are written to; Same is an equality. -/
import Derived.Test.YtkodjmdghjcndaaG18
import Derived.Test.YtkodjmdghjcndaaGC3
namespace Go.Proofs.Ytkodjmdghjcndaa
open Go Go.RowKit Go.Shelf

theorem samePg_comm (p q : Pg) : samePg q p = samePg p q := by
  unfold samePg
  congr 1
  · exact decide_eq_decide.2 ⟨fun h => ⟨h.1.symm, h.2.1.symm, h.2.2.symm⟩, fun h => ⟨h.1.symm, h.2.1.symm, h.2.2.symm⟩⟩
  · by_cases h : p.1 = q.1
    · rw [sameFs_yes h, sameFs_yes h.symm]
    · rw [sameFs_no h, sameFs_no (fun e => h e.symm)]
theorem samePg_self (p : Pg) : samePg p p = true := by
  unfold samePg
  rw [sameFs_yes rfl]
  simp
theorem FuncsW.ok {n : Nat} {w : World} {v : Value} {fs : List Fu} (h : FuncsW n w v fs) : ∀ f ∈ fs, ∀ x ∈ f.2, OkIn x := by
  intro f hf
  obtain ⟨ao, cap, rfl, _, _, h3⟩ := h
  obtain ⟨g, off, _, _, hc⟩ := h3 (by rintro rfl; simp at hf)
  obtain ⟨i, hi, rfl⟩ := List.mem_iff_getElem.1 hf
  obtain ⟨_, _, _, _, hok⟩ := hc i hi
  rwa [List.getD_eq_getElem?_getD, List.getElem?_eq_getElem hi] at hok
theorem CopyO.adds {n : Nat} {w w' : World} {v : Value} {fs : List Fu} (h : CopyO n w v fs) (ha : Adds w w') : CopyO n w' v fs := by
  obtain ⟨r, h1, h2, h3⟩ := h
  exact ⟨r, h1.adds ha, h2, fun i hi => ⟨(h3 i hi).1, (h3 i hi).2.adds ha⟩⟩
/-- A copy that is written to: of the same lengths. -/
def ShapeW (B : Nat) (W : World) (v : Value) (fs : List Fu) : Prop :=
  ∃ r, RowO B W v r ∧ r.length = fs.length ∧ ∀ i, i < fs.length → ∃ zs, W.ownsRow B 44 5 (r.getD i zR).2 (fs.getD i zF).2.length zs
theorem CopyO.shape {B : Nat} {W : World} {v : Value} {fs : List Fu} (h : CopyO B W v fs) : ShapeW B W v fs := by
  obtain ⟨r, h1, h2, h3⟩ := h
  exact ⟨r, h1, h2, fun i hi => ⟨_, (h3 i hi).2⟩⟩
theorem ShapeW.adds {B : Nat} {W W' : World} {v : Value} {fs : List Fu} (h : ShapeW B W v fs) (ha : Adds W W') : ShapeW B W' v fs := by
  obtain ⟨r, h1, h2, h3⟩ := h
  exact ⟨r, h1.adds ha, h2, fun i hi => by obtain ⟨zs, hz⟩ := h3 i hi; exact ⟨zs, ownsRow_adds hz ha⟩⟩
theorem ShapeW.form {B : Nat} {W : World} {v : Value} {fs : List Fu} (h : ShapeW B W v fs) : ∃ ao cap, v = .slice ao fs.length cap ∧ cap ≤ maxLen ∧ (0 < fs.length → ∃ g, ao = some ⟨g, 0, none⟩) := by
  obtain ⟨r, h2, h3, _⟩ := h
  rcases h2.2 with ⟨rfl, h0⟩ | ⟨g, cap, cur, rfl, hg, hh, _, hm, _⟩
  · rw [h3] at h0
    rw [h0]
    exact ⟨none, 0, rfl, by simp [maxLen], fun h => absurd h (Nat.lt_irrefl 0)⟩
  · rw [h3]
    exact ⟨_, cap, rfl, hm, fun _ => ⟨g, rfl⟩⟩
theorem ShapeW.block {B : Nat} {W : World} {g cap : Nat} {fs : List Fu} (h : ShapeW B W (.slice (some ⟨g, 0, none⟩) fs.length cap) fs) : B ≤ g ∧ ∃ cur, W.heap[g]? = some (.cells cur 40 (0, 0)) := by
  obtain ⟨r, h2, h3, _⟩ := h
  rcases h2.2 with ⟨e, _⟩ | ⟨g', cap', cur, e, hg, hh, _⟩
  · cases e
  · simp only [Value.slice.injEq, Option.some.injEq, Addr.mk.injEq, and_true] at e
    obtain ⟨rfl, _⟩ := e
    exact ⟨hg, cur, hh⟩
/-- What stands of the i-th. -/
theorem ShapeW.at {B : Nat} {W : World} {g cap : Nat} {fs : List Fu} (h : ShapeW B W (.slice (some ⟨g, 0, none⟩) fs.length cap) fs) {i : Nat} (hi : i < fs.length) :
    ∃ x ah ch, W.cell? ⟨g, i * 2, none⟩ = some (.int .i64 x) ∧ W.frozen? ⟨g, i * 2, none⟩ = false ∧ W.cell? ⟨g, i * 2 + 1, none⟩ = some (.slice ah (fs.getD i zF).2.length ch) ∧
      ∀ k, k < (fs.getD i zF).2.length → ∃ b z, ah = some ⟨b, 0, none⟩ ∧ B ≤ b ∧ (∃ cur, W.heap[b]? = some (.cells cur 44 (0, 0))) ∧ W.cell? ⟨b, k * 5 + 1, none⟩ = some z ∧ W.frozen? ⟨b, k * 5 + 1, none⟩ = false := by
  obtain ⟨r, h2, h3, h4⟩ := h
  rw [← h3] at h2
  obtain ⟨k0, k1⟩ := h2.at (i := i) (by omega)
  obtain ⟨zs, hz⟩ := h4 i hi
  have hf := ownsRow_free h2 (i * 2)
  have hz' := hz
  rcases hz.2 with ⟨e, h0⟩ | ⟨b, ch, cur, e, hb, hh, _⟩
  · rw [e] at k1
    refine ⟨_, none, 0, k0, hf, by rw [h0]; exact k1, fun k hk => by omega⟩
  · rw [e] at k1 hz'
    refine ⟨_, _, ch, k0, hf, k1, fun k hk => ?_⟩
    have hl : k * 5 + 1 < zs.length := by rw [hz.1]; omega
    exact ⟨b, zs[k * 5 + 1], rfl, hb, ⟨cur, hh⟩, ownsRow_cell hz' _ (List.getElem?_eq_getElem hl), ownsRow_free hz' _⟩
theorem ShapeW.regs {B : Nat} {W : World} {g cap : Nat} {fs : List Fu} (h : ShapeW B W (.slice (some ⟨g, 0, none⟩) fs.length cap) fs) (i : Nat) (x : Int) : ShapeW B (W.setCell ⟨g, i * 2, none⟩ (.int .i64 x)) (.slice (some ⟨g, 0, none⟩) fs.length cap) fs := by
  obtain ⟨r, h2, h3, h4⟩ := h
  refine ⟨r.set i (x, (r.getD i zR).2), ?_, by simpa using h3, fun k hk => ?_⟩
  · unfold RowO at h2 ⊢
    rw [h3] at h2
    have h := ownsRow_set h2 (i * 2 + 0) (.int .i64 x)
    rw [flat_set fuC 2 fuC_len r i 0 (by decide) (.int .i64 x) (x, (r.getD i zR).2) (fun y hy => by rw [List.getD_eq_getElem?_getD, hy]; rfl)] at h
    rw [List.length_set, h3]
    exact h
  · obtain ⟨zs, hz⟩ := h4 k hk
    have e : ((r.set i (x, (r.getD i zR).2)).getD k zR).2 = (r.getD k zR).2 := by
      simp only [List.getD_eq_getElem?_getD]
      by_cases hik : i = k
      · subst hik
        rw [List.getElem?_set_self (by omega), List.getElem?_eq_getElem (by omega)]; rfl
      · rw [List.getElem?_set_ne hik]
    rw [e]
    exact ⟨zs, ownsRow_setCell_other hz (ownsRow_ne h2 hz (by decide) g rfl) _⟩
theorem ShapeW.code {B : Nat} {W : World} {v : Value} {fs : List Fu} {b : Nat} {cur : Array Value} (h : ShapeW B W v fs) (hb : W.heap[b]? = some (.cells cur 44 (0, 0))) (j : Nat) (u : Value) : ShapeW B (W.setCell ⟨b, j, none⟩ u) v fs := by
  obtain ⟨r, h2, h3, h4⟩ := h
  refine ⟨r, ?_, h3, fun k hk => ?_⟩
  · refine ownsRow_setCell_other h2 (fun hv => ?_) u
    rcases h2.2 with ⟨rfl, _⟩ | ⟨g, cap, cur', rfl, _, hh, _⟩
    · cases hv
    · simp only [Value.ownBlock, Option.some.injEq] at hv
      subst hv
      rw [hh] at hb
      simp only [Option.some.injEq, Obj.cells.injEq] at hb
      exact absurd hb.2.1 (by decide)
  · obtain ⟨zs, hz⟩ := h4 k hk
    exact ownsRow_any hz b j u
end Go.Proofs.Ytkodjmdghjcndaa
