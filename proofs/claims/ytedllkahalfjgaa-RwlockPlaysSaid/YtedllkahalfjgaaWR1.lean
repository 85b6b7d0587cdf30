/- The document's locks in memory; New, right, Writer, Readers: their contracts. -/
import Derived.Test.YtedllkahalfjgaaWL0
namespace Go.Proofs.Ytedllkahalfjgaa
open Go Go.RowKit

/-- A slice of ints that is only read: v reads xs, wherever it lies. -/
def IntsW (w : World) (v : Value) (xs : List Int) : Prop :=
  ∃ ao cap, v = .slice ao xs.length cap ∧ xs.length ≤ cap ∧ cap ≤ maxLen ∧ (xs ≠ [] → ∃ g k, ao = some ⟨g, k, none⟩ ∧ g < w.heap.size ∧ ∀ j x, xs[j]? = some x → w.cell? ⟨g, k + j, none⟩ = some (intV x))
theorem IntsW.adds {w w' : World} {v : Value} {xs : List Int} (h : IntsW w v xs) (ha : Adds w w') : IntsW w' v xs := by
  obtain ⟨ao, cap, e, h1, h2, h3⟩ := h
  exact ⟨ao, cap, e, h1, h2, fun h0 => by
    obtain ⟨g, k, e2, hg, hc⟩ := h3 h0
    exact ⟨g, k, e2, Nat.lt_of_lt_of_le hg ha.size, fun j x hx => Adds.cellAt ha (hc j x hx)⟩⟩
/-- Blocks of its own, here and there: what turns elsewhere leaves it. -/
theorem CutR.ints {w : World} {v : Value} {xs : List Int} (h : CutR w v xs) : IntsW w v xs := by
  have hf := h
  rcases h with ⟨rfl, rfl⟩ | ⟨g, k, cap, cur, rfl, hh, h1, h2, h3, h4⟩
  · exact ⟨none, 0, rfl, Nat.le_refl _, Nat.zero_le _, fun h => absurd rfl h⟩
  · exact ⟨_, cap, rfl, h2, h3, fun _ => ⟨g, k, rfl, (Array.getElem?_eq_some_iff.1 hh).1, fun j x hx => hf.cells.2 j x hx⟩⟩
/-- The document's locks: a slice of two cells each; readers' rows that are kept below a bound. R: the blocks they lie in. -/
def RefW (R : Nat → Prop) (w : World) (s : Value) (ls : List Lk) : Prop :=
  ∃ g cap cur, s = .slice (some ⟨g, 0, none⟩) ls.length cap ∧ R g ∧ w.heap[g]? = some (.cells cur 108 (0, 0)) ∧ ls.length ≤ cap ∧ cap ≤ maxLen ∧ cur.size = cap * 2 ∧
    ∀ (i : Nat) x, ls[i]? = some x → cur[i * 2 + 1]? = some (.int .i64 x.wr) ∧ ∃ sv, cur[i * 2]? = some sv ∧ CutR w sv x.rd ∧ ∀ k, sv.ownBlock = some k → R k
theorem RefW.kept {R : Nat → Prop} {w w' : World} {s : Value} {ls : List Lk} (h : RefW R w s ls) (hb : ∀ k, R k → w'.heap[k]? = w.heap[k]?) : RefW R w' s ls := by
  obtain ⟨g, cap, cur, e, hR, hg, h1, h2, h3, h4⟩ := h
  exact ⟨g, cap, cur, e, hR, (hb g hR).trans hg, h1, h2, h3, fun i x hx => by
    obtain ⟨a, sv, b, c, d⟩ := h4 i x hx
    exact ⟨a, sv, b, c.kept (fun k hk => hb k (d k hk)), d⟩⟩
theorem RefW.wide {R R' : Nat → Prop} {w : World} {s : Value} {ls : List Lk} (h : RefW R w s ls) (hR : ∀ k, R k → R' k) : RefW R' w s ls := by
  obtain ⟨g, cap, cur, e, hr, hg, h1, h2, h3, h4⟩ := h
  exact ⟨g, cap, cur, e, hR g hr, hg, h1, h2, h3, fun i x hx => by
    obtain ⟨a, sv, b, c, d⟩ := h4 i x hx
    exact ⟨a, sv, b, c, fun k hk => hR k (d k hk)⟩⟩
/-- They lie below n, and outside of O. -/
abbrev Out (n : Nat) (O : Nat → Prop) : Nat → Prop := fun k => k < n ∧ ¬ O k
theorem RefW.lt {R : Nat → Prop} {w : World} {s : Value} {ls : List Lk} (h : RefW R w s ls) : RefW (fun k => R k ∧ k < w.heap.size) w s ls := by
  obtain ⟨g, cap, cur, e, hR, hg, h1, h2, h3, h4⟩ := h
  exact ⟨g, cap, cur, e, ⟨hR, (Array.getElem?_eq_some_iff.1 hg).1⟩, hg, h1, h2, h3, fun i x hx => by
    obtain ⟨a, sv, b, c, d⟩ := h4 i x hx
    exact ⟨a, sv, b, c, fun k hk => ⟨d k hk, c.lt k hk⟩⟩⟩
theorem RefW.adds {R : Nat → Prop} {w w' : World} {s : Value} {ls : List Lk} (h : RefW R w s ls) (ha : Adds w w') : RefW R w' s ls :=
  ((h.lt).kept (fun k hk => ha.block k hk.2)).wide fun _ hk => hk.1
section
variable {R : Nat → Prop} {w : World} {s : Value} {ls : List Lk}
theorem RefW.form (h : RefW R w s ls) : ∃ g cap, s = .slice (some ⟨g, 0, none⟩) ls.length cap ∧ ls.length ≤ cap ∧ cap ≤ maxLen := let ⟨g, cap, _, e, _, _, h1, h2, _⟩ := h; ⟨g, cap, e, h1, h2⟩
theorem RefW.cells {g n cap : Nat} (h : RefW R w (.slice (some ⟨g, 0, none⟩) n cap) ls) {i : Nat} {x : Lk} (hx : ls[i]? = some x) : w.cell? ⟨g, i * 2 + 1, none⟩ = some (.int .i64 x.wr) ∧ ∃ ao c, w.cell? ⟨g, i * 2, none⟩ = some (.slice ao x.rd.length c) ∧ CutR w (.slice ao x.rd.length c) x.rd ∧ ∀ k, (Value.slice ao x.rd.length c).ownBlock = some k → R k := by
  obtain ⟨g', cap', cur, e, _, hg, _, _, _, h4⟩ := h
  simp only [Value.slice.injEq, Option.some.injEq, Addr.mk.injEq, and_true] at e
  obtain ⟨rfl, _, _⟩ := e
  obtain ⟨a, sv, b, c, d⟩ := h4 i x hx
  obtain ⟨ao, cp, rfl, _, _⟩ := c.form
  exact ⟨by rw [cell_of_row w g _ cur _ _ hg]; exact a, ao, cp, by rw [cell_of_row w g _ cur _ _ hg]; exact b, c, d⟩
end
theorem infoLk : (Try.prog.info? 108).map (fun i => (i.zero, i.size, i.bytes)) = some (some (.agg #[.slice none 0 0, .int .i64 0]), 2, 32) := by kernel_rfl
theorem right_any {R : Nat → Prop} {s : Value} {ls : List Lk} (i b : Int) (w : World) (h : RefW R w s ls) :
    Calls Try.prog 75 #[.agg #[s], .int .i64 i, .int .i64 b] w fun e w' => e = .returned (.int .i64 (rightE ls i b)) ∧ Adds w w' := by
  obtain ⟨g, cap, rfl, h1, h2⟩ := h.form
  have hA : Adds w (w.alloc (.cells #[.slice (some ⟨g, 0, none⟩) ls.length cap] 30)) := (Gr.new _ _).adds
  have HA := Lib.hid hA
  unfold rightE
  by_cases hb : mayI b
  · rw [if_pos hb]
    unfold mayI at hb
    obtain ⟨b0, b1⟩ := hb
    have b2 : ¬ b < 0 := by omega
    have b3 : ¬ 65535 < b := by omega
    by_cases hi : hasL ls i
    · rw [if_pos hi]
      obtain ⟨i0, i1⟩ := hi
      have i2 : ¬ i < 0 := by omega
      have i3 : ¬ (ls.length : Int) ≤ i := by omega
      clear h hA h1 h2
      go_enter Try.func75, Try.ntmps75
      go_wp2
      go_ret
      exact ⟨rfl, HA.out⟩
    · rw [if_neg hi]
      by_cases i0 : i < 0
      · clear h hA h1 h2 hi
        go_enter Try.func75, Try.ntmps75
        go_wp2
        go_ret
        exact ⟨rfl, HA.out⟩
      · have i3 : (ls.length : Int) ≤ i := by unfold hasL at hi; omega
        clear h hA h1 h2 hi
        go_enter Try.func75, Try.ntmps75
        go_wp2
        go_ret
        exact ⟨rfl, HA.out⟩
  · rw [if_neg hb]
    by_cases b0 : b < 0
    · clear h hA h1 h2 hb
      go_enter Try.func75, Try.ntmps75
      go_wp2
      go_ret
      exact ⟨rfl, HA.out⟩
    · have b1 : 65535 < b := by unfold mayI at hb; omega
      clear h hA h1 h2 hb
      go_enter Try.func75, Try.ntmps75
      go_wp2
      go_ret
      exact ⟨rfl, HA.out⟩
end Go.Proofs.Ytedllkahalfjgaa
