/- Cuts of a row; appends in a region that draws; the document's Unread: its contract. -/
import Derived.Deep.RegionLaw
import Derived.Test.YtedllkahalfjgaaWR6
import Derived.Test.YtedllkahalfjgaaWLp
namespace Go.Proofs.Ytedllkahalfjgaa
open Go Go.RowKit

theorem cut_pre {w : World} {g k n cap : Nat} {xs : List Int} (h : CutR w (.slice (some ⟨g, k, none⟩) n cap) xs) {p : Nat} (hp : p ≤ n) : CutR w (.slice (some ⟨g, k, none⟩) p cap) (xs.take p) := by
  rcases h with ⟨h, _⟩ | ⟨g', k', cap', cur, e, hh, h1, h2, h3, h4⟩
  · cases h
  simp only [Value.slice.injEq, Option.some.injEq, Addr.mk.injEq, and_true] at e
  obtain ⟨⟨rfl, rfl⟩, rfl, rfl⟩ := e
  have hl : (xs.take p).length = p := by simp; omega
  refine .inr ⟨g, k, cap, cur, by rw [hl], hh, h1, by omega, h3, ?_⟩
  rw [hl, List.map_take, ← h4, List.take_take, Nat.min_eq_left hp]
theorem cut_suf {w : World} {g k n cap : Nat} {xs : List Int} (h : CutR w (.slice (some ⟨g, k, none⟩) n cap) xs) {p : Nat} (hp : p ≤ n) : CutR w (.slice (some (if cap = p then ⟨g, k, none⟩ else ⟨g, k + p, none⟩)) (n - p) (cap - p)) (xs.drop p) := by
  rcases h with ⟨h, _⟩ | ⟨g', k', cap', cur, e, hh, h1, h2, h3, h4⟩
  · cases h
  simp only [Value.slice.injEq, Option.some.injEq, Addr.mk.injEq, and_true] at e
  obtain ⟨⟨rfl, rfl⟩, rfl, rfl⟩ := e
  have hl : (xs.drop p).length = xs.length - p := by simp
  by_cases hc : cap = p
  · rw [if_pos hc]
    have hx : xs.drop p = [] := List.drop_eq_nil_of_le (by omega)
    refine .inr ⟨g, k, cap - p, cur, by rw [hl], hh, by omega, by omega, by omega, ?_⟩
    rw [hx]; simp
  · rw [if_neg hc]
    refine .inr ⟨g, k + p, cap - p, cur, by rw [hl], hh, by omega, by omega, by omega, ?_⟩
    have e := congrArg (List.drop p) h4
    rw [List.drop_take, List.drop_drop, ← List.map_drop] at e
    rw [hl]
    exact e
theorem cut_from (g k n cap p : Nat) (z : Int) (hz : z = (p : Int)) (hn : p ≤ n) : ∀ W, (Instr.slice 41 (.slice (some ⟨g, k, none⟩) n cap) (some (.int .i64 z)) none none).run Try.prog W = .ok (.slice (some (if cap = p then ⟨g, k, none⟩ else ⟨g, k + p, none⟩)) (n - p) (cap - p)) W := fun W => by
  rw [run_slice_l (P := Try.prog) W 41 (some ⟨g, k, none⟩) n cap (by kernel_rfl) .i64 z (by omega) (by omega), size_int]
  have e : z.toNat = p := by omega
  by_cases h : cap = p
  · simp [Result.andThen, sliced, e, h]
  · simp [Result.andThen, sliced, h, e, add_lit]
theorem run_cat {w : World} (ty : TypeId) (base : Nat) {v : Value} {pre : List Int} (hown : IntsO base w v pre) {v2 : Value} {l : List Int} (hv : CutR w v2 l) (hlen : pre.length + l.length ≤ 2000000) (hbase : base ≤ w.heap.size) :
    ∃ v' w', (Builtin.append_ #[41, 41] ty #[v, v2]).run Try.prog w = .ok v' w' ∧ IntsO base w' v' (pre ++ l) ∧ Below base w w' := by
  obtain ⟨i0, hi, hz0, hz1, hz2⟩ := info_parts infoI
  have hv' := hv
  rcases hv with ⟨rfl, rfl⟩ | ⟨g, k, cap, cur, rfl, hh, h1, h2, h3, h4⟩
  · exact ⟨v, w, run_append_none (P := Try.prog) (w := w) base 41 ty 3 i0 1 Try.underlying41 hi v pre.length 0 (pre.map intV) hown, by simpa using hown, Below.refl _ _⟩
  · obtain ⟨v', w', hr, ho, hg, _⟩ := run_append_own (P := Try.prog) w base 41 ty 3 i0 _ 1 8 Try.underlying41 hi hz0 hz1 hz2 rfl (by decide) v pre.length (pre.map intV) hown ⟨g, k, none⟩ l.length cap (l.map intV) (by simp) (fun j u hu => by
        rw [List.getElem?_map] at hu
        obtain ⟨x', hx', rfl⟩ := Option.map_eq_some_iff.1 hu
        rw [add_lit]
        exact hv'.cells.2 j x' hx') (fun u hu => by obtain ⟨z, _, rfl⟩ := List.mem_map.1 hu; rfl) (by unfold maxLen; omega) (by omega) hbase
    refine ⟨v', w', hr, by unfold IntsO; rw [List.length_append, List.map_append]; exact ho, ⟨hg.os, hg.tape, hg.output, hg.size, fun q hq => hg.block q (by omega) (fun e => by have := (World.ownsRow.lt hown q e.symm).1; omega)⟩⟩
section
variable {ops : Array Oper} {o : Oper} {a : Act} {w : World} {Q : Exit → Act → World → Prop}
theorem step_cat {K : Act → World → Prop} {E : Prop} (hgd : o.guard = none) (s x : Operand)
    (ho : o.op = .call { callee := .builtin .append, args := #[s, x], argTypes := #[41, 41] }) (base : Nat) (v : Value) (pre : List Int) (hs : a.eval s = v) (hown : IntsO base w v pre)
    (v2 : Value) (l : List Int) (hx : a.eval x = v2) (hv : CutR w v2 l) (hlen : pre.length + l.length ≤ 2000000) (hbase : base ≤ w.heap.size)
    (h : ∀ v' w', IntsO base w' v' (pre ++ l) → Below base w w' → K (a.put o.dst v') w') :
    if Region.wanted o (yielded ops a.tmps) = true then Oper.wp Try.prog o a w K Q else E := by
  obtain ⟨v', w', hr, r1, r2⟩ := run_cat o.type base hown hv hlen hbase
  rw [if_pos (by simp [Region.wanted, hgd])]
  unfold Oper.wp
  simp [execOp, ho, resolve, invoke, builtin, hs, hx, hr, Result.andThen]
  exact h v' w' r1 r2
end
end Go.Proofs.Ytedllkahalfjgaa
