/- Two appends of one to own rows and the two stores into their boxes, in one region that draws its order: what holds of the world as they come up, and how each keeps it. -/
import Derived.Laws.AppendOwn
import Derived.OwnWalk
import Derived.OwnWalkIn
import Derived.OneCell
import Derived.RangeFuncBox
import Derived.RangeFuncNested
import Derived.Test.YtcimppggemdidaaDoorLib
namespace Go.Proofs.YtcimppggemdidaaDoor
open Go Go.RowKit

theorem row_form {w : World} {base : Nat} {e : TypeId} {v : Value} {n : Nat} {xs : List Value} (h : w.ownsRow base e 1 v n xs) (hn : 0 < n) : ∃ g cap, v = .slice (some ⟨g, 0, none⟩) n cap := by
  rcases h.2 with ⟨_, h0⟩ | ⟨g, cap, cur, hv, _⟩
  · omega
  · exact ⟨g, cap, hv⟩
theorem rows_apart {w : World} {n0 m0 : Nat} {e7 e8 : TypeId} {v7 v8 : Value} {j k : Nat} {xs ys : List Value} (h7 : w.ownsRow n0 e7 1 v7 j xs) (h8 : w.ownsRow m0 e8 1 v8 k ys) (he : e7 ≠ e8) : v8.ownBlock = none ∨ v8.ownBlock ≠ v7.ownBlock := by
  rcases h8.2 with ⟨rfl, _⟩ | ⟨g, cap, cur, rfl, _, hg, _⟩
  · exact .inl rfl
  · rcases h7.2 with ⟨rfl, _⟩ | ⟨g', cap', cur', rfl, _, hg', _⟩
    · exact .inr (by simp [Value.ownBlock])
    · refine .inr fun e => he ?_
      simp only [Value.ownBlock, Option.some.injEq] at e
      subst e
      rw [hg] at hg'
      simp only [Option.some.injEq, Obj.cells.injEq] at hg'
      exact hg'.2.1.symm

/-- A slot's value: the new one once its operation has come up, else what it held. -/
def sel2 (c : Bool) (v o : Value) : Value := cond c v o
theorem sel2_t (v o : Value) : sel2 true v o = v := rfl
theorem sel2_f (v o : Value) : sel2 false v o = o := rfl

structure PairR (n0 m0 : Nat) (w0 : World) (B7 B8 : Nat) (t7 t8 e7 e8 : TypeId) (v7 v8 x7 x8 : Value) (j : Nat) (xs7 xs8 : List Value) (a2 a3 a8 a6 a7 a9 : Bool) (s7 c7 s8 c8 : Value) (w : World) : Prop where
  hb : Below n0 w0 w
  hs : m0 ≤ w.heap.size
  one7 : a2 = true → a3 = false → ∃ g, s7 = .slice (some ⟨g, 0, none⟩) 1 1 ∧ w.cell? ⟨g, 0, none⟩ = some x7 ∧ m0 ≤ g
  one8 : a6 = true → a7 = false → ∃ g, s8 = .slice (some ⟨g, 0, none⟩) 1 1 ∧ w.cell? ⟨g, 0, none⟩ = some x8 ∧ m0 ≤ g
  row7 : w.ownsRow n0 e7 1 c7 (cond a3 (j + 1) j) (cond a3 (xs7 ++ [x7]) xs7)
  row8 : w.ownsRow n0 e8 1 c8 (cond a7 (j + 1) j) (cond a7 (xs8 ++ [x8]) xs8)
  old7 : a3 = false → c7 = v7
  old8 : a7 = false → c8 = v8
  low7 : ∀ g, v7.ownBlock = some g → g < m0
  low8 : ∀ g, v8.ownBlock = some g → g < m0
  box7 : Boxed w B7 t7 (cond a8 c7 v7)
  box8 : Boxed w B8 t8 (cond a9 c8 v8)

section
variable {n0 m0 : Nat} {w0 w w' : World} {B7 B8 : Nat} {t7 t8 e7 e8 : TypeId} {v7 v8 x7 x8 : Value} {j : Nat} {xs7 xs8 : List Value} {a2 a3 a8 a6 a7 a9 : Bool} {s7 c7 s8 c8 : Value}
theorem PairR.swap (h : PairR n0 m0 w0 B7 B8 t7 t8 e7 e8 v7 v8 x7 x8 j xs7 xs8 a2 a3 a8 a6 a7 a9 s7 c7 s8 c8 w) : PairR n0 m0 w0 B8 B7 t8 t7 e8 e7 v8 v7 x8 x7 j xs8 xs7 a6 a7 a9 a2 a3 a8 s8 c8 s7 c7 w :=
  ⟨h.hb, h.hs, h.one8, h.one7, h.row8, h.row7, h.old8, h.old7, h.low8, h.low7, h.box8, h.box7⟩
theorem PairR.mk7 (hn : n0 ≤ m0) (tb : TypeId) (h : PairR n0 m0 w0 B7 B8 t7 t8 e7 e8 v7 v8 x7 x8 j xs7 xs8 a2 a3 a8 a6 a7 a9 s7 c7 s8 c8 w) :
    PairR n0 m0 w0 B7 B8 t7 t8 e7 e8 v7 v8 x7 x8 j xs7 xs8 true a3 a8 a6 a7 a9 (.slice (some ⟨w.heap.size, 0, none⟩) 1 1) c7 s8 c8 (w.alloc (.cells #[x7] tb)) := by
  refine ⟨h.hb.alloc (Nat.le_trans hn h.hs) _, by have := h.hs; simp; omega, fun _ _ => ⟨_, rfl, by simp, h.hs⟩, fun h6 h7 => ?_, h.row7.alloc _, h.row8.alloc _, h.old7, h.old8, h.low7, h.low8, h.box7.alloc _, h.box8.alloc _⟩
  obtain ⟨g, h1, h2, h3⟩ := h.one8 h6 h7
  have hlt : g < w.heap.size := World.block_lt_of_cell? w _ h2
  exact ⟨g, h1, by rw [World.cell?_alloc_old _ _ _ (show g ≠ w.heap.size by omega)]; exact h2, h3⟩
theorem PairR.app7 (hn : n0 ≤ m0) (hte : t7 ≠ e7) (hte8 : t8 ≠ e7) (he : e7 ≠ e8) (h : PairR n0 m0 w0 B7 B8 t7 t8 e7 e8 v7 v8 x7 x8 j xs7 xs8 true false false a6 a7 a9 s7 c7 s8 c8 w)
    {v' : Value} (hrow : w'.ownsRow n0 e7 1 v' (j + 1) (xs7 ++ [x7])) (hg : w.grownBy w' v7.ownBlock) :
    PairR n0 m0 w0 B7 B8 t7 t8 e7 e8 v7 v8 x7 x8 j xs7 xs8 true true false a6 a7 a9 s7 v' s8 c8 w' := by
  have e7' := h.old7 rfl
  have r7 : w.ownsRow n0 e7 1 v7 j xs7 := by have := h.row7; rw [e7'] at this; exact this
  refine ⟨h.hb.grown hg (Nat.le_trans hn h.hs) fun k hk => (r7.lt k hk.symm.symm).1, Nat.le_trans h.hs hg.size, fun _ h3 => (by cases h3), fun h6 h7 => ?_, hrow, h.row8.kept hg (rows_apart r7 h.row8 he), fun h3 => (by cases h3), h.old8, h.low7, h.low8, h.box7.kept hg (h.box7.not_row hte r7), h.box8.kept hg (h.box8.not_row hte8 r7)⟩
  obtain ⟨g, h1, h2, h3⟩ := h.one8 h6 h7
  have hlt := World.block_lt_of_cell? w _ h2
  refine ⟨g, h1, ?_, h3⟩
  rw [World.cell?_of_block (w := w) (hg.block g hlt fun e => by have := h.low7 g e.symm; omega)]
  exact h2
theorem PairR.put7 (hn : n0 ≤ B7) (hBB : B8 ≠ B7) (hte : t7 ≠ e7) (hte8 : t7 ≠ e8) (h : PairR n0 m0 w0 B7 B8 t7 t8 e7 e8 v7 v8 x7 x8 j xs7 xs8 true true false a6 a7 a9 s7 c7 s8 c8 w) (hB7 : B7 < m0) :
    PairR n0 m0 w0 B7 B8 t7 t8 e7 e8 v7 v8 x7 x8 j xs7 xs8 true true true a6 a7 a9 s7 c7 s8 c8 (w.setCell ⟨B7, 0, none⟩ c7) := by
  refine ⟨h.hb.setCell (by simpa using hn) _, by have := h.hs; simpa using this, fun _ h3 => (by cases h3), fun h6 h7 => ?_, ownsRow_setCell_other h.row7 (fun e => h.box7.not_row hte h.row7 e.symm) _, ownsRow_setCell_other h.row8 (fun e => h.box7.not_row hte8 h.row8 e.symm) _, h.old7, h.old8, h.low7, h.low8, h.box7.set _, h.box8.other hBB _⟩
  obtain ⟨g, h1, h2, h3⟩ := h.one8 h6 h7
  refine ⟨g, h1, ?_, h3⟩
  rw [World.cell?_setCell_other _ _ _ _ (by simp; try omega)]
  exact h2
theorem PairR.r7 (h : PairR n0 m0 w0 B7 B8 t7 t8 e7 e8 v7 v8 x7 x8 j xs7 xs8 a2 false a8 a6 a7 a9 s7 c7 s8 c8 w) : w.ownsRow n0 e7 1 v7 j xs7 := by
  have h1 := h.old7 rfl
  have h2 := h.row7
  rw [h1] at h2
  exact h2
end

/-- One append of the region: what is left to show is what holds after it. -/
theorem pair_append {F : Fence} {n : Nat} {P : Program} {ops : Array Oper} {o : Oper} {a : Act} {Q : Exit → Act → World → Prop}
    {n0 m0 : Nat} {w0 w : World} {B7 B8 : Nat} {t7 t8 e7 e8 : TypeId} {v7 v8 x7 x8 : Value} {j : Nat} {xs7 xs8 : List Value} {a6 a7 a9 : Bool} {s7 c7 s8 c8 : Value}
    (h : PairR n0 m0 w0 B7 B8 t7 t8 e7 e8 v7 v8 x7 x8 j xs7 xs8 true false false a6 a7 a9 s7 c7 s8 c8 w)
    (hg : o.guard = none) (s x : Operand) (hop : o.op = Op.call { callee := Callee.builtin Builtin.append, args := #[s, x], argTypes := #[t7, t7] })
    (z : Value) (h1 : P.underlying t7 = some (.slice e7)) (hi : (P.info? e7).map (fun i => (i.zero, i.size, i.bytes)) = some (some z, 1, 8)) (h6 : z.cells.size = 1)
    (hs : a.eval s = v7) (hx : a.eval x = s7) (h1c : x7.oneCell' = true) (hj : j < 1000000) (hn : n0 ≤ m0) (hte : t7 ≠ e7) (hte8 : t8 ≠ e7) (he : e7 ≠ e8)
    (hK : ∀ v' w', PairR n0 m0 w0 B7 B8 t7 t8 e7 e8 v7 v8 x7 x8 j xs7 xs8 true true false a6 a7 a9 s7 v' s8 c8 w' → Q .normal (a.put o.dst v') w') :
    wpListIn F n P ops Q [o] a w := by
  cases hi' : P.info? e7 with
  | none => rw [hi'] at hi; cases hi
  | some i =>
    rw [hi'] at hi
    simp only [Option.map_some, Option.some.injEq, Prod.mk.injEq] at hi
    obtain ⟨g, hs7, hc, _⟩ := h.one7 rfl rfl
    refine wpListIn_append_own w hg s x t7 hop n0 e7 i z 1 8 h1 hi' hi.1 hi.2.1 hi.2.2 h6 (by decide) v7 j xs7 hs h.r7 ⟨g, 0, none⟩ 1 1 [x7] (hx.trans hs7) rfl ?_ (by simpa using h1c) (by unfold maxLen; omega) (by omega) (Nat.le_trans hn h.hs) ?_
    · intro k u hk
      rcases k with _ | k
      · simp only [List.getElem?_cons_zero, Option.some.injEq] at hk
        subst hk
        exact hc
      · simp at hk
    · intro v' w' r1 r2 _
      exact hK v' w' (h.app7 hn hte hte8 he r1 r2)
end Go.Proofs.YtcimppggemdidaaDoor
