/- Merged: AI, IPr. -/
import Derived.OwnWalkIn
import Derived.Test.YtdbbilabhlnhmaaGreatDoorBA
import Derived.Laws.AppendOwn
import Derived.OwnWalk
import Derived.OneCell
import Derived.RangeFuncBox
import Derived.RangeFuncNested
import Derived.Test.YtdbbilabhlnhmaaGreatDoorBE
import Derived.Test.YtdbbilabhlnhmaaGreatDoorBC
namespace Go.Proofs.YtdbbilabhlnhmaaGreatDoor
open Go Go.RowKit

section
variable {F : Fence} {n : Nat}
theorem wpIn_append {w : World} {ops : Array Oper} {rest : List Oper} {o : Oper} {a : Act} {Q : Exit → Act → World → Prop} (hgd : o.guard = none) (s x : Operand)
    (ho : o.op = .call { callee := .builtin .append, args := #[s, x], argTypes := #[26, 26] }) (base : Nat) (v : Value) (pre : List UInt8) (hs : a.eval s = v) (hown : OwnB w base v pre)
    (ad : Addr) (c : Nat) (l : List UInt8) (hx : a.eval x = .slice (some ad) l.length c) (hnews : ∀ j u, (l.map byteV)[j]? = some u → w.cell? (ad.add j) = some u)
    (hlen : pre.length + l.length ≤ 140737488355328) (hbase : base ≤ w.heap.size)
    (h : ∀ v' w', OwnB w' base v' (pre ++ l) → Below base w w' → wpListIn F n Tryz.prog ops Q rest (a.put o.dst v') w') : wpListIn F n Tryz.prog ops Q (o :: rest) a w := by
  obtain ⟨i0, hi, hz0, hz1, hz2⟩ := info_parts info8
  refine wpListIn_append_own w hgd s x 26 ho base 5 i0 (.int .u8 0) 1 1 Tryz.underlying26 hi hz0 hz1 hz2 rfl (by decide) v pre.length (pre.map byteV) hs hown ad l.length c (l.map byteV) hx (by simp) hnews
    (fun u hu => by obtain ⟨b, _, rfl⟩ := List.mem_map.1 hu; rfl) (by unfold maxLen; omega) (by omega) hbase fun v' w' h1 h2 _ => h v' w' ?_ ?_
  · unfold OwnB; rw [List.length_append, List.map_append]; exact h1
  · refine ((Below.refl base w).grown h2 hbase fun k hk => ?_)
    have := hown.lt k hk.symm.symm
    exact this.1
theorem wpIn_append_bytes {w : World} {ops : Array Oper} {rest : List Oper} {o : Oper} {a : Act} {Q : Exit → Act → World → Prop} (hgd : o.guard = none) (s x : Operand)
    (ho : o.op = .call { callee := .builtin .append, args := #[s, x], argTypes := #[26, 26] }) (base : Nat) (v : Value) (pre : List UInt8) (hs : a.eval s = v) (hown : OwnB w base v pre)
    (v2 : Value) (l : List UInt8) (n0 : Nat) (hx : a.eval x = v2) (hv : Bytes n0 w v2 l)
    (hlen : pre.length + l.length ≤ 140737488355328) (hbase : base ≤ w.heap.size)
    (h : ∀ v' w', OwnB w' base v' (pre ++ l) → Below base w w' → wpListIn F n Tryz.prog ops Q rest (a.put o.dst v') w') : wpListIn F n Tryz.prog ops Q (o :: rest) a w := by
  obtain ⟨ao, cap, rfl, h1, h2, h3⟩ := id hv
  cases ao with
  | none =>
    have hl : l = [] := by
      rcases l with _ | ⟨y, l⟩
      · rfl
      · obtain ⟨b, off, e, _⟩ := h3 (by simp)
        cases e
    subst hl
    obtain ⟨i0, hi, hz0, hz1, hz2⟩ := info_parts info8
    refine wpListIn_plain hgd fun K hK => ?_
    have hrun := run_append_none (P := Tryz.prog) (w := w) base 26 o.type 5 i0 1 Tryz.underlying26 hi v pre.length cap (pre.map byteV) hown
    simp only [List.length_nil] at hx
    unfold Oper.wpIn
    refine ⟨?_, ?_⟩
    · simp [Oper.about, ho, resolve, Target.leads, Sem.run_pure]
    · rw [Oper.semAt_plain F _ _ (by rw [ho]; intro c hc'; cases hc')]
      simp [execOp, ho, resolve, invoke, builtin, hs, hx, hrun, Result.andThen]
      exact hK _ _ (h v w (by simpa using hown) (Below.refl _ _))
  | some ad => exact wpIn_append hgd s x ho base v pre hs hown ad cap l hx hv.news.2 hlen hbase h
theorem wpIn_append1 {w : World} {ops : Array Oper} {rest : List Oper} {o : Oper} {a : Act} {Q : Exit → Act → World → Prop} (hgd : o.guard = none) (s x : Operand)
    (ho : o.op = .call { callee := .builtin .append, args := #[s, x], argTypes := #[26, 26] }) (base : Nat) (v : Value) (pre : List UInt8) (z : Int) (hs : a.eval s = v) (hown : OwnB w base v pre)
    (b : UInt8) (hz : z = b.toNat) (hx : a.eval x = .slice (some ⟨w.heap.size, 0, none⟩) 1 1)
    (hlen : pre.length + 1 ≤ 140737488355328) (hbase : base ≤ w.heap.size)
    (h : ∀ v' w', OwnB w' base v' (pre ++ [b]) → Below base w w' → wpListIn F n Tryz.prog ops Q rest (a.put o.dst v') w') : wpListIn F n Tryz.prog ops Q (o :: rest) a (w.alloc (.cells #[.int .u8 z] 5)) := by
  subst hz
  refine wpIn_append hgd s x ho base v pre hs (World.ownsRow.alloc hown _) ⟨w.heap.size, 0, none⟩ 1 [b] hx (cell_one_new _ _ _) hlen (by simp; omega) fun v' w' h1 h2 => h v' w' h1 ?_
  exact ((Below.refl base w).alloc hbase _).trans h2
end
end Go.Proofs.YtdbbilabhlnhmaaGreatDoor
namespace Go.Proofs.YtdbbilabhlnhmaaGreatDoor
open Go Go.RowKit

theorem row_form {w : World} {base z : Nat} {e : TypeId} {v : Value} {n : Nat} {xs : List Value} (h : w.ownsRow base e z v n xs) (hn : 0 < n) : ∃ g cap, v = .slice (some ⟨g, 0, none⟩) n cap := by
  rcases h.2 with ⟨_, h0⟩ | ⟨g, cap, cur, hv, _⟩
  · omega
  · exact ⟨g, cap, hv⟩
theorem rows_apart {w : World} {n0 m0 z7 z8 : Nat} {e7 e8 : TypeId} {v7 v8 : Value} {j k : Nat} {xs ys : List Value} (h7 : w.ownsRow n0 e7 z7 v7 j xs) (h8 : w.ownsRow m0 e8 z8 v8 k ys) (he : e7 ≠ e8) : v8.ownBlock = none ∨ v8.ownBlock ≠ v7.ownBlock := by
  rcases h8.2 with ⟨rfl, _⟩ | ⟨g, cap, cur, rfl, _, hg, _⟩
  · exact .inl rfl
  · rcases h7.2 with ⟨rfl, _⟩ | ⟨g', cap', cur', rfl, _, hg', _⟩
    · exact .inr (by simp [Value.ownBlock])
    · refine .inr fun e => he ?_
      simp only [Value.ownBlock, Option.some.injEq] at e
      subst e
      rw [hg] at hg'
      simp only [Option.some.injEq, Obj.cells.injEq] at hg'
      exact hg'.2.1.symm

/-- A slot's value: the new one once its operation has come up, else what it held. -/
def sel2 (c : Bool) (v o : Value) : Value := cond c v o
theorem sel2_t (v o : Value) : sel2 true v o = v := rfl
theorem sel2_f (v o : Value) : sel2 false v o = o := rfl

structure PairS (n0 m0 : Nat) (w0 : World) (B7 B8 z7 z8 : Nat) (t7 t8 e7 e8 : TypeId) (v7 v8 : Value) (x7 x8 : List Value) (j : Nat) (xs7 xs8 : List Value) (a2 a3 a8 a6 a7 a9 : Bool) (s7 c7 s8 c8 : Value) (w : World) : Prop where
  hb : Below n0 w0 w
  hs : m0 ≤ w.heap.size
  one7 : a2 = true → a3 = false → ∃ g, s7 = .slice (some ⟨g, 0, none⟩) 1 1 ∧ (∀ q u, x7[q]? = some u → w.cell? ⟨g, q, none⟩ = some u) ∧ m0 ≤ g ∧ g < w.heap.size
  one8 : a6 = true → a7 = false → ∃ g, s8 = .slice (some ⟨g, 0, none⟩) 1 1 ∧ (∀ q u, x8[q]? = some u → w.cell? ⟨g, q, none⟩ = some u) ∧ m0 ≤ g ∧ g < w.heap.size
  row7 : w.ownsRow n0 e7 z7 c7 (cond a3 (j + 1) j) (cond a3 (xs7 ++ x7) xs7)
  row8 : w.ownsRow n0 e8 z8 c8 (cond a7 (j + 1) j) (cond a7 (xs8 ++ x8) xs8)
  old7 : a3 = false → c7 = v7
  old8 : a7 = false → c8 = v8
  low7 : ∀ g, v7.ownBlock = some g → g < m0
  low8 : ∀ g, v8.ownBlock = some g → g < m0
  box7 : Boxed w B7 t7 (cond a8 c7 v7)
  box8 : Boxed w B8 t8 (cond a9 c8 v8)

section
variable {n0 m0 : Nat} {w0 w w' : World} {B7 B8 z7 z8 : Nat} {t7 t8 e7 e8 : TypeId} {v7 v8 : Value} {x7 x8 : List Value} {j : Nat} {xs7 xs8 : List Value} {a2 a3 a8 a6 a7 a9 : Bool} {s7 c7 s8 c8 : Value}
theorem PairS.swap (h : PairS n0 m0 w0 B7 B8 z7 z8 t7 t8 e7 e8 v7 v8 x7 x8 j xs7 xs8 a2 a3 a8 a6 a7 a9 s7 c7 s8 c8 w) : PairS n0 m0 w0 B8 B7 z8 z7 t8 t7 e8 e7 v8 v7 x8 x7 j xs8 xs7 a6 a7 a9 a2 a3 a8 s8 c8 s7 c7 w :=
  ⟨h.hb, h.hs, h.one8, h.one7, h.row8, h.row7, h.old8, h.old7, h.low8, h.low7, h.box8, h.box7⟩
theorem PairS.mk7 (hn : n0 ≤ m0) (tb : TypeId) (h : PairS n0 m0 w0 B7 B8 z7 z8 t7 t8 e7 e8 v7 v8 x7 x8 j xs7 xs8 a2 a3 a8 a6 a7 a9 s7 c7 s8 c8 w) :
    PairS n0 m0 w0 B7 B8 z7 z8 t7 t8 e7 e8 v7 v8 x7 x8 j xs7 xs8 true a3 a8 a6 a7 a9 (.slice (some ⟨w.heap.size, 0, none⟩) 1 1) c7 s8 c8 (w.alloc (.cells x7.toArray tb)) := by
  refine ⟨h.hb.alloc (Nat.le_trans hn h.hs) _, by have := h.hs; simp; omega, fun _ _ => ⟨_, rfl, fun q u hq => by rw [cell_of_row _ w.heap.size q _ _ _ (heap_new w _)]; simpa using hq, h.hs, by simp⟩, fun h6 h7 => ?_, h.row7.alloc _, h.row8.alloc _, h.old7, h.old8, h.low7, h.low8, h.box7.alloc _, h.box8.alloc _⟩
  obtain ⟨g, h1, h2, h3, hlt⟩ := h.one8 h6 h7
  exact ⟨g, h1, fun q u hq => by rw [World.cell?_alloc_old _ _ _ (show g ≠ w.heap.size by omega)]; exact h2 q u hq, h3, by simp; omega⟩
theorem PairS.app7 (hn : n0 ≤ m0) (hte : t7 ≠ e7) (hte8 : t8 ≠ e7) (he : e7 ≠ e8) (h : PairS n0 m0 w0 B7 B8 z7 z8 t7 t8 e7 e8 v7 v8 x7 x8 j xs7 xs8 true false false a6 a7 a9 s7 c7 s8 c8 w)
    {v' : Value} (hrow : w'.ownsRow n0 e7 z7 v' (j + 1) (xs7 ++ x7)) (hg : w.grownBy w' v7.ownBlock) :
    PairS n0 m0 w0 B7 B8 z7 z8 t7 t8 e7 e8 v7 v8 x7 x8 j xs7 xs8 true true false a6 a7 a9 s7 v' s8 c8 w' := by
  have e7' := h.old7 rfl
  have r7 : w.ownsRow n0 e7 z7 v7 j xs7 := by have := h.row7; rw [e7'] at this; exact this
  refine ⟨h.hb.grown hg (Nat.le_trans hn h.hs) fun k hk => (r7.lt k hk.symm.symm).1, Nat.le_trans h.hs hg.size, fun _ h3 => (by cases h3), fun h6 h7 => ?_, hrow, h.row8.kept hg (rows_apart r7 h.row8 he), fun h3 => (by cases h3), h.old8, h.low7, h.low8, h.box7.kept hg (h.box7.not_row hte r7), h.box8.kept hg (h.box8.not_row hte8 r7)⟩
  obtain ⟨g, h1, h2, h3, hlt⟩ := h.one8 h6 h7
  refine ⟨g, h1, fun q u hq => ?_, h3, Nat.lt_of_lt_of_le hlt hg.size⟩
  rw [World.cell?_of_block (w := w) (hg.block g hlt fun e => by have := h.low7 g e.symm; omega)]
  exact h2 q u hq
theorem PairS.put7 (hn : n0 ≤ B7) (hBB : B8 ≠ B7) (hte : t7 ≠ e7) (hte8 : t7 ≠ e8) (h : PairS n0 m0 w0 B7 B8 z7 z8 t7 t8 e7 e8 v7 v8 x7 x8 j xs7 xs8 true true false a6 a7 a9 s7 c7 s8 c8 w) (hB7 : B7 < m0) :
    PairS n0 m0 w0 B7 B8 z7 z8 t7 t8 e7 e8 v7 v8 x7 x8 j xs7 xs8 true true true a6 a7 a9 s7 c7 s8 c8 (w.setCell ⟨B7, 0, none⟩ c7) := by
  refine ⟨h.hb.setCell (by simpa using hn) _, by have := h.hs; simpa using this, fun _ h3 => (by cases h3), fun h6 h7 => ?_, ownsRow_setCell_other h.row7 (fun e => h.box7.not_row hte h.row7 e.symm) _, ownsRow_setCell_other h.row8 (fun e => h.box7.not_row hte8 h.row8 e.symm) _, h.old7, h.old8, h.low7, h.low8, h.box7.set _, h.box8.other hBB _⟩
  obtain ⟨g, h1, h2, h3, hlt⟩ := h.one8 h6 h7
  refine ⟨g, h1, fun q u hq => ?_, h3, by simpa using hlt⟩
  rw [World.cell?_setCell_other _ _ _ _ (by simp; try omega)]
  exact h2 q u hq
theorem PairS.r7 (h : PairS n0 m0 w0 B7 B8 z7 z8 t7 t8 e7 e8 v7 v8 x7 x8 j xs7 xs8 a2 false a8 a6 a7 a9 s7 c7 s8 c8 w) : w.ownsRow n0 e7 z7 v7 j xs7 := by
  have h1 := h.old7 rfl
  have h2 := h.row7
  rw [h1] at h2
  exact h2
end

/-- One append of the region: what is left to show is what holds after it. -/
theorem pair_append {F : Fence} {n : Nat} {P : Program} {ops : Array Oper} {o : Oper} {a : Act} {Q : Exit → Act → World → Prop}
    {n0 m0 : Nat} {w0 w : World} {B7 B8 z7 z8 : Nat} {t7 t8 e7 e8 : TypeId} {v7 v8 : Value} {x7 x8 : List Value} {j : Nat} {xs7 xs8 : List Value} {a6 a7 a9 : Bool} {s7 c7 s8 c8 : Value}
    (h : PairS n0 m0 w0 B7 B8 z7 z8 t7 t8 e7 e8 v7 v8 x7 x8 j xs7 xs8 true false false a6 a7 a9 s7 c7 s8 c8 w)
    (hg : o.guard = none) (s x : Operand) (hop : o.op = Op.call { callee := Callee.builtin Builtin.append, args := #[s, x], argTypes := #[t7, t7] })
    (z : Value) (by7 : Nat) (hby : by7 ≤ 1000) (h1 : P.underlying t7 = some (.slice e7)) (hi : (P.info? e7).map (fun i => (i.zero, i.size, i.bytes)) = some (some z, z7, by7)) (h6 : z.cells.size = z7) (h7 : 0 < z7)
    (hs : a.eval s = v7) (hx : a.eval x = s7) (hxl : x7.length = z7) (h1c : ∀ u ∈ x7, u.oneCell' = true) (hj : j < 1000000) (hn : n0 ≤ m0) (hte : t7 ≠ e7) (hte8 : t8 ≠ e7) (he : e7 ≠ e8)
    (hK : ∀ v' w', PairS n0 m0 w0 B7 B8 z7 z8 t7 t8 e7 e8 v7 v8 x7 x8 j xs7 xs8 true true false a6 a7 a9 s7 v' s8 c8 w' → w.grownBy w' v7.ownBlock → Q .normal (a.put o.dst v') w') :
    wpListIn F n P ops Q [o] a w := by
  cases hi' : P.info? e7 with
  | none => rw [hi'] at hi; cases hi
  | some i =>
    rw [hi'] at hi
    simp only [Option.map_some, Option.some.injEq, Prod.mk.injEq] at hi
    obtain ⟨g, hs7, hc, _⟩ := h.one7 rfl rfl
    have hb2 : (j + 1) * by7 ≤ 140737488355328 := Nat.le_trans (Nat.mul_le_mul (show j + 1 ≤ 1000000 by omega) hby) (by decide)
    refine wpListIn_append_own w hg s x t7 hop n0 e7 i z z7 by7 h1 hi' hi.1 hi.2.1 hi.2.2 h6 h7 v7 j xs7 hs h.r7 ⟨g, 0, none⟩ 1 1 x7 (hx.trans hs7) (by omega) ?_ h1c (by unfold maxLen; omega) hb2 (Nat.le_trans hn h.hs) ?_
    · intro k u hk
      have := hc k u hk
      have e : (⟨g, 0, none⟩ : Addr).add k = ⟨g, k, none⟩ := by unfold Addr.add; split <;> simp_all
      rw [e]
      exact this
    · intro v' w' r1 r2 _
      exact hK v' w' (h.app7 hn hte hte8 he r1 r2) r2
end Go.Proofs.YtdbbilabhlnhmaaGreatDoor
