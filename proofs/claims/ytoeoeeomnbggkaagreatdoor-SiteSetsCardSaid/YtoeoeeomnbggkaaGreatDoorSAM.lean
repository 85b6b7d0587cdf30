/- Merged: SAdd, SCut. -/
import Derived.OwnWalkIn
import Derived.Test.YtoeoeeomnbggkaaGreatDoorSAppM
import Derived.Test.YtoeoeeomnbggkaaGreatDoorInvIn
namespace Go.Proofs.YtoeoeeomnbggkaaGreatDoor
open Go Go.RowKit Go.Shelf
attribute [local go_sem] Oper.semAt_some

def sel7 (c : Bool) (v o : Value) : Value := cond c v o
theorem sel7_t (v o : Value) : sel7 true v o = v := rfl
theorem sel7_f (v o : Value) : sel7 false v o = o := rfl
theorem wpIn_append_p2 {F : Fence} {n : Nat} {w : World} {ops : Array Oper} {rest : List Oper} {o : Oper} {a : Act} {Q : Exit → Act → World → Prop} (hgd : o.guard = none) (s x : Operand) (t : TypeId)
    (ho : o.op = .call { callee := .builtin .append, args := #[s, x], argTypes := #[t, t] }) (ht : Tryz.prog.underlying t = some (.slice 32)) (base : Nat) (v : Value) (pre : List Pr) (hs : a.eval s = v) (hown : OwnPr base w v pre)
    (v2 : Value) (l : List Pr) (n0 : Nat) (hx : a.eval x = v2) (hv : PairsW n0 w v2 l) (hlen : pre.length + l.length ≤ 1048576) (hbase : base ≤ w.heap.size)
    (h : ∀ v' w', OwnPr base w' v' (pre ++ l) → w.grownBy w' v.ownBlock → SameNewP w v v' → wpListIn F n Tryz.prog ops Q rest (a.put o.dst v') w') : wpListIn F n Tryz.prog ops Q (o :: rest) a w := by
  obtain ⟨v', w', hr, r1, r2, r3⟩ := run_append_p2 t o.type ht base v pre hown v2 l n0 hv hlen hbase
  refine wpListIn_plain hgd fun K hK => ?_
  unfold Oper.wpIn
  refine ⟨?_, ?_⟩
  · simp [Oper.about, ho, resolve, Target.leads, Sem.run_pure]
  · rw [Oper.semAt_plain F _ _ (by rw [ho]; intro c hc'; cases hc')]
    simp [execOp, ho, resolve, invoke, builtin, hs, hx, hr, Result.andThen]
    exact hK _ _ (h v' w' r1 r2 r3)

/-- The row as it stands, and what it reads. -/
def sRow (L4 L7 L11 : Bool) (s0 s4 s7 s11 : Value) : Value := cond L11 s11 (cond L7 s7 (cond L4 s4 s0))
def lRow (a b : List Pr) (x : Pr) (L4 L7 L11 : Bool) : List Pr := cond L11 (a ++ [x] ++ b) (cond L7 (a ++ [x]) (cond L4 a []))
structure AddR (n0 : Nat) (w0 : World) (L0 L6 L7 : Bool) (A : Value) (la : List Pr) (lt : Value) (x : Pr) (w : World) : Prop where
  hb : Below n0 w0 w
  hs : n0 ≤ w.heap.size
  rA : L0 = true → OwnPr n0 w A la
  lit : L6 = true → L7 = false → ∃ g, lt = .slice (some ⟨g, 0, none⟩) 1 1 ∧ At4 w g 0 x ∧ n0 ≤ g ∧ (L0 = true → A.ownBlock ≠ some g)

section
variable {n0 : Nat} {w0 w w' : World} {L0 L6 L7 : Bool} {A A' lt : Value} {la la' : List Pr} {x : Pr}
theorem At4.old {g o : Nat} (h : At4 w g o x) (hb : w'.heap[g]? = w.heap[g]?) : At4 w' g o x := by
  obtain ⟨h0, h1, h2, h3⟩ := h
  exact ⟨(World.cell?_of_block (w := w) (a := ⟨g, o, none⟩) hb).trans h0, (World.cell?_of_block (w := w) (a := ⟨g, o + 1, none⟩) hb).trans h1, (World.cell?_of_block (w := w) (a := ⟨g, o + 2, none⟩) hb).trans h2, (World.cell?_of_block (w := w) (a := ⟨g, o + 3, none⟩) hb).trans h3⟩
theorem AddR.drew (h : AddR n0 w0 L0 L6 L7 A la lt x w) : AddR n0 w0 L0 L6 L7 A la lt x w.drew := ⟨h.hb.drew, h.hs, h.rA, h.lit⟩
theorem AddR.mkA (h : AddR n0 w0 false L6 L7 A la lt x w) : AddR n0 w0 true L6 L7 (.slice (some ⟨w.heap.size, 0, none⟩) 0 0) [] lt x (w.alloc (.cells #[] 32)) := by
  have hs := h.hs
  refine ⟨h.hb.alloc hs _, by simp; omega, fun _ => ?_, fun h4 h5 => ?_⟩
  · have := World.ownsRow_lit (size := 4) (e := 32) w #[] 0 (Nat.le_refl _) (by simp [maxLen]) (by simp)
    exact ⟨this.1, this.2.elim .inl (fun ⟨g, cap, cur, h1, h2, h3⟩ => .inr ⟨g, cap, cur, h1, Nat.le_trans hs h2, h3⟩)⟩
  · obtain ⟨g, e, hc, hg, _⟩ := h.lit h4 h5
    have hlt := World.block_lt_of_cell? w _ hc.1
    refine ⟨g, e, hc.old (Below.heap_alloc _ _ g hlt), hg, fun _ e => ?_⟩
    simp only [Value.ownBlock, Option.some.injEq] at e
    simp at hlt
    omega
theorem AddR.mkL (h : AddR n0 w0 L0 false L7 A la lt x w) : AddR n0 w0 L0 true L7 A la (.slice (some ⟨w.heap.size, 0, none⟩) 1 1) x (w.alloc (.cells (prC x).toArray 32)) := by
  have hs := h.hs
  refine ⟨h.hb.alloc hs _, by simp; omega, fun h0 => World.ownsRow.alloc (h.rA h0) _, fun _ _ => ⟨w.heap.size, rfl, ⟨by simp, by simp, by simp, by simp⟩, hs, fun h0 e => ?_⟩⟩
  have := (World.ownsRow.lt (h.rA h0) w.heap.size e).2
  omega
/-- An append to the row. -/
theorem AddR.app (h : AddR n0 w0 true L6 L7 A la lt x w) (L7' : Bool) (hL : L7 = true → L7' = true) (hr : OwnPr n0 w' A' la') (hg : w.grownBy w' A.ownBlock) (hsn : SameNewP w A A') : AddR n0 w0 true L6 L7' A' la' lt x w' := by
  have hlt := World.ownsRow.lt (h.rA rfl)
  refine ⟨h.hb.grown hg h.hs (fun k hk => (hlt k hk.symm.symm).1), Nat.le_trans h.hs hg.size, fun _ => hr, fun h4 h5 => ?_⟩
  have h5f : L7 = false := by cases h5' : L7 with | false => rfl | true => rw [hL h5'] at h5; cases h5
  obtain ⟨g, e, hc, hgn, hA⟩ := h.lit h4 h5f
  have hlg := World.block_lt_of_cell? w _ hc.1
  refine ⟨g, e, hc.old (hg.block g hlg fun e' => hA rfl e'.symm), hgn, fun _ e2 => ?_⟩
  rcases hsn with h1 | ⟨q, h1, h2⟩
  · exact hA rfl (h1.symm.trans e2)
  · rw [e2, Option.some.injEq] at h1; simp at hlg; omega
theorem AddR.litW (h : AddR n0 w0 L0 true false A la lt x w) : PairsW w.heap.size w lt [x] := by
  obtain ⟨g, rfl, hc, _, _⟩ := h.lit rfl rfl
  exact ⟨_, 1, rfl, by simp, by simp [maxLen], fun _ => ⟨g, 0, rfl, World.block_lt_of_cell? w _ hc.1, fun i hi => by
    obtain rfl : i = 0 := by simpa using hi
    exact hc⟩⟩
end
end Go.Proofs.YtoeoeeomnbggkaaGreatDoor
namespace Go.Proofs.YtoeoeeomnbggkaaGreatDoor
open Go Go.RowKit Go.Shelf

theorem elemPr : Tryz.prog.elem 22 = 32 := by kernel_rfl
theorem sizePr (W : World) : (Go.sizeOf (Tryz.prog.elem 22)).run Tryz.prog W = .ok 4 W := by
  obtain ⟨i0, hi, hz0, hz1, hz2⟩ := info_parts infoP4
  rw [elemPr]
  simp [Go.sizeOf, typeInfo, hi, hz1]
theorem slice_preP (ao : Option Addr) (len cap m : Nat) (hm : m ≤ cap) (w : World) :
    (Instr.slice 22 (.slice ao len cap) none (some (.int .i64 (m : Int))) none).run Tryz.prog w = .ok (.slice ao m cap) w := by
  have h := run_slice_h (P := Tryz.prog) w 22 ao len cap (by kernel_rfl) .i64 m (by omega) (by omega)
  rw [h, sizePr]
  simp only [Result.andThen, sliced, Int.toNat_natCast, Nat.zero_mul, Nat.sub_zero]
  have ea : ao.map (·.add 0) = ao := by cases ao <;> simp [Addr.add]
  rw [ea]
  split <;> rfl
theorem slice_fromP (ao : Option Addr) (len cap i : Nat) (hi : i ≤ len) (w : World) :
    (Instr.slice 22 (.slice ao len cap) (some (.int .i64 (i : Int))) none none).run Tryz.prog w = .ok (.slice (if cap = i then ao else ao.map (·.add (i * 4))) (len - i) (cap - i)) w := by
  have h := run_slice_l (P := Tryz.prog) w 22 ao len cap (by kernel_rfl) .i64 i (by omega) (by omega)
  rw [h, sizePr]
  simp only [Result.andThen, sliced, Int.toNat_natCast]
theorem atP_take {l : List Pr} {m i : Nat} (h : i < m) : atP (l.take m) i = atP l i := by unfold atP; simp [List.getD_eq_getElem?_getD, h]
theorem atP_drop (l : List Pr) (m i : Nat) : atP (l.drop m) i = atP l (m + i) := by unfold atP; simp [List.getD_eq_getElem?_getD, List.getElem?_drop]
theorem PairsW.pre {n : Nat} {w : World} {ao : Option Addr} {len cap : Nat} {l : List Pr} (h : PairsW n w (.slice ao len cap) l) (m : Nat) (hm : m ≤ l.length) : PairsW n w (.slice ao m cap) (l.take m) := by
  obtain ⟨ao', cap', e, e1, e2, e3⟩ := h
  simp only [Value.slice.injEq] at e
  obtain ⟨rfl, rfl, rfl⟩ := e
  have hl : (l.take m).length = m := by simp; omega
  refine ⟨ao, cap, by rw [hl], by rw [hl]; omega, e2, fun hne => ?_⟩
  have hlt : 0 < m := by rw [← hl]; exact List.length_pos_iff.2 hne
  obtain ⟨g, off, rfl, hg, hc⟩ := e3 (by rintro rfl; simp at hm; omega)
  refine ⟨g, off, rfl, hg, fun i hi => ?_⟩
  rw [hl] at hi
  rw [atP_take hi]
  exact hc i (by omega)
theorem PairsW.from {n : Nat} {w : World} {ao : Option Addr} {len cap : Nat} {l : List Pr} (h : PairsW n w (.slice ao len cap) l) (m : Nat) (hm : m ≤ l.length) : PairsW n w (.slice (if cap = m then ao else ao.map (·.add (m * 4))) (len - m) (cap - m)) (l.drop m) := by
  obtain ⟨ao', cap', e, e1, e2, e3⟩ := h
  simp only [Value.slice.injEq] at e
  obtain ⟨rfl, rfl, rfl⟩ := e
  have hl : (l.drop m).length = l.length - m := by simp
  refine ⟨_, cap - m, by rw [hl], by rw [hl]; omega, by omega, fun hne => ?_⟩
  have hlt : m < l.length := by have := List.length_pos_iff.2 hne; omega
  obtain ⟨g, off, rfl, hg, hc⟩ := e3 (by rintro rfl; simp at hlt)
  refine ⟨g, off + m * 4, ?_, hg, fun i hi => ?_⟩
  · rw [if_neg (by omega)]
    simp [Addr.add]
  · rw [atP_drop, show off + m * 4 + i * 4 = off + (m + i) * 4 by omega]
    exact hc (m + i) (by omega)
end Go.Proofs.YtoeoeeomnbggkaaGreatDoor
