/- Digest's calls, one by one: appends to an own row beside a digest's block; what a digest's turns keep; how the law stands at a round's head, and behind an act. -/
import Derived.Deep.RegionLaw
import Derived.StillTailTactics
import Derived.Test.YtooocgnjefbnkaaDoorDActs
import Derived.Test.YtooocgnjefbnkaaDoorDCopy
import Derived.Test.YtooocgnjefbnkaaDoorW8
import Derived.Test.YtooocgnjefbnkaaDoorApp2
namespace Go.Proofs.YtooocgnjefbnkaaDoor
open Go Go.RowKit

theorem run_append_b {w : World} (ty : TypeId) (base : Nat) (v : Value) (pre : List UInt8) (hown : OwnB w base v pre)
    (v2 : Value) (l : List UInt8) (n : Nat) (hv : Bytes n w v2 l) (hlen : pre.length + l.length ≤ 1000000) (hbase : base ≤ w.heap.size) :
    ∃ v' w', (Builtin.append_ #[25, 25] ty #[v, v2]).run Tryd.prog w = .ok v' w' ∧ OwnB w' base v' (pre ++ l) ∧ w.grownBy w' v.ownBlock := by
  obtain ⟨ao, cap, rfl, h1, h2, h3⟩ := id hv
  obtain ⟨i0, hi, hz0, hz1, hz2⟩ := info_parts info8
  cases ao with
  | none =>
    have hl : l = [] := by
      rcases l with _ | ⟨y, l⟩
      · rfl
      · obtain ⟨b, off, e, _⟩ := h3 (by simp)
        cases e
    subst hl
    exact ⟨_, _, run_append_none (P := Tryd.prog) (w := w) base 25 ty 5 i0 1 Tryd.underlying25 hi v pre.length cap (pre.map byteV) hown, by simpa using hown, ⟨rfl, rfl, rfl, Nat.le_refl _, fun _ _ _ => rfl⟩⟩
  | some ad =>
    obtain ⟨v', w', hr, r1, r2, _⟩ := run_append_own (P := Tryd.prog) w base 25 ty 5 i0 (.int .u8 0) 1 1 Tryd.underlying25 hi hz0 hz1 hz2 rfl (by decide) v pre.length (pre.map byteV) hown ad l.length cap (l.map byteV) (by simp) hv.news.2
      (fun u hu => by obtain ⟨b, _, rfl⟩ := List.mem_map.1 hu; rfl) (by unfold maxLen; omega) (by omega) hbase
    refine ⟨v', w', hr, ?_, r2⟩
    unfold OwnB
    rw [List.length_append, List.map_append]
    exact r1
section
variable {w : World} {ops : Array Oper} {rest : List Oper} {o : Oper} {a : Act} {Q : Exit → Act → World → Prop}
theorem wp_append_b (hgd : o.guard = none) (s x : Operand)
    (ho : o.op = .call { callee := .builtin .append, args := #[s, x], argTypes := #[25, 25] }) (base : Nat) (v : Value) (pre : List UInt8) (hs : a.eval s = v) (hown : OwnB w base v pre)
    (v2 : Value) (l : List UInt8) (n : Nat) (hx : a.eval x = v2) (hv : Bytes n w v2 l) (hlen : pre.length + l.length ≤ 1000000) (hbase : base ≤ w.heap.size)
    (h : ∀ v' w', OwnB w' base v' (pre ++ l) → w.grownBy w' v.ownBlock → wpList Tryd.prog ops Q rest (a.put o.dst v') w') : wpList Tryd.prog ops Q (o :: rest) a w := by
  obtain ⟨v', w', hr, r1, r2⟩ := run_append_b o.type base v pre hown v2 l n hv hlen hbase
  refine wpList_plain hgd fun K hK => ?_
  unfold Oper.wp
  simp [execOp, ho, resolve, invoke, builtin, hs, hx, hr, Result.andThen]
  exact hK _ _ (h v' w' r1 r2)
theorem step_append_b {K : Act → World → Prop} {E : Prop} (hgd : o.guard = none) (s x : Operand)
    (ho : o.op = .call { callee := .builtin .append, args := #[s, x], argTypes := #[25, 25] }) (base : Nat) (v : Value) (pre : List UInt8) (hs : a.eval s = v) (hown : OwnB w base v pre)
    (v2 : Value) (l : List UInt8) (n : Nat) (hx : a.eval x = v2) (hv : Bytes n w v2 l) (hlen : pre.length + l.length ≤ 1000000) (hbase : base ≤ w.heap.size)
    (h : ∀ v' w', OwnB w' base v' (pre ++ l) → w.grownBy w' v.ownBlock → K (a.put o.dst v') w') :
    if Region.wanted o (yielded ops a.tmps) = true then Oper.wp Tryd.prog o a w K Q else E := by
  obtain ⟨v', w', hr, r1, r2⟩ := run_append_b o.type base v pre hown v2 l n hv hlen hbase
  rw [if_pos (by simp [Region.wanted, hgd])]
  unfold Oper.wp
  simp [execOp, ho, resolve, invoke, builtin, hs, hx, hr, Result.andThen]
  exact h v' w' r1 r2
end

theorem own_not_dig {w : World} {b n0 k bits many : Nat} {v : Value} {l : List UInt8} (hB : Blk w b (digK k bits many)) (ho : OwnB w n0 v l) : v.ownBlock ≠ some b := by
  rcases ho.2 with ⟨rfl, _⟩ | ⟨g, cap, cur, rfl, _, hg, _⟩
  · simp [Value.ownBlock]
  · intro e
    simp only [Value.ownBlock, Option.some.injEq] at e
    subst e
    unfold Blk at hB
    rw [hg] at hB
    simp only [Option.some.injEq, Obj.cells.injEq] at hB
    exact absurd hB.2.1 (by decide)
theorem OwnB.turns {w w' : World} {b n0 k bits many : Nat} {v : Value} {l : List UInt8} (ho : OwnB w n0 v l) (hB : Blk w b (digK k bits many)) (ht : Turns b w w') : OwnB w' n0 v l := by
  have hne := own_not_dig hB ho
  refine ⟨ho.1, ?_⟩
  rcases ho.2 with hn | ⟨g, cap, cur, rfl, hbg, hgg, rest⟩
  · exact .inl hn
  · exact .inr ⟨g, cap, cur, rfl, hbg, by rw [ht.block g (Array.getElem?_eq_some_iff.1 hgg).1 (fun e => hne (by simpa [Value.ownBlock] using e))]; exact hgg, rest⟩
theorem Blk.row {w w' : World} {b n0 k bits many : Nat} {v : Value} {l : List UInt8} (hB : Blk w b (digK k bits many)) (ho : OwnB w n0 v l) (hg : w.grownBy w' v.ownBlock) : Blk w' b (digK k bits many) := hB.grown hg (fun e => own_not_dig hB ho e.symm)
theorem Blk.other {w w' : World} {b c : Nat} {l : List Value} (h : Blk w c l) (ht : Turns b w w') (hc : c ≠ b) : Blk w' c l := h.grown ht (fun e => hc (Option.some.inj e))
theorem OwnB.rowBelow {w w' : World} {n0 : Nat} {v : Value} {l : List UInt8} (ho : OwnB w n0 v l) (hn : n0 ≤ w.heap.size) (hg : w.grownBy w' v.ownBlock) : Below n0 w w' := (Below.refl _ _).grown hg hn (fun k hk => (World.ownsRow.lt ho k hk.symm.symm).1)
theorem Turns.low {w w' : World} {b n0 : Nat} (ht : Turns b w w') (hb : b < w.heap.size) (hn : n0 ≤ b) : Below n0 w w' := (ht.below (Nat.le_of_lt hb)).mono hn
end Go.Proofs.YtooocgnjefbnkaaDoor
