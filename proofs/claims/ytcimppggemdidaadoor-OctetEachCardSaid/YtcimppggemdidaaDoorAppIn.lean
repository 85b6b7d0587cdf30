/- Appending bytes to a row of bytes that the call has made, inside a fence. -/
import Derived.OwnWalkIn
import Derived.Test.YtcimppggemdidaaDoorApp2
namespace Go.Proofs.YtcimppggemdidaaDoor
open Go Go.RowKit

section
variable {F : Fence} {n : Nat}
theorem wpIn_append {w : World} {ops : Array Oper} {rest : List Oper} {o : Oper} {a : Act} {Q : Exit → Act → World → Prop} (hgd : o.guard = none) (s x : Operand)
    (ho : o.op = .call { callee := .builtin .append, args := #[s, x], argTypes := #[22, 22] }) (base : Nat) (v : Value) (pre : List UInt8) (hs : a.eval s = v) (hown : OwnB w base v pre)
    (ad : Addr) (c : Nat) (l : List UInt8) (hx : a.eval x = .slice (some ad) l.length c) (hnews : ∀ j u, (l.map byteV)[j]? = some u → w.cell? (ad.add j) = some u)
    (hlen : pre.length + l.length ≤ 140737488355328) (hbase : base ≤ w.heap.size)
    (h : ∀ v' w', OwnB w' base v' (pre ++ l) → Below base w w' → wpListIn F n Tryd.prog ops Q rest (a.put o.dst v') w') : wpListIn F n Tryd.prog ops Q (o :: rest) a w := by
  obtain ⟨i0, hi, hz0, hz1, hz2⟩ := info_parts info8
  refine wpListIn_append_own w hgd s x 22 ho base 5 i0 (.int .u8 0) 1 1 Tryd.underlying22 hi hz0 hz1 hz2 rfl (by decide) v pre.length (pre.map byteV) hs hown ad l.length c (l.map byteV) hx (by simp) hnews
    (fun u hu => by obtain ⟨b, _, rfl⟩ := List.mem_map.1 hu; rfl) (by unfold maxLen; omega) (by omega) hbase fun v' w' h1 h2 _ => h v' w' ?_ ?_
  · unfold OwnB; rw [List.length_append, List.map_append]; exact h1
  · refine ((Below.refl base w).grown h2 hbase fun k hk => ?_)
    have := hown.lt k hk.symm.symm
    exact this.1
theorem wpIn_append_bytes {w : World} {ops : Array Oper} {rest : List Oper} {o : Oper} {a : Act} {Q : Exit → Act → World → Prop} (hgd : o.guard = none) (s x : Operand)
    (ho : o.op = .call { callee := .builtin .append, args := #[s, x], argTypes := #[22, 22] }) (base : Nat) (v : Value) (pre : List UInt8) (hs : a.eval s = v) (hown : OwnB w base v pre)
    (v2 : Value) (l : List UInt8) (n0 : Nat) (hx : a.eval x = v2) (hv : Bytes n0 w v2 l)
    (hlen : pre.length + l.length ≤ 140737488355328) (hbase : base ≤ w.heap.size)
    (h : ∀ v' w', OwnB w' base v' (pre ++ l) → Below base w w' → wpListIn F n Tryd.prog ops Q rest (a.put o.dst v') w') : wpListIn F n Tryd.prog ops Q (o :: rest) a w := by
  obtain ⟨ao, cap, rfl, h1, h2, h3⟩ := id hv
  cases ao with
  | none =>
    have hl : l = [] := by
      rcases l with _ | ⟨y, l⟩
      · rfl
      · obtain ⟨b, off, e, _⟩ := h3 (by simp)
        cases e
    subst hl
    obtain ⟨i0, hi, hz0, hz1, hz2⟩ := info_parts info8
    refine wpListIn_plain hgd fun K hK => ?_
    have hrun := run_append_none (P := Tryd.prog) (w := w) base 22 o.type 5 i0 1 Tryd.underlying22 hi v pre.length cap (pre.map byteV) hown
    simp only [List.length_nil] at hx
    unfold Oper.wpIn
    refine ⟨?_, ?_⟩
    · simp [Oper.about, ho, resolve, Target.leads, Sem.run_pure]
    · rw [Oper.semAt_plain F _ _ (by rw [ho]; intro c hc'; cases hc')]
      simp [execOp, ho, resolve, invoke, builtin, hs, hx, hrun, Result.andThen]
      exact hK _ _ (h v w (by simpa using hown) (Below.refl _ _))
  | some ad => exact wpIn_append hgd s x ho base v pre hs hown ad cap l hx hv.news.2 hlen hbase h
theorem wpIn_append1 {w : World} {ops : Array Oper} {rest : List Oper} {o : Oper} {a : Act} {Q : Exit → Act → World → Prop} (hgd : o.guard = none) (s x : Operand)
    (ho : o.op = .call { callee := .builtin .append, args := #[s, x], argTypes := #[22, 22] }) (base : Nat) (v : Value) (pre : List UInt8) (z : Int) (hs : a.eval s = v) (hown : OwnB w base v pre)
    (b : UInt8) (hz : z = b.toNat) (hx : a.eval x = .slice (some ⟨w.heap.size, 0, none⟩) 1 1)
    (hlen : pre.length + 1 ≤ 140737488355328) (hbase : base ≤ w.heap.size)
    (h : ∀ v' w', OwnB w' base v' (pre ++ [b]) → Below base w w' → wpListIn F n Tryd.prog ops Q rest (a.put o.dst v') w') : wpListIn F n Tryd.prog ops Q (o :: rest) a (w.alloc (.cells #[.int .u8 z] 5)) := by
  subst hz
  refine wpIn_append hgd s x ho base v pre hs (World.ownsRow.alloc hown _) ⟨w.heap.size, 0, none⟩ 1 [b] hx (cell_one_new _ _ _) hlen (by simp; omega) fun v' w' h1 h2 => h v' w' h1 ?_
  exact ((Below.refl base w).alloc hbase _).trans h2
end
end Go.Proofs.YtcimppggemdidaaDoor
