/- Appending bytes to a row of the call's own: only that row turns. -/
import Derived.Test.YtfclclckcjjnkaaGreatDoorBA
namespace Go.Proofs.YtfclclckcjjnkaaGreatDoor
open Go Go.RowKit
section
variable {w : World} {ops : Array Oper} {rest : List Oper} {o : Oper} {a : Act} {Q : Exit → Act → World → Prop}
theorem run_append_b8 {w : World} (ty : TypeId) (base : Nat) (v : Value) (pre : List UInt8) (hown : OwnB w base v pre)
    (v2 : Value) (l : List UInt8) (n : Nat) (hv : Bytes n w v2 l) (hlen : pre.length + l.length ≤ 1000000) (hbase : base ≤ w.heap.size) :
    ∃ v' w', (Builtin.append_ #[27, 27] ty #[v, v2]).run Tryz.prog w = .ok v' w' ∧ OwnB w' base v' (pre ++ l) ∧ w.grownBy w' v.ownBlock := by
  obtain ⟨ao, cap, rfl, h1, h2, h3⟩ := id hv
  obtain ⟨i0, hi, hz0, hz1, hz2⟩ := info_parts info8
  cases ao with
  | none =>
    have hl : l = [] := by
      rcases l with _ | ⟨y, l⟩
      · rfl
      · obtain ⟨b, off, e, _⟩ := h3 (by simp)
        cases e
    subst hl
    exact ⟨_, _, run_append_none (P := Tryz.prog) (w := w) base 27 ty 5 i0 1 Tryz.underlying27 hi v pre.length cap (pre.map byteV) hown, by simpa using hown, ⟨rfl, rfl, rfl, Nat.le_refl _, fun _ _ _ => rfl⟩⟩
  | some ad =>
    obtain ⟨v', w', hr, r1, r2, _⟩ := run_append_own (P := Tryz.prog) w base 27 ty 5 i0 (.int .u8 0) 1 1 Tryz.underlying27 hi hz0 hz1 hz2 rfl (by decide) v pre.length (pre.map byteV) hown ad l.length cap (l.map byteV) (by simp) hv.news.2
      (fun u hu => by obtain ⟨b, _, rfl⟩ := List.mem_map.1 hu; rfl) (by unfold maxLen; omega) (by omega) hbase
    refine ⟨v', w', hr, ?_, r2⟩
    unfold OwnB
    rw [List.length_append, List.map_append]
    exact r1
theorem wp_append_b8 (hgd : o.guard = none) (s x : Operand)
    (ho : o.op = .call { callee := .builtin .append, args := #[s, x], argTypes := #[27, 27] }) (base : Nat) (v : Value) (pre : List UInt8) (hs : a.eval s = v) (hown : OwnB w base v pre)
    (v2 : Value) (l : List UInt8) (n : Nat) (hx : a.eval x = v2) (hv : Bytes n w v2 l) (hlen : pre.length + l.length ≤ 1000000) (hbase : base ≤ w.heap.size)
    (h : ∀ v' w', OwnB w' base v' (pre ++ l) → w.grownBy w' v.ownBlock → wpList Tryz.prog ops Q rest (a.put o.dst v') w') : wpList Tryz.prog ops Q (o :: rest) a w := by
  obtain ⟨v', w', hr, r1, r2⟩ := run_append_b8 o.type base v pre hown v2 l n hv hlen hbase
  refine wpList_plain hgd fun K hK => ?_
  unfold Oper.wp
  simp [execOp, ho, resolve, invoke, builtin, hs, hx, hr, Result.andThen]
  exact hK _ _ (h v' w' r1 r2)

end
theorem own_not8 {w : World} {g base : Nat} {v u : Value} {b : UInt8} {l : List UInt8} (hc : w.cell? ⟨g, 0, none⟩ = some u) (hu : ∀ x, u ≠ .int .u8 x) (ho : OwnB w base v (b :: l)) : v.ownBlock ≠ some g := by
  rcases ho.2 with ⟨rfl, h0⟩ | ⟨g', cap, cur, rfl, _, hg, _, _, _, ht⟩
  · simp at h0
  · intro e
    have e2 : g' = g := by simpa [Value.ownBlock] using e
    subst e2
    have h1 := cell_of_row w g' 0 _ _ _ hg
    rw [hc] at h1
    have h2 : cur.toList.take 1 = [byteV b] := by
      have := congrArg (List.take 1) ht
      simpa [List.take_take] using this
    have h3 : cur[0]? = some (byteV b) := by
      have := congrArg (fun x => x[0]?) h2
      simpa using this
    rw [h3] at h1
    exact hu _ (Option.some.inj h1)
end Go.Proofs.YtfclclckcjjnkaaGreatDoor
