/- Appending noughts to a row of clocks that the call has made: 'append(s, make(list, n)...)'. -/
import Derived.Lib.AppendZerosOnto
import Derived.Test.YtcimppggemdidaaDoorVMem
namespace Go.Proofs.YtcimppggemdidaaDoor
open Go Go.RowKit

theorem zeroCells_list (z : Value) (n : Nat) : Builtin.zeroCells #[z] n = (List.replicate n z).toArray := by
  unfold Builtin.zeroCells
  apply Array.ext
  · simp
  · intro i h1 h2
    simp at h1
    simp [Nat.mod_one]
theorem run_append_zw {w : World} (t tn ty : TypeId) (kn kq : IntKind) (ht : Tryd.prog.underlying t = some (.slice 26)) (htn : Tryd.prog.underlying tn = some (.int kn)) (base : Nat) (v : Value) (pre : List UInt64) (hown : OwnW w base v pre)
    (k : Nat) (h0 : 0 < k) (hlen : pre.length + k ≤ 1000000) (hbase : base ≤ w.heap.size) :
    ∃ v' w', (Builtin.append_ #[t, tn] ty #[v, .int kq k]).run Tryd.prog w = .ok v' w' ∧ OwnW w' base v' (pre ++ List.replicate k 0) ∧ w.grownBy w' v.ownBlock := by
  obtain ⟨i0, hi, hz0, hz1, hz2⟩ := info_parts info64
  have hw : IntKind.i64.wrap (k : Int) = k := by rw [IntKind.wrap_i64]; omega
  have hzl : (List.replicate k (0 : UInt64)).map wordV = List.replicate k (.int .u64 0) := by simp [wordV]
  have hml : (pre ++ List.replicate k 0).map wordV = pre.map wordV ++ List.replicate k (.int .u64 0) := by rw [List.map_append, hzl]
  have grown : ∀ (old : Nat) (row : Option Nat), ∃ v' w', (Result.ok (.slice (some ⟨w.heap.size, 0, none⟩) (pre.length + k) (grownCap w (pre.length + k) old 26))
        (w.drew.alloc (.cells ((pre.map wordV).toArray ++ Builtin.zeroCells #[.int .u64 0] k ++ Builtin.zeroCells #[.int .u64 0] (grownCap w (pre.length + k) old 26 - (pre.length + k))) 26)) : Result Value) = .ok v' w' ∧
      OwnW w' base v' (pre ++ List.replicate k 0) ∧ w.grownBy w' row := by
    intro old row
    have hge := grownCap_ge w (pre.length + k) old 26
    have hcm : grownCap w (pre.length + k) old 26 ≤ maxLen := grownCap_le_maxLen w (pre.length + k) old 26 (by unfold maxLen; omega)
    refine ⟨_, _, rfl, ?_, ⟨rfl, rfl, rfl, by simp, fun j hj _ => heap_alloc_old w.drew _ hj⟩⟩
    unfold OwnW
    have hlp : (pre ++ List.replicate k (0 : UInt64)).length = pre.length + k := by simp
    rw [hlp, hml]
    refine ⟨by simp, .inr ⟨w.heap.size, _, _, rfl, hbase, heap_alloc_new w.drew _, hge, hcm, ?_, ?_⟩⟩
    · simp [size_zeroCells]; omega
    · rw [zeroCells_list, zeroCells_list]
      have : (pre.map wordV ++ List.replicate k (Value.int .u64 0)).length = (pre.length + k) * 1 := by simp
      simp only [Array.toList_append]
      rw [← this]
      exact List.take_left
  rcases hown.2 with ⟨rfl, hp⟩ | ⟨g, cap, cur, rfl, hbg, hg, hnc, hcm, hcs, htake⟩
  · have hpre : pre = [] := List.eq_nil_of_length_eq_zero hp
    subst hpre
    have hr := Lib.run_append_grow_zeros (P := Tryd.prog) w t tn ty 26 i0 (.int .u64 0) kq kn ht htn hi hz0 none 0 0 [] (by simp [Builtin.firstCells]) k h0 (by omega) (by omega) (by omega) (by rw [hz2]; omega)
      (by rw [hz2]; exact growslice_fits (by omega) (by omega))
    obtain ⟨v', w', e, h1, h2⟩ := grown 0 (Value.ownBlock (.slice none 0 0))
    simp only [List.length_nil, List.map_nil] at e hr ⊢
    exact ⟨v', w', hr.trans e, h1, h2⟩
  · by_cases hroom : pre.length + k ≤ cap
    · have hst := run_storeCells_at Tryd.prog g pre.length 26 (List.replicate k (.int .u64 0)) 0 cur w hg (by simp; omega) (fun u hu => by rw [List.eq_of_mem_replicate hu]; rfl)
      have hneg : ¬ ((k : Int) < 0) := by omega
      have hk : k ≠ 0 := by omega
      have h48i : ¬ (281474976710656 < (k : Int) * 8) := by omega
      have hzl2 : (Builtin.zeroCells (Value.int .u64 0).cells k).toList = List.replicate k (.int .u64 0) := by
        have := zeroCells_list (.int .u64 0) k
        simp only [Value.cells] at this ⊢
        rw [this]
      have hadd : (⟨g, 0, none⟩ : Addr).add pre.length = ⟨g, pre.length, none⟩ := by unfold Addr.add; split <;> simp_all
      simp only [Nat.add_zero, List.length_replicate] at hst
      refine ⟨.slice (some ⟨g, 0, none⟩) (pre.length + k) cap, w.setRow g (cur.toList.take pre.length ++ List.replicate k (Value.int .u64 0) ++ cur.toList.drop (pre.length + k)).toArray, ?_, ?_, ⟨rfl, rfl, rfl, by simp, fun j hj hne => setRow_other w g j _ (fun e => hne (by simp [Value.ownBlock, e]))⟩⟩
      · simp [Builtin.append_, run_underlying ht, run_underlying htn, sizeOf, typeInfo, zeroValue, hi, hz0, hz1, hz2, asInt, asIntOf, hw, hneg, hk, h48i, hroom, hzl2, hadd, hst]
      · unfold OwnW
        have hlp : (pre ++ List.replicate k (0 : UInt64)).length = pre.length + k := by simp
        rw [hlp, hml]
        refine ⟨by simp, .inr ⟨g, cap, _, rfl, hbg, setRow_heap w g cur _ _ _ hg, hroom, hcm, ?_, ?_⟩⟩
        · simp; omega
        · have ht' : cur.toList.take pre.length = pre.map wordV := by rw [Nat.mul_one] at htake; exact htake
          rw [ht']
          have : (pre.map wordV ++ List.replicate k (Value.int .u64 0)).length = (pre.length + k) * 1 := by simp
          simp only [List.append_assoc]
          rw [← List.append_assoc, ← this]
          exact List.take_left
    · have hfc : (Builtin.firstCells i0.size pre.length (.slice (some ⟨g, 0, none⟩) pre.length cap)).run Tryd.prog w.drew = .ok (pre.map wordV).toArray w.drew :=
        run_firstCells_some (P := Tryd.prog) w.drew i0.size pre.length ⟨g, 0, none⟩ pre.length cap (pre.map wordV) (by rw [hz1]; simp) (by simpa using World.ownsRow.cells hown (g := g) rfl)
      have hr := Lib.run_append_grow_zeros (P := Tryd.prog) w t tn ty 26 i0 (.int .u64 0) kq kn ht htn hi hz0 (some ⟨g, 0, none⟩) pre.length cap (pre.map wordV) hfc k h0 (by omega) (by omega) (by omega) (by rw [hz2]; omega)
        (by rw [hz2]; exact growslice_fits (by omega) (by omega))
      obtain ⟨v', w', e, h1, h2⟩ := grown cap (Value.ownBlock (.slice (some ⟨g, 0, none⟩) pre.length cap))
      exact ⟨v', w', hr.trans e, h1, h2⟩
section
variable {F : Fence} {n : Nat}
theorem wp_append_zw {w : World} {ops : Array Oper} {rest : List Oper} {o : Oper} {a : Act} {Q : Exit → Act → World → Prop} (hgd : o.guard = none) (s x : Operand) (t tn : TypeId)
    (ho : o.op = .call { callee := .builtin .append, args := #[s, x], argTypes := #[t, tn] }) (kn kq : IntKind) (ht : Tryd.prog.underlying t = some (.slice 26)) (htn : Tryd.prog.underlying tn = some (.int kn)) (base : Nat) (v : Value) (pre : List UInt64) (hs : a.eval s = v) (hown : OwnW w base v pre)
    (k : Nat) (hx : a.eval x = .int kq k) (h0 : 0 < k) (hlen : pre.length + k ≤ 1000000) (hbase : base ≤ w.heap.size)
    (h : ∀ v' w', OwnW w' base v' (pre ++ List.replicate k 0) → w.grownBy w' v.ownBlock → wpList Tryd.prog ops Q rest (a.put o.dst v') w') : wpList Tryd.prog ops Q (o :: rest) a w := by
  obtain ⟨v', w', hr, r1, r2⟩ := run_append_zw t tn o.type kn kq ht htn base v pre hown k h0 hlen hbase
  refine wpList_plain hgd fun K hK => ?_
  unfold Oper.wp
  simp [execOp, ho, resolve, invoke, builtin, hs, hx, hr, Result.andThen]
  exact hK _ _ (h v' w' r1 r2)
end
end Go.Proofs.YtcimppggemdidaaDoor
