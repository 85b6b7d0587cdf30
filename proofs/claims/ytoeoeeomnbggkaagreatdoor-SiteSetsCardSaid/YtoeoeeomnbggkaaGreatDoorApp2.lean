/- Appending whatever slice of bytes to a row of bytes that the call has made. -/
import Derived.Test.YtoeoeeomnbggkaaGreatDoorApp
namespace Go.Proofs.YtoeoeeomnbggkaaGreatDoor
open Go Go.RowKit

theorem run_append_none {P : Program} {w : World} (base : Nat) (t ty e : TypeId) (i : TypeInfo) (size : Nat) (ht : P.underlying t = some (.slice e)) (hi : P.info? e = some i)
    (v : Value) (n c : Nat) (xs : List Value) (hown : w.ownsRow base e size v n xs) :
    (Builtin.append_ #[t, t] ty #[v, .slice none 0 c]).run P w = .ok v w := by
  rcases hown.2 with ⟨rfl, rfl⟩ | ⟨g, cap, cur, rfl, _, _, hnc, _⟩
  · simp [Builtin.append_, run_underlying ht, sizeOf, typeInfo, hi, Builtin.lenOf, Builtin.firstCells]
  · simp [Builtin.append_, run_underlying ht, sizeOf, typeInfo, hi, Builtin.lenOf, Builtin.firstCells, hnc, storeCells]

theorem wp_append_bytes {w : World} {ops : Array Oper} {rest : List Oper} {o : Oper} {a : Act} {Q : Exit → Act → World → Prop} (hgd : o.guard = none) (s x : Operand)
    (ho : o.op = .call { callee := .builtin .append, args := #[s, x], argTypes := #[47, 47] }) (base : Nat) (v : Value) (pre : List UInt8) (hs : a.eval s = v) (hown : OwnB w base v pre)
    (v2 : Value) (l : List UInt8) (n : Nat) (hx : a.eval x = v2) (hv : Bytes n w v2 l)
    (hlen : pre.length + l.length ≤ 140737488355328) (hbase : base ≤ w.heap.size)
    (h : ∀ v' w', OwnB w' base v' (pre ++ l) → Below base w w' → wpList Tryz.prog ops Q rest (a.put o.dst v') w') : wpList Tryz.prog ops Q (o :: rest) a w := by
  obtain ⟨ao, cap, rfl, h1, h2, h3⟩ := id hv
  cases ao with
  | none =>
    have hl : l = [] := by
      rcases l with _ | ⟨y, l⟩
      · rfl
      · obtain ⟨b, off, e, _⟩ := h3 (by simp)
        cases e
    subst hl
    obtain ⟨i0, hi, hz0, hz1, hz2⟩ := info_parts info8
    refine wpList_plain hgd fun K hK => ?_
    have hrun := run_append_none (P := Tryz.prog) (w := w) base 47 o.type 5 i0 1 Tryz.underlying47 hi v pre.length cap (pre.map byteV) hown
    unfold Oper.wp
    simp only [List.length_nil] at hx
    simp [execOp, ho, resolve, invoke, builtin, hs, hx, hrun, Result.andThen]
    exact hK _ _ (h v w (by simpa using hown) (Below.refl _ _))
  | some ad => exact wp_append hgd s x ho base v pre hs hown ad cap l hx hv.news.2 hlen hbase h
theorem own_empty (w : World) : OwnB (w.alloc (.cells #[] 5)) w.heap.size (.slice (some ⟨w.heap.size, 0, none⟩) 0 0) [] := OwnB.lit w [] (by simp [maxLen])
theorem strAt {w : World} {v : Value} {l : List UInt8} (h : Bytes w.heap.size w v l) : (convert 47 9 v).run Tryz.prog w = .ok (.string (str l)) w :=
  h.str _ _ _ Tryz.underlying47 Tryz.underlying5 Tryz.underlying9
def TrueAdds (w : World) (e : Ending) (w' : World) : Prop := e = .returned (.bool true) ∧ Adds w w'
theorem OwnB.adds {w w' : World} {b : Nat} {v : Value} {l : List UInt8} (h : OwnB w b v l) (ha : Adds w w') : OwnB w' b v l := h.below ha fun g hg => (World.ownsRow.lt h g hg).2
end Go.Proofs.YtoeoeeomnbggkaaGreatDoor
