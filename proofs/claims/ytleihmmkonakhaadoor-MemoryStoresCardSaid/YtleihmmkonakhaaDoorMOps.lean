/- The operations on a map of pages, for the walk; a page made, loaded and stored whole. -/
import Derived.Test.YtleihmmkonakhaaDoorMF1
namespace Go.Proofs.YtleihmmkonakhaaDoor
open Go Go.RowKit Go.Maps

section
variable {ops : Array Oper} {rest : List Oper} {o : Oper} {a : Act} {w : World} {Q : Exit → Act → World → Prop}

theorem wpList_putP (hg : o.guard = none) (m x v : Operand) (hop : o.op = Op.mapUpdate 50 m x v) (b p c : Nat) (L : List (Nat × Nat)) (hm : a.eval m = .map (some b)) (hx : a.eval x = .int .u32 ((p : Nat) : Int)) (hv : a.eval v = .pointer (some ⟨c, 0, none⟩))
    (h : MapAt w b L) (hl : L.length < maxLen) (hp : p < 4294967296) (hn : p ∉ L.map (·.1))
    (hK : ∀ w', MapAt w' b ((p, c) :: L) → w.grownBy w' (some b) → wpList Tryd.prog ops Q rest (a.put o.dst undef) w') : wpList Tryd.prog ops Q (o :: rest) a w := by
  refine wpList_plain hg fun K' hK' => ?_
  obtain ⟨w', hrun, r1, r2⟩ := h.put hl hp hn (c := c)
  unfold ptrV at hrun
  unfold Oper.wp
  simp [execOp, hop, hm, hx, hv, hrun, Result.andThen]
  exact hK' _ _ (hK w' r1 r2)
theorem wpList_delP (hg : o.guard = none) (m x : Operand) (hop : o.op = Op.call { callee := Callee.builtin Builtin.delete, args := #[m, x], argTypes := #[50, 29] }) (b p : Nat) (L : List (Nat × Nat))
    (hm : a.eval m = .map (some b)) (hx : a.eval x = .int .u32 ((p : Nat) : Int)) (h : MapAt w b L) (hp : p < 4294967296)
    (hK : ∀ w', MapAt w' b (L.filter fun x => x.1 != p) → w.grownBy w' (some b) → wpList Tryd.prog ops Q rest (a.put o.dst (.tuple #[])) w') : wpList Tryd.prog ops Q (o :: rest) a w := by
  refine wpList_plain hg fun K' hK' => ?_
  obtain ⟨w', hrun, r1, r2⟩ := h.del hp o.type
  unfold Oper.wp
  simp [execOp, hop, resolve, invoke, builtin, hm, hx, hrun, Result.andThen]
  exact hK' _ _ (hK w' r1 r2)
theorem wpList_rangeP (hg : o.guard = none) (m : Operand) (hop : o.op = Op.range 50 m) (b : Nat) (L : List (Nat × Nat)) (hm : a.eval m = .map (some b)) (h : MapAt w b L)
    (hK : ∀ w', RngAt w' b w.heap.size L L → Adds w w' → w'.heap.size = w.heap.size + 1 → wpList Tryd.prog ops Q rest (a.put o.dst (.pointer (some ⟨w.heap.size, 0, none⟩))) w') : wpList Tryd.prog ops Q (o :: rest) a w := by
  refine wpList_plain hg fun K' hK' => ?_
  obtain ⟨w', hrun, r1, r2, r3⟩ := h.range
  unfold Oper.wp
  simp [execOp, hop, hm, hrun, Result.andThen]
  exact hK' _ _ (hK w' r1 r2 r3)
theorem wpList_nextP (hg : o.guard = none) (it : Operand) (hop : o.op = Op.next it false) (b r : Nat) (L todo : List (Nat × Nat)) (hit : a.eval it = .pointer (some ⟨r, 0, none⟩)) (h : RngAt w b r L todo)
    (hDone : todo = [] → wpList Tryd.prog ops Q rest (a.put o.dst (.tuple #[.bool false])) w)
    (hMore : ∀ (p c : Nat) (todo' : List (Nat × Nat)) (w' : World), todo.Perm ((p, c) :: todo') → (p, c) ∈ L → RngAt w' b r L todo' → w.grownBy w' (some r) → w'.heap.size = w.heap.size → w'.rangeLeft b r < w.rangeLeft b r →
      (Instr.entry (.pointer (some ⟨r, 0, none⟩))).run Tryd.prog w' = .ok (.tuple #[.int .u32 p, .pointer (some ⟨c, 0, none⟩)]) w' → wpList Tryd.prog ops Q rest (a.put o.dst (.tuple #[.bool true, .int .u32 p, .pointer (some ⟨c, 0, none⟩)])) w') :
    wpList Tryd.prog ops Q (o :: rest) a w := by
  refine wpList_plain hg fun K' hK' => ?_
  unfold Oper.wp
  rcases h.next o.type with ⟨h0, hrun⟩ | ⟨p, c, todo', w', h1, h2, hrun, h3, h4, h5, h7, h6⟩
  · simp [execOp, hop, hit, hrun, Result.andThen]
    exact hK' _ _ (hDone h0)
  · unfold ptrV at hrun h6
    simp [execOp, hop, hit, hrun, Result.andThen]
    exact hK' _ _ (hMore p c todo' w' h1 h2 h3 h4 h5 h7 h6)
end

theorem alloc_run' {P : Program} {a : Act} {o : Oper} {w w' : World} {v : Value} {t : TypeId} (hop : o.op = .alloc t) (h : (Instr.alloc t true (.tuple #[])).run P w = .ok v w') :
    (execOp a.eval o).run P w = .ok (.value v) w' := by
  simp [execOp, hop, h, Result.andThen]
set_option maxRecDepth 100000 in
theorem alloc_page (w : World) : (Instr.alloc 76 true (.tuple #[])).run Tryd.prog w = .ok (.pointer (some ⟨w.heap.size, 0, none⟩)) (w.alloc (.cells (pageL (fun _ => 0) 0).toArray 76)) := by kernel_rfl
theorem info_page : (Tryd.prog.info? 76).map (·.size) = some 4097 := by kernel_rfl
theorem info_words : (Tryd.prog.info? 74).map (·.size) = some 4096 := by kernel_rfl
end Go.Proofs.YtleihmmkonakhaaDoor
