/- A digest in memory: its block; what turns one block and makes memory; an operation whose run is known. -/
import Derived.WalkKit
import Derived.WalkSpells
import Derived.Laws.Rows
import Derived.Test.YtleihmmkonakhaaDoorLib
import Derived.Test.YtleihmmkonakhaaDoorDPlain
import Derived.Test.YtleihmmkonakhaaDoorRows
namespace Go.Proofs.YtleihmmkonakhaaDoor
open Go Go.RowKit

/-- A block of a digest: what its cells hold. -/
def Blk (w : World) (b : Nat) (l : List Value) : Prop := w.heap[b]? = some (.cells l.toArray 81 (0, 0))

theorem Blk.lt {w : World} {b : Nat} {l : List Value} (h : Blk w b l) : b < w.heap.size := (Array.getElem?_eq_some_iff.1 h).1
theorem Blk.cell {w : World} {b : Nat} {l : List Value} (h : Blk w b l) (i : Nat) : w.cell? ⟨b, i, none⟩ = l[i]? := by
  rw [cell_of_row w b i _ _ _ h]; simp
theorem Blk.free {w : World} {b : Nat} {l : List Value} (h : Blk w b l) (i : Nat) : w.frozen? ⟨b, i, none⟩ = false := by
  unfold Blk at h
  simp [World.frozen?, h]
theorem Blk.set {w : World} {b : Nat} {l : List Value} (h : Blk w b l) (i : Nat) (u : Value) : Blk (w.setCell ⟨b, i, none⟩ u) b (l.set i u) := by
  unfold Blk at *
  simp only [World.setCell, Array.getElem?_modify, h]
  simp
theorem Blk.drew {w : World} {b : Nat} {l : List Value} (h : Blk w b l) : Blk w.drew b l := h
theorem Blk.new (w : World) (l : List Value) : Blk (w.alloc (.cells l.toArray 81)) w.heap.size l := heap_alloc_new w _
theorem Blk.grown {w w' : World} {b : Nat} {l : List Value} {row : Option Nat} (h : Blk w b l) (hg : w.grownBy w' row) (hb : some b ≠ row) : Blk w' b l := (hg.block b h.lt hb).trans h
theorem Blk.adds {w w' : World} {b : Nat} {l : List Value} (h : Blk w b l) (ha : Adds w w') : Blk w' b l := (ha.block b h.lt).trans h

/-- What turns one block alone, and makes memory. -/
def Turns (b : Nat) (w w' : World) : Prop := w.grownBy w' (some b)
theorem Turns.refl (b : Nat) (w : World) : Turns b w w := ⟨rfl, rfl, rfl, Nat.le_refl _, fun _ _ _ => rfl⟩
theorem Turns.of_adds (b : Nat) {w w' : World} (h : Adds w w') : Turns b w w' := ⟨h.os, h.tape, h.output, h.size, fun k hk _ => h.block k hk⟩
theorem Turns.trans {b : Nat} {u v w : World} (h : Turns b u v) (k : Turns b v w) : Turns b u w :=
  ⟨k.os.trans h.os, k.tape.trans h.tape, k.output.trans h.output, Nat.le_trans h.size k.size, fun i hi hb => (k.block i (Nat.lt_of_lt_of_le hi h.size) hb).trans (h.block i hi hb)⟩
theorem Turns.setCell (b i : Nat) (w : World) (u : Value) : Turns b w (w.setCell ⟨b, i, none⟩ u) :=
  ⟨rfl, rfl, rfl, by simp [World.setCell], fun k _ hb => Below.heap_setCell w _ _ _ (fun e => hb (by rw [e]))⟩
theorem Turns.drew (b : Nat) (w : World) : Turns b w w.drew := ⟨rfl, rfl, rfl, Nat.le_refl _, fun _ _ _ => rfl⟩
theorem Turns.alloc (b : Nat) (w : World) (o : Obj) : Turns b w (w.alloc o) := Turns.of_adds b ((Below.refl _ _).alloc (Nat.le_refl _) _)
/-- A block that the call itself made: nothing that was there has turned. -/
theorem Turns.own {b : Nat} {u v w : World} (h : Adds u v) (hb : u.heap.size ≤ b) (k : Turns b v w) : Adds u w :=
  ⟨k.os.trans h.os, k.tape.trans h.tape, k.output.trans h.output, Nat.le_trans h.size k.size, fun i hi => (k.block i (Nat.lt_of_lt_of_le hi h.size) (fun e => by cases e; omega)).trans (h.block i hi)⟩
theorem Turns.below {b : Nat} {v w : World} (h : Turns b v w) (hb : b ≤ v.heap.size) : Below b v w :=
  ⟨h.os, h.tape, h.output, h.size, fun i hi => h.block i (by omega) (fun e => by cases e; omega)⟩

/-- The table's first k bytes filled. -/
def tabV (k i : Nat) : Value := .int .u64 ((if i < k then dnK 8 i else 0 : Nat) : Int)
def digK (k : Nat) (bits many : Nat) : List Value := (List.range 256).map (tabV k) ++ [.int .u64 bits, .int .i64 many]
theorem digK_tab (k bits many i : Nat) (h : i < 256) : (digK k bits many)[i]? = some (tabV k i) := by
  unfold digK
  rw [List.getElem?_append_left (by simpa using h)]
  simp [h]
theorem digK_bits (k bits many : Nat) : (digK k bits many)[256]? = some (.int .u64 bits) := by
  unfold digK
  rw [List.getElem?_append_right (by simp)]
  simp
theorem digK_many (k bits many : Nat) : (digK k bits many)[257]? = some (.int .i64 many) := by
  unfold digK
  rw [List.getElem?_append_right (by simp)]
  simp
theorem digK_set (k bits many : Nat) (h : k < 256) : (digK k bits many).set k (.int .u64 (dnK 8 k : Nat)) = digK (k + 1) bits many := by
  unfold digK
  rw [List.set_append_left _ _ (by simpa using h)]
  congr 1
  apply List.ext_getElem
  · simp
  · intro i h1 h2
    simp only [List.length_map, List.length_range] at h2
    rw [List.getElem_set]
    split
    · rename_i e
      subst e
      simp [tabV]
    · rename_i e
      simp only [List.getElem_map, List.getElem_range, tabV]
      by_cases hik : i < k
      · rw [if_pos hik, if_pos (by omega)]
      · rw [if_neg hik, if_neg (by omega)]
theorem digK_set_bits (k bits many bits' : Nat) : (digK k bits many).set 256 (.int .u64 bits') = digK k bits' many := by
  unfold digK
  rw [List.set_append_right _ _ (by simp)]
  simp
theorem digK_set_many (k bits many many' : Nat) : (digK k bits many).set 257 (.int .i64 many') = digK k bits many' := by
  unfold digK
  rw [List.set_append_right _ _ (by simp)]
  simp

section
variable {P : Program}
/-- An operation whose run is known. -/
theorem wpList_run {ops : Array Oper} {rest : List Oper} {o : Oper} {a : Act} {w w' : World} {Q : Exit → Act → World → Prop} {v : Value} (hgd : o.guard = none)
    (hrun : (execOp a.eval o).run P w = .ok (.value v) w') (h : wpList P ops Q rest (a.put o.dst v) w') : wpList P ops Q (o :: rest) a w :=
  wpList_plain hgd fun _ hK => by
    unfold Oper.wp
    rw [hrun]
    exact hK _ _ h
theorem wpList_run_none {ops : Array Oper} {rest : List Oper} {o : Oper} {a : Act} {w w' : World} {Q : Exit → Act → World → Prop} (hgd : o.guard = none)
    (hrun : (execOp a.eval o).run P w = .ok .skip w') (h : wpList P ops Q rest (a.put o.dst undef) w') : wpList P ops Q (o :: rest) a w :=
  wpList_plain hgd fun _ hK => by
    unfold Oper.wp
    rw [hrun]
    exact hK _ _ h
end

theorem build_new (w : World) : (Instr.build 81 #[(1, .int .u64 18446744073709551615)]).run Tryd.prog w = .ok (.agg (digK 0 18446744073709551615 0).toArray) w := by kernel_rfl
theorem build_zero (w : World) : (Instr.build 81 #[]).run Tryd.prog w = .ok (.agg (digK 0 0 0).toArray) w := by kernel_rfl
theorem box_dig (w : World) (l : List Value) : (Instr.box 81 (.agg l.toArray)).run Tryd.prog w = .ok (.pointer (some ⟨w.heap.size, 0, none⟩)) (w.alloc (.cells l.toArray 81)) := rfl
section
variable {P : Program} {ops : Array Oper} {rest : List Oper} {o : Oper} {a : Act} {w : World} {Q : Exit → Act → World → Prop}
theorem wpList_build1 {t : TypeId} {i : Nat} {x : Operand} (hgd : o.guard = none) (hop : o.op = .build t #[(i, x)]) (y v : Value) (hrun : ∀ w, (Instr.build t #[(i, y)]).run P w = .ok v w) (hy : a.eval x = y)
    (h : wpList P ops Q rest (a.put o.dst v) w) : wpList P ops Q (o :: rest) a w := by
  subst hy
  exact wpList_run hgd (by simp [execOp, hop, hrun w, Result.andThen]) h
theorem wpList_build0 {t : TypeId} (hgd : o.guard = none) (hop : o.op = .build t #[]) (v : Value) (hrun : ∀ w, (Instr.build t #[]).run P w = .ok v w)
    (h : wpList P ops Q rest (a.put o.dst v) w) : wpList P ops Q (o :: rest) a w :=
  wpList_run hgd (by simp [execOp, hop, hrun w, Result.andThen]) h
theorem wpList_box {t : TypeId} {x : Operand} (hgd : o.guard = none) (hop : o.op = .box t x) (l : List Value) (hx : a.eval x = .agg l.toArray)
    (h : wpList P ops Q rest (a.put o.dst (.pointer (some ⟨w.heap.size, 0, none⟩))) (w.alloc (.cells l.toArray t))) : wpList P ops Q (o :: rest) a w :=
  wpList_run hgd (by simp only [execOp, hop, hx, Sem.run_bind]; rfl) h
end
end Go.Proofs.YtleihmmkonakhaaDoor
