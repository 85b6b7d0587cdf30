/- Blocks of a known row of cells; what turns one block alone, and makes memory. -/
import Derived.WalkKit
import Derived.Laws.Rows
import Derived.Test.YtbinmgpfkjmijaaGreatDoorSF1
namespace Go.Proofs.YtbinmgpfkjmijaaGreatDoor
open Go Go.RowKit

/-- A block whose cells hold l. -/
def BkS (t : TypeId) (w : World) (b : Nat) (l : List Value) : Prop := w.heap[b]? = some (.cells l.toArray t (0, 0))
section
variable {t : TypeId} {w w' : World} {b : Nat} {l : List Value}
theorem BkS.lt (h : BkS t w b l) : b < w.heap.size := (Array.getElem?_eq_some_iff.1 h).1
theorem BkS.cell (h : BkS t w b l) (i : Nat) : w.cell? ⟨b, i, none⟩ = l[i]? := by
  rw [cell_of_row w b i _ _ _ h]; simp
theorem BkS.free (h : BkS t w b l) (i : Nat) : w.frozen? ⟨b, i, none⟩ = false := by
  unfold BkS at h
  simp [World.frozen?, h]
theorem BkS.set (h : BkS t w b l) (i : Nat) (u : Value) : BkS t (w.setCell ⟨b, i, none⟩ u) b (l.set i u) := by
  unfold BkS at *
  simp only [World.setCell, Array.getElem?_modify, h]
  simp
theorem BkS.new (t : TypeId) (w : World) (l : List Value) : BkS t (w.alloc (.cells l.toArray t)) w.heap.size l := heap_new w _
theorem BkS.adds (h : BkS t w b l) (ha : Adds w w') : BkS t w' b l := (ha.block b h.lt).trans h
theorem BkS.other (h : BkS t w b l) {c i : Nat} (hc : c ≠ b) (u : Value) : BkS t (w.setCell ⟨c, i, none⟩ u) b l := (Below.heap_setCell w _ _ _ (fun e => hc e.symm)).trans h
end
/-- What turns one block alone, and makes memory. -/
def TnS (b : Nat) (w w' : World) : Prop := w.grownBy w' (some b)
theorem TnS.refl (b : Nat) (w : World) : TnS b w w := ⟨rfl, rfl, rfl, Nat.le_refl _, fun _ _ _ => rfl⟩
theorem TnS.of_adds (b : Nat) {w w' : World} (h : Adds w w') : TnS b w w' := ⟨h.os, h.tape, h.output, h.size, fun k hk _ => h.block k hk⟩
theorem TnS.trans {b : Nat} {u v w : World} (h : TnS b u v) (k : TnS b v w) : TnS b u w :=
  ⟨k.os.trans h.os, k.tape.trans h.tape, k.output.trans h.output, Nat.le_trans h.size k.size, fun i hi hb => (k.block i (Nat.lt_of_lt_of_le hi h.size) hb).trans (h.block i hi hb)⟩
theorem TnS.setCell (b i : Nat) (w : World) (u : Value) : TnS b w (w.setCell ⟨b, i, none⟩ u) :=
  ⟨rfl, rfl, rfl, by simp [World.setCell], fun k _ hb => Below.heap_setCell w _ _ _ (fun e => hb (by rw [e]))⟩
/-- A block that the call itself made: nothing that was there has turned. -/
theorem TnS.own {b : Nat} {u v w : World} (h : Adds u v) (hb : u.heap.size ≤ b) (k : TnS b v w) : Adds u w :=
  ⟨k.os.trans h.os, k.tape.trans h.tape, k.output.trans h.output, Nat.le_trans h.size k.size, fun i hi => (k.block i (Nat.lt_of_lt_of_le hi h.size) (fun e => by cases e; omega)).trans (h.block i hi)⟩
theorem Adds.set {u v : World} {b : Nat} (h : Adds u v) (hb : u.heap.size ≤ b) (i : Nat) (x : Value) : Adds u (v.setCell ⟨b, i, none⟩ x) := TnS.own h hb (TnS.setCell b i v x)
end Go.Proofs.YtbinmgpfkjmijaaGreatDoor
