/- Words of 32 bits in memory: a slice whose words read as a list, in a world; a literal of some. -/
import Derived.Test.YtooocgnjefbnkaaDoorLib
import Derived.Test.YtooocgnjefbnkaaDoorBits
import Derived.Test.YtooocgnjefbnkaaDoorRows
namespace Go.Proofs.YtooocgnjefbnkaaDoor
open Go Go.RowKit

theorem adds_cell {w w' : World} (h : Adds w w') {b o : Nat} {v : Value} (hc : w.cell? ⟨b, o, none⟩ = some v) : w'.cell? ⟨b, o, none⟩ = some v :=
  (h.cell (p := ⟨b, o, none⟩) (World.block_lt_of_cell? w _ hc)).trans hc

def cellV (b : UInt32) : Value := .int .u32 (b.toNat : Nat)

/-- v is a slice whose words read l in w; they lie in blocks below n. -/
def Cells32 (n : Nat) (w : World) (v : Value) (l : List UInt32) : Prop :=
  ∃ ao cap, v = .slice ao l.length cap ∧ l.length ≤ cap ∧ cap ≤ maxLen ∧
    (l ≠ [] → ∃ b off, ao = some ⟨b, off, none⟩ ∧ b < n ∧ ∀ i, i < l.length → w.cell? ⟨b, off + i, none⟩ = some (cellV (l.getD i 0)))

theorem Cells32.below {n : Nat} {w w' : World} {v : Value} {l : List UInt32} (h : Cells32 n w v l) (hb : Below n w w') : Cells32 n w' v l := by
  obtain ⟨ao, cap, rfl, h1, h2, h3⟩ := h
  refine ⟨ao, cap, rfl, h1, h2, fun hl => ?_⟩
  obtain ⟨b, off, e, hbn, hc⟩ := h3 hl
  exact ⟨b, off, e, hbn, fun i hi => (hb.cell (p := ⟨b, off + i, none⟩) hbn).trans (hc i hi)⟩
theorem Cells32.mono {n m : Nat} {w : World} {v : Value} {l : List UInt32} (h : Cells32 n w v l) (hm : n ≤ m) : Cells32 m w v l := by
  obtain ⟨ao, cap, rfl, h1, h2, h3⟩ := h
  refine ⟨ao, cap, rfl, h1, h2, fun hl => ?_⟩
  obtain ⟨b, off, e, hbn, hc⟩ := h3 hl
  exact ⟨b, off, e, by omega, hc⟩
/-- The blocks are those that are there. -/
theorem Cells32.here {n : Nat} {w : World} {v : Value} {l : List UInt32} (h : Cells32 n w v l) : Cells32 w.heap.size w v l := by
  obtain ⟨ao, cap, rfl, h1, h2, h3⟩ := h
  refine ⟨ao, cap, rfl, h1, h2, fun hl => ?_⟩
  obtain ⟨b, off, e, hbn, hc⟩ := h3 hl
  exact ⟨b, off, e, World.block_lt_of_cell? w _ (hc 0 (List.length_pos_iff.2 hl)), hc⟩
theorem Cells32.nil {n : Nat} (w : World) : Cells32 n w (.slice none 0 0) [] := ⟨none, 0, rfl, by simp, by simp, fun h => absurd rfl h⟩

theorem Cells32.adds {w w' : World} {v : Value} {l : List UInt32} (h : Cells32 w.heap.size w v l) (ha : Adds w w') : Cells32 w'.heap.size w' v l := (h.below ha).here
theorem cells32_adds {n : Nat} {w w' : World} {v : Value} {l : List UInt32} (h : Cells32 n w v l) (ha : Adds w w') : Cells32 w'.heap.size w' v l := h.here.adds ha

theorem Cells32.len {n : Nat} {w : World} {ao : Option Addr} {len cap : Nat} {l : List UInt32} (h : Cells32 n w (.slice ao len cap) l) : len = l.length ∧ l.length ≤ cap ∧ cap ≤ 9223372036854775807 := by
  obtain ⟨_, _, e, h1, h2, _⟩ := h
  cases e
  exact ⟨rfl, h1, h2⟩

theorem cells32_lit (w : World) (l : List UInt32) (hl : l.length ≤ maxLen) : Cells32 (w.heap.size + 1) (w.alloc (.cells (l.map cellV).toArray 63)) (.slice (some ⟨w.heap.size, 0, none⟩) l.length l.length) l := by
  refine ⟨_, _, rfl, Nat.le_refl _, hl, fun _ => ⟨w.heap.size, 0, rfl, by omega, fun i hi => ?_⟩⟩
  rw [cell_of_row _ w.heap.size (0 + i) _ _ _ (heap_alloc_new w _)]
  simp [hi]
end Go.Proofs.YtooocgnjefbnkaaDoor
