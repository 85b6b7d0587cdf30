/- Slices of slices, made in a region that draws; bytes cut in two. -/
import Derived.Test.YtbhggjgghngeeaaDoorDOf
import Derived.Test.YtbhggjgghngeeaaDoorLoose2
import Derived.Test.YtbhggjgghngeeaaDoorApp
namespace Go.Proofs.YtbhggjgghngeeaaDoor
open Go Go.RowKit

theorem bs1 (a : Option Addr) (l c : Nat) (W : World) : (Instr.buildSlice 71 1 #[(0, .slice a l c)]).run Tryd.prog W = .ok (.slice (some ⟨W.heap.size, 0, none⟩) 1 1) (W.alloc (.cells #[.slice a l c] 22)) := by kernel_rfl
theorem bs2 (a b : Option Addr) (l c m d : Nat) (W : World) : (Instr.buildSlice 71 2 #[(0, .slice a l c), (1, .slice b m d)]).run Tryd.prog W = .ok (.slice (some ⟨W.heap.size, 0, none⟩) 2 2) (W.alloc (.cells #[.slice a l c, .slice b m d] 22)) := by kernel_rfl
theorem bs4 (a b : Option Addr) (l c m d : Nat) (W : World) : (Instr.buildSlice 71 4 #[(0, .slice none 0 0), (1, .slice a l c), (2, .slice none 0 0), (3, .slice b m d)]).run Tryd.prog W = .ok (.slice (some ⟨W.heap.size, 0, none⟩) 4 4) (W.alloc (.cells #[.slice none 0 0, .slice a l c, .slice none 0 0, .slice b m d] 22)) := by kernel_rfl

section
variable {o : Oper} {A : Act}
theorem mk1_run {x : Operand} {a : Option Addr} {l c : Nat} (hop : o.op = .buildSlice 71 1 #[(0, x)]) (hx : A.eval x = .slice a l c) (W : World) :
    (execOp A.eval o).run Tryd.prog W = .ok (.value (.slice (some ⟨W.heap.size, 0, none⟩) 1 1)) (W.alloc (.cells #[.slice a l c] 22)) := by
  simp [execOp, hop, hx, bs1, Result.andThen]
theorem mk2_run {x y : Operand} {a b : Option Addr} {l c m d : Nat} (hop : o.op = .buildSlice 71 2 #[(0, x), (1, y)]) (hx : A.eval x = .slice a l c) (hy : A.eval y = .slice b m d) (W : World) :
    (execOp A.eval o).run Tryd.prog W = .ok (.value (.slice (some ⟨W.heap.size, 0, none⟩) 2 2)) (W.alloc (.cells #[.slice a l c, .slice b m d] 22)) := by
  simp [execOp, hop, hx, hy, bs2, Result.andThen]
theorem mk4_run {x y z u : Operand} {a b : Option Addr} {l c m d : Nat} (hop : o.op = .buildSlice 71 4 #[(0, z), (1, x), (2, u), (3, y)]) (hz : A.eval z = .slice none 0 0) (hu : A.eval u = .slice none 0 0) (hx : A.eval x = .slice a l c) (hy : A.eval y = .slice b m d) (W : World) :
    (execOp A.eval o).run Tryd.prog W = .ok (.value (.slice (some ⟨W.heap.size, 0, none⟩) 4 4)) (W.alloc (.cells #[.slice none 0 0, .slice a l c, .slice none 0 0, .slice b m d] 22)) := by
  simp [execOp, hop, hx, hy, hz, hu, bs4, Result.andThen]

/-- The first a bytes, and those from a on. -/
def cutTo (ao : Option Addr) (cap a : Nat) : Value := .slice (if cap = 0 then ao else ao.map (·.add (0 * 1))) (a - 0) (cap - 0)
def cutFrom (ao : Option Addr) (len cap a : Nat) : Value := .slice (if cap = a then ao else ao.map (·.add (a * 1))) (len - a) (cap - a)
theorem elem22 : Tryd.prog.elem 22 = 5 := by kernel_rfl
theorem size1 (W : World) : (sizeOf (Tryd.prog.elem 22)).run Tryd.prog W = .ok 1 W := by
  obtain ⟨i0, hi, hz0, hz1, hz2⟩ := info_parts info8
  rw [elem22]
  simp [sizeOf, typeInfo, hi, hz1]
theorem cutTo_run {x h : Operand} {ao : Option Addr} {len cap a : Nat} {az : Int} (hop : o.op = .slice 22 x none (some h) none) (hx : A.eval x = .slice ao len cap) (hh : A.eval h = .int .i64 az) (haz : az = a) (hal : a ≤ cap) (W : World) :
    (execOp A.eval o).run Tryd.prog W = .ok (.value (cutTo ao cap a)) W := by
  subst haz
  have h1 := run_slice_h (P := Tryd.prog) W 22 ao len cap (by kernel_rfl) .i64 a (by omega) (by omega)
  rw [size1] at h1
  have h2 := run_sliceAt_slice (P := Tryd.prog) W 22 (.slice ao len cap) none (some (.int .i64 a)) none (by kernel_rfl)
  simp [execOp, hop, hx, hh, h2, h1, Result.andThen, sliced, cutTo]
theorem cutFrom_run {x h : Operand} {ao : Option Addr} {len cap a : Nat} {az : Int} (hop : o.op = .slice 22 x (some h) none none) (hx : A.eval x = .slice ao len cap) (hh : A.eval h = .int .i64 az) (haz : az = a) (hal : a ≤ len) (W : World) :
    (execOp A.eval o).run Tryd.prog W = .ok (.value (cutFrom ao len cap a)) W := by
  subst haz
  have h1 := run_slice_l (P := Tryd.prog) W 22 ao len cap (by kernel_rfl) .i64 a (by omega) (by omega)
  rw [size1] at h1
  have h2 := run_sliceAt_slice (P := Tryd.prog) W 22 (.slice ao len cap) (some (.int .i64 a)) none none (by kernel_rfl)
  simp [execOp, hop, hx, hh, h2, h1, Result.andThen, sliced, cutFrom]
end
theorem cutTo_bytes {n : Nat} {w : World} {ao : Option Addr} {cap a : Nat} {l : List UInt8} (h : Bytes n w (.slice ao l.length cap) l) (ha : a ≤ l.length) : Bytes n w (cutTo ao cap a) (l.take a) := by
  have hc : l.length ≤ cap := by
    obtain ⟨_, _, e, h1, _⟩ := h
    simp only [Value.slice.injEq] at e
    omega
  have := h.sliced 0 a cap (by omega) ha (by omega) (Nat.le_refl _)
  simpa [cutTo] using this
theorem cutFrom_bytes {n : Nat} {w : World} {ao : Option Addr} {cap a : Nat} {l : List UInt8} (h : Bytes n w (.slice ao l.length cap) l) (ha : a ≤ l.length) : Bytes n w (cutFrom ao l.length cap a) (l.drop a) := by
  have hc : l.length ≤ cap := by
    obtain ⟨_, _, e, h1, _⟩ := h
    simp only [Value.slice.injEq] at e
    omega
  have := h.sliced a l.length cap ha (Nat.le_refl _) hc (Nat.le_refl _)
  rw [List.take_of_length_le (by simp)] at this
  exact this
end Go.Proofs.YtbhggjgghngeeaaDoor
