/- Slices that are built in a drawn region: of one byte, one part, two texts, four rows of bytes, three rows of texts. (genMk.py wrote this.) -/
import Derived.Test.YtbinmgpfkjmijaaGreatDoorEvSt
import Derived.Test.YtbinmgpfkjmijaaGreatDoorEvF7
namespace Go.Proofs.YtbinmgpfkjmijaaGreatDoor
open Go Go.RowKit Go.Shelf

theorem bsB1 (n : Int) (W : World) : (Instr.buildSlice 37 1 #[(0, .int .u8 n)]).run Tryz.prog W = .ok (.slice (some ⟨W.heap.size, 0, none⟩) 1 1) (W.alloc (.cells #[.int .u8 n] 5)) := by kernel_rfl
theorem mkB1_run {o : Oper} {A : Act} {x0 : Operand} {n : Int} (hop : o.op = .buildSlice 37 1 #[(0, x0)]) (h0 : A.eval x0 = .int .u8 n) (W : World) :
    (execOp A.eval o).run Tryz.prog W = .ok (.value (.slice (some ⟨W.heap.size, 0, none⟩) 1 1)) (W.alloc (.cells #[.int .u8 n] 5)) := by
  simp [execOp, hop, h0, bsB1, Result.andThen]
theorem bsP1  (W : World) : (Instr.buildSlice 61 1 #[(0, .agg #[.int .i64 2, .func (.func 66) #[] #[], .func (.func 67) #[] #[], .func (.func 68) #[] #[], .func (.func 69) #[] #[]])]).run Tryz.prog W = .ok (.slice (some ⟨W.heap.size, 0, none⟩) 1 1) (W.alloc (.cells #[.int .i64 2, .func (.func 66) #[] #[], .func (.func 67) #[] #[], .func (.func 68) #[] #[], .func (.func 69) #[] #[]] 70)) := by kernel_rfl
theorem mkP1_run {o : Oper} {A : Act} {x0 : Operand}  (hop : o.op = .buildSlice 61 1 #[(0, x0)]) (h0 : A.eval x0 = .agg #[.int .i64 2, .func (.func 66) #[] #[], .func (.func 67) #[] #[], .func (.func 68) #[] #[], .func (.func 69) #[] #[]]) (W : World) :
    (execOp A.eval o).run Tryz.prog W = .ok (.value (.slice (some ⟨W.heap.size, 0, none⟩) 1 1)) (W.alloc (.cells #[.int .i64 2, .func (.func 66) #[] #[], .func (.func 67) #[] #[], .func (.func 68) #[] #[], .func (.func 69) #[] #[]] 70)) := by
  simp [execOp, hop, h0, bsP1, Result.andThen]
theorem bsS2 (s r : ByteArray) (W : World) : (Instr.buildSlice 55 2 #[(0, .string s), (1, .string r)]).run Tryz.prog W = .ok (.slice (some ⟨W.heap.size, 0, none⟩) 2 2) (W.alloc (.cells #[.string s, .string r] 9)) := by kernel_rfl
theorem mkS2_run {o : Oper} {A : Act} {x0 x1 : Operand} {s r : ByteArray} (hop : o.op = .buildSlice 55 2 #[(0, x0), (1, x1)]) (h0 : A.eval x0 = .string s) (h1 : A.eval x1 = .string r) (W : World) :
    (execOp A.eval o).run Tryz.prog W = .ok (.value (.slice (some ⟨W.heap.size, 0, none⟩) 2 2)) (W.alloc (.cells #[.string s, .string r] 9)) := by
  simp [execOp, hop, h0, h1, bsS2, Result.andThen]
theorem bsB4 (a0 a1 a2 a3 : Option Addr) (l0 c0 l1 c1 l2 c2 l3 c3 : Nat) (W : World) : (Instr.buildSlice 121 4 #[(0, .slice a0 l0 c0), (1, .slice a1 l1 c1), (2, .slice a2 l2 c2), (3, .slice a3 l3 c3)]).run Tryz.prog W = .ok (.slice (some ⟨W.heap.size, 0, none⟩) 4 4) (W.alloc (.cells #[.slice a0 l0 c0, .slice a1 l1 c1, .slice a2 l2 c2, .slice a3 l3 c3] 37)) := by kernel_rfl
theorem mkB4_run {o : Oper} {A : Act} {x0 x1 x2 x3 : Operand} {a0 a1 a2 a3 : Option Addr} {l0 c0 l1 c1 l2 c2 l3 c3 : Nat} (hop : o.op = .buildSlice 121 4 #[(0, x0), (1, x1), (2, x2), (3, x3)]) (h0 : A.eval x0 = .slice a0 l0 c0) (h1 : A.eval x1 = .slice a1 l1 c1) (h2 : A.eval x2 = .slice a2 l2 c2) (h3 : A.eval x3 = .slice a3 l3 c3) (W : World) :
    (execOp A.eval o).run Tryz.prog W = .ok (.value (.slice (some ⟨W.heap.size, 0, none⟩) 4 4)) (W.alloc (.cells #[.slice a0 l0 c0, .slice a1 l1 c1, .slice a2 l2 c2, .slice a3 l3 c3] 37)) := by
  simp [execOp, hop, h0, h1, h2, h3, bsB4, Result.andThen]
theorem bsT3 (a0 a1 a2 : Option Addr) (l0 c0 l1 c1 l2 c2 : Nat) (W : World) : (Instr.buildSlice 108 3 #[(0, .slice a0 l0 c0), (1, .slice a1 l1 c1), (2, .slice a2 l2 c2)]).run Tryz.prog W = .ok (.slice (some ⟨W.heap.size, 0, none⟩) 3 3) (W.alloc (.cells #[.slice a0 l0 c0, .slice a1 l1 c1, .slice a2 l2 c2] 55)) := by kernel_rfl
theorem mkT3_run {o : Oper} {A : Act} {x0 x1 x2 : Operand} {a0 a1 a2 : Option Addr} {l0 c0 l1 c1 l2 c2 : Nat} (hop : o.op = .buildSlice 108 3 #[(0, x0), (1, x1), (2, x2)]) (h0 : A.eval x0 = .slice a0 l0 c0) (h1 : A.eval x1 = .slice a1 l1 c1) (h2 : A.eval x2 = .slice a2 l2 c2) (W : World) :
    (execOp A.eval o).run Tryz.prog W = .ok (.value (.slice (some ⟨W.heap.size, 0, none⟩) 3 3)) (W.alloc (.cells #[.slice a0 l0 c0, .slice a1 l1 c1, .slice a2 l2 c2] 55)) := by
  simp [execOp, hop, h0, h1, h2, bsT3, Result.andThen]
end Go.Proofs.YtbinmgpfkjmijaaGreatDoor
