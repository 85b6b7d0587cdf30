/- One part of a site read of bytes: its contract. -/
import Derived.Test.YtoeoeeomnbggkaaGreatDoorW6
import Derived.Test.YtoeoeeomnbggkaaGreatDoorApp
import Derived.Test.YtoeoeeomnbggkaaGreatDoorSMem
import Derived.Test.YtoeoeeomnbggkaaGreatDoorSLib
namespace Go.Proofs.YtoeoeeomnbggkaaGreatDoor
open Go Go.RowKit Go.Shelf Go.Sort

theorem slice_from7 (ao : Option Addr) (len cap i : Nat) (hi : i ≤ len) (w : World) :
    (Instr.slice 47 (.slice ao len cap) (some (.int .i64 (i : Int))) none none).run Tryz.prog w = .ok (.slice (if cap = i then ao else ao.map (·.add (i * 1))) (len - i) (cap - i)) w := by
  have h := run_slice_l (P := Tryz.prog) w 47 ao len cap (by kernel_rfl) .i64 i (by omega) (by omega)
  rw [h]
  have hs : (sizeOf (Tryz.prog.elem 47)).run Tryz.prog w = .ok 1 w := by
    obtain ⟨i0, hi, hz0, hz1, hz2⟩ := info_parts info8
    have e : Tryz.prog.elem 47 = 5 := by kernel_rfl
    rw [e]
    simp [sizeOf, typeInfo, hi, hz1]
  rw [hs]
  simp only [Result.andThen, sliced, Int.toNat_natCast]
theorem rest_bytes {n : Nat} {w : World} {ao : Option Addr} {cap a : Nat} {l : List UInt8} (h : Bytes n w (.slice ao l.length cap) l) (ha : a ≤ l.length) :
    Bytes n w (.slice (if cap = a then ao else ao.map (·.add (a * 1))) (l.length - a) (cap - a)) (l.drop a) := by
  have hc : l.length ≤ cap := by
    obtain ⟨_, _, e, h1, _⟩ := h
    simp only [Value.slice.injEq] at e
    omega
  have := h.sliced a l.length cap ha (Nat.le_refl _) hc (Nat.le_refl _)
  rw [List.take_of_length_le (by simp)] at this
  exact this

end Go.Proofs.YtoeoeeomnbggkaaGreatDoor
