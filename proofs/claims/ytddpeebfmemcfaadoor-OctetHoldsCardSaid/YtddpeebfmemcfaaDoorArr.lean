/- An array of two numbers that comes in. -/
import Derived.Test.YtddpeebfmemcfaaDoorRow
namespace Go.Proofs.YtddpeebfmemcfaaDoor
open Go Go.ChangeShapes Go.WideShapes Go.ChangeAt Go.RowKit
section
variable {H : Type} {enc : TypeId × Value → H}
theorem arg_two {r : Reach} {b0 : Nat} {W : World} {v : Value} {d : DataW H} {ps : List MemPlace} (hval : Value.okWide Tryd.prog W r b0 54 v)
    (hd : DataW.Trod enc Tryd.prog W 0 (fun _ => true) true 54 v d ps) : ∃ m n : Nat, v = .agg #[.int .u64 m, .int .u64 n] ∧ U64 m ∧ U64 n := by
  obtain ⟨cs, rfl, hsz, _⟩ : ∃ cs, v = .agg cs ∧ cs.size = Tryd.prog.cellsOf 54 ∧ Row.okWide Tryd.prog W r b0 54 cs := by
    simpa [Value.okWide, Tryd.underlying54] using hval
  have c2 : Tryd.prog.cellsOf 54 = 2 := by kernel_rfl
  have c1 : Tryd.prog.cellsOf 22 = 1 := by kernel_rfl
  rw [c2] at hsz
  obtain ⟨l⟩ := cs
  obtain ⟨x0, x1, rfl⟩ : ∃ x0 x1, l = [x0, x1] := by
    match l, hsz with
    | [x0, x1], _ => exact ⟨x0, x1, rfl⟩
  obtain ⟨fuel, hf⟩ := hd
  obtain ⟨xs, m, _, _, _, hl, hel⟩ := DataW.trod_array Tryd.underlying54 hf
  rw [c1] at hel
  obtain ⟨y0, y1, rfl⟩ : ∃ y0 y1, xs = [y0, y1] := by
    match xs, hl with
    | [y0, y1], _ => exact ⟨y0, y1, rfl⟩
  have h0 := hel 0 (by decide)
  have h1 := hel 1 (by decide)
  simp only [Value.cells, Nat.zero_mul, List.drop_zero, Nat.one_mul, List.drop_one, List.tail_cons, List.take_succ_cons, List.take_zero, List.getElem?_cons_zero, List.getElem?_cons_succ] at h0 h1
  obtain ⟨z0, e0, _, w0⟩ := DataW.trod_int Tryd.underlying22 h0
  obtain ⟨z1, e1, _, w1⟩ := DataW.trod_int Tryd.underlying22 h1
  simp only [List.cons.injEq, and_true] at e0 e1
  subst e0 e1
  have b0 := bounds_u64 w0
  have b1 := bounds_u64 w1
  exact ⟨z0.toNat, z1.toNat, by rw [show ((z0.toNat : Nat) : Int) = z0 by omega, show ((z1.toNat : Nat) : Int) = z1 by omega], by unfold U64; omega, by unfold U64; omega⟩
end
end Go.Proofs.YtddpeebfmemcfaaDoor
