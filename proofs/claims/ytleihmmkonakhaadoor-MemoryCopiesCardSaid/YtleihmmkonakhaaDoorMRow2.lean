/- An argument of memory's laws: a word with its address. -/
import Derived.Test.YtleihmmkonakhaaDoorMRow
namespace Go.Proofs.YtleihmmkonakhaaDoor
open Go Go.ChangeShapes Go.WideShapes Go.ChangeAt Go.RowKit
section
variable {H : Type} {enc : TypeId × Value → H}
set_option maxRecDepth 100000 in
theorem arg_cellM {r : Reach} {b0 : Nat} {W : World} {v : Value} {d : DataW H} {ps : List MemPlace} (hval : Value.okWide Tryd.prog W r b0 31 v)
    (hd : DataW.Trod enc Tryd.prog W 0 (fun _ => true) true 31 v d ps) : ∃ x : Nat × Nat, v = .agg #[.int .u32 ((x.1 : Nat) : Int), .int .u32 ((x.2 : Nat) : Int)] ∧ x.1 < 4294967296 ∧ x.2 < 4294967296 := by
  obtain ⟨cs, rfl, hsz, _⟩ : ∃ cs, v = .agg cs ∧ cs.size = Tryd.prog.cellsOf 31 ∧ Row.okWide Tryd.prog W r b0 31 cs := by
    simpa [Value.okWide, Tryd.underlying31] using hval
  rw [cC2] at hsz
  obtain ⟨l⟩ := cs
  obtain ⟨z0, z1, rfl⟩ : ∃ z0 z1, l = [z0, z1] := by
    match l, hsz with
    | [z0, z1], _ => exact ⟨z0, z1, rfl⟩
  obtain ⟨fuel, hf⟩ := hd
  obtain ⟨xs, n', _, _, _, hxl, hfld⟩ := DataW.trod_struct Tryd.underlying31 hf
  have f0 := hfld 0 _ rfl
  have f1 := hfld 1 _ rfl
  obtain ⟨x0, x1, rfl⟩ : ∃ x0 x1, xs = [x0, x1] := by
    match xs, hxl with
    | [x0, x1], _ => exact ⟨x0, x1, rfl⟩
  simp [cU32, Value.cells] at f0 f1
  obtain ⟨v0, e0, _, w0⟩ := DataW.trod_int Tryd.underlying29 f0
  obtain ⟨v1, e1, _, w1⟩ := DataW.trod_int Tryd.underlying29 f1
  simp only [List.cons.injEq, and_true] at e0 e1
  subst e0 e1
  have hb0 := bounds_u32 w0
  have hb1 := bounds_u32 w1
  exact ⟨(v0.toNat, v1.toNat), by simp only; rw [show ((v0.toNat : Nat) : Int) = v0 by omega, show ((v1.toNat : Nat) : Int) = v1 by omega], show v0.toNat < 4294967296 by omega, show v1.toNat < 4294967296 by omega⟩
end
end Go.Proofs.YtleihmmkonakhaaDoor
