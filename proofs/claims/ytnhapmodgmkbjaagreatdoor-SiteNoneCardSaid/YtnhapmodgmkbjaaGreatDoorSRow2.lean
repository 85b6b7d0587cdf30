/- The arguments of the laws on pairs. -/
import Derived.Test.YtnhapmodgmkbjaaGreatDoorSRow
import Derived.Test.YtnhapmodgmkbjaaGreatDoorSMap
namespace Go.Proofs.YtnhapmodgmkbjaaGreatDoor
open Go Go.RowKit

section
variable {H : Type} {enc : TypeId × Value → H}
theorem cellsP4r : Tryz.prog.cellsOf 32 = 4 := by kernel_rfl
set_option maxRecDepth 100000 in
theorem arg_bool7 {r : Reach} {b0 : Nat} {W : World} {v : Value} {d : DataW H} {ps : List MemPlace} (hval : Value.okWide Tryz.prog W r b0 4 v)
    (hd : DataW.Trod enc Tryz.prog W 0 (fun _ => true) true 4 v d ps) : ∃ z : Bool, v = .bool z := by
  obtain ⟨z, rfl, _⟩ := open_bool Tryz.underlying4 hval hd
  exact ⟨z, rfl⟩
set_option maxRecDepth 100000 in
theorem trod_site {W : World} {fuel : Nat} {z0 z1 : Value} {x : DataW H × List MemPlace} (hf : DataW.trod enc Tryz.prog W 0 (fun _ => true) true fuel 30 [z0, z1] = some x) :
    ∃ a b : Int, z0 = .int .i64 a ∧ z1 = .int .i64 b ∧ okI a ∧ okI b := by
  obtain ⟨xs, n', _, _, _, hxl, hfld⟩ := DataW.trod_struct Tryz.underlying30 hf
  have f0 := hfld 0 _ rfl
  have f1 := hfld 1 _ rfl
  obtain ⟨x0, x1, rfl⟩ : ∃ x0 x1, xs = [x0, x1] := by
    match xs, hxl with
    | [x0, x1], _ => exact ⟨x0, x1, rfl⟩
  simp [cellsI1r] at f0 f1
  obtain ⟨v0, e0, _, k0⟩ := DataW.trod_int Tryz.underlying3 f0
  obtain ⟨v1, e1, _, k1⟩ := DataW.trod_int Tryz.underlying3 f1
  simp only [List.cons.injEq, and_true] at e0 e1
  subst e0 e1
  exact ⟨v0, v1, rfl, rfl, k0, k1⟩
set_option maxRecDepth 100000 in
theorem arg_pair {r : Reach} {b0 : Nat} {W : World} {v : Value} {d : DataW H} {ps : List MemPlace} (hval : Value.okWide Tryz.prog W r b0 32 v)
    (hd : DataW.Trod enc Tryz.prog W 0 (fun _ => true) true 32 v d ps) : ∃ x : Pr, v = prV x ∧ okPr x := by
  obtain ⟨cs, rfl, hsz, _⟩ : ∃ cs, v = .agg cs ∧ cs.size = Tryz.prog.cellsOf 32 ∧ Row.okWide Tryz.prog W r b0 32 cs := by
    simpa [Value.okWide, Tryz.underlying32] using hval
  rw [cellsP4r] at hsz
  obtain ⟨l⟩ := cs
  obtain ⟨z0, z1, z2, z3, rfl⟩ : ∃ z0 z1 z2 z3, l = [z0, z1, z2, z3] := by
    match l, hsz with
    | [z0, z1, z2, z3], _ => exact ⟨z0, z1, z2, z3, rfl⟩
  obtain ⟨fuel, hf⟩ := hd
  obtain ⟨xs, n', _, _, _, hxl, hfld⟩ := DataW.trod_struct Tryz.underlying32 hf
  have f0 := hfld 0 _ rfl
  have f1 := hfld 1 _ rfl
  obtain ⟨x0, x1, rfl⟩ : ∃ x0 x1, xs = [x0, x1] := by
    match xs, hxl with
    | [x0, x1], _ => exact ⟨x0, x1, rfl⟩
  simp [cellsS2r, Value.cells] at f0 f1
  obtain ⟨a, b, rfl, rfl, ha, hb⟩ := trod_site f0
  obtain ⟨c, e, rfl, rfl, hc, he⟩ := trod_site f1
  exact ⟨((a, b), (c, e)), rfl, ha, hb, hc, he⟩
end
end Go.Proofs.YtnhapmodgmkbjaaGreatDoor
