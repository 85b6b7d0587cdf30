/- Arguments of more kinds: a bool, a byte. -/
import Derived.Test.YtbhggjgghngeeaaDoorRow
namespace Go.Proofs.YtbhggjgghngeeaaDoor
open Go Go.ChangeShapes Go.WideShapes Go.ChangeAt Go.RowKit
section
variable {H : Type} {enc : TypeId × Value → H}
theorem arg_bool {r : Reach} {b0 : Nat} {W : World} {v : Value} {d : DataW H} {ps : List MemPlace} (hval : Value.okWide Tryd.prog W r b0 4 v)
    (hd : DataW.Trod enc Tryd.prog W 0 (fun _ => true) true 4 v d ps) : ∃ z : Bool, v = .bool z := by
  obtain ⟨z, rfl, _⟩ := open_bool Tryd.underlying4 hval hd
  exact ⟨z, rfl⟩
theorem arg_u8 {r : Reach} {b0 : Nat} {W : World} {v : Value} {d : DataW H} {ps : List MemPlace} (hval : Value.okWide Tryd.prog W r b0 5 v)
    (hd : DataW.Trod enc Tryd.prog W 0 (fun _ => true) true 5 v d ps) : ∃ y : UInt8, v = .int .u8 y.toNat := by
  obtain ⟨x, rfl, rfl, rfl, wx⟩ := open_int Tryd.underlying5 hval hd
  have hb := bounds_u8 wx
  refine ⟨UInt8.ofNat x.toNat, ?_⟩
  rw [show (UInt8.ofNat x.toNat).toNat = x.toNat % 256 from UInt8.toNat_ofNat']
  rw [show ((x.toNat % 256 : Nat) : Int) = x by omega]
end
end Go.Proofs.YtbhggjgghngeeaaDoor
