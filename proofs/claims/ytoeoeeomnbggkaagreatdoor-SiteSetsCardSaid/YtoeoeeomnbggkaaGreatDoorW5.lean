/- Contracts of ReadFixed and ReadNumber. -/
import Derived.Test.YtoeoeeomnbggkaaGreatDoorW4
namespace Go.Proofs.YtoeoeeomnbggkaaGreatDoor
open Go.RowKit

def rfE (l : List UInt8) (x : Int) : Int := if isW x then (if l.length < x.toNat then 110 else 0) else 2
def rfN (l : List UInt8) (x : Int) : Nat := if rfE l x = 0 then unB (l.take x.toNat) else 0

def ReadPost (n br : Nat) (v : Value) (wd : Int) (val : Nat) (err : Int) (m : Nat → Prop) (w : World) (e : Ending) (w' : World) : Prop :=
  e = .returned (.tuple #[.int .u64 val, .int .i64 err]) ∧ (∃ i, Rd w' br v i wd ∧ m i) ∧ Below n w w'

/-- What a read hands back: the thing and how many bytes, or the error alone. -/
def ReadU (val : Nat) (err : Int) (m : Nat → Prop) (w : World) (e : Ending) (w' : World) : Prop :=
  ∃ i, m i ∧ e = .returned (.tuple #[.int .u64 (if err = 0 then val else 0 : Nat), .int .i64 (if err = 0 then i else 0 : Nat), .int .i64 err]) ∧ Adds w w'

end Go.Proofs.YtoeoeeomnbggkaaGreatDoor
