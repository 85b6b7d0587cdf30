/- Instructions, as plain numbers: what an Op names, which may be. Nothing of the program. -/
namespace Go.Proofs.YtfclclckcjjnkaaGreatDoor

/-- An instruction: its Op, A, B, C, Imm. -/
abbrev In := Int × Int × Int × Int × Int
/-- The number that part k has: A, B, C, Imm. -/
def getP (k : Nat) (x : In) : Int := match k with | 0 => x.2.1 | 1 => x.2.2.1 | 2 => x.2.2.2.1 | _ => x.2.2.2.2
def putP (k : Nat) (x : In) (n : Int) : In := match k with
  | 0 => (x.1, n, x.2.2.1, x.2.2.2.1, x.2.2.2.2)
  | 1 => (x.1, x.2.1, n, x.2.2.2.1, x.2.2.2.2)
  | 2 => (x.1, x.2.1, x.2.2.1, n, x.2.2.2.2)
  | _ => (x.1, x.2.1, x.2.2.1, x.2.2.2.1, n)
/-- What an Op names: part and kind of number (0 register, 1 handed, 2 word, 3 kind, 4 place, 5 function). -/
def partsN : Nat → List (Nat × Nat)
  | 1 => [(0, 0), (3, 2)] | 2 => [(0, 0), (1, 0)] | 3 => [(0, 0), (1, 0), (2, 0), (3, 3)] | 4 => [(3, 4)] | 5 => [(0, 0), (3, 4)] | 6 => [(0, 0), (1, 0)] | 7 => [(0, 0), (1, 0)]
  | 8 => [(0, 0), (1, 0), (2, 1), (3, 5)] | 9 => [(0, 0)] | 10 => [(1, 0), (2, 1), (3, 5)] | 11 => [(0, 0)] | 12 => [(0, 0)] | 13 => [(0, 0)] | 14 => [(0, 0)] | 15 => [(0, 0)] | 16 => [(0, 0)]
  | 17 => [(0, 0), (1, 0)] | 18 => [(0, 0)] | _ => []
def loN (n : Nat) : Int := if n = 3 then 1 else 0
def hiN (n : Nat) (x : In) : Int := match n with | 0 => 15 | 1 => 16 - getP 1 x | 2 => 4294967295 | 3 => 12 | 4 => 511 | _ => 31
def holdsP (p : Nat × Nat) (x : In) : Bool := decide (loN p.2 ≤ getP p.1 x ∧ getP p.1 x ≤ hiN p.2 x)
/-- With those parts set to 0. -/
def bare (l : List (Nat × Nat)) (x : In) : In := l.foldl (fun r p => putP p.1 r 0) x
def holdsL (l : List (Nat × Nat)) (x : In) : Bool := l.all (fun p => holdsP p x) && decide (bare l x = (x.1, 0, 0, 0, 0))
/-- Which may be. -/
def mayI (x : In) : Bool := decide (1 ≤ x.1 ∧ x.1 ≤ 19) && holdsL (partsN x.1.toNat) x
end Go.Proofs.YtfclclckcjjnkaaGreatDoor
