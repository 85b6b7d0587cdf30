/- Events, as plain numbers: what a Kind names, which may be, their bytes and texts; nothing of the program. -/
import Derived.Lib.Join
import Derived.Test.YtbinmgpfkjmijaaGreatDoorBA
import Derived.Test.YtbinmgpfkjmijaaGreatDoorSPlain
namespace Go.Proofs.YtbinmgpfkjmijaaGreatDoor
open Go.Lib

/-- An event: G, Kind, its site's Func and Pc, Addr, Child, Obj, N, Trap. -/
structure Ev where
  g : Int
  k : Int
  f : Int
  p : Int
  a : Int
  c : Int
  o : Int
  n : Int
  t : Int
def eqE (x y : Ev) : Bool := decide (x.g = y.g) && (decide (x.k = y.k) && (decide (x.f = y.f) && (decide (x.p = y.p) && (decide (x.a = y.a) && (decide (x.c = y.c) && (decide (x.o = y.o) && (decide (x.n = y.n) && decide (x.t = y.t))))))))
theorem eqE_iff {x y : Ev} : eqE x y = true ↔ x = y := by
  obtain ⟨g, k, f, p, a, c, o, n, t⟩ := x
  obtain ⟨g', k', f', p', a', c', o', n', t'⟩ := y
  simp [eqE]
/-- The parts (0 goroutine, 1 address, 2 child, 3 object, 4 counted, 5 trap) that a Kind names. -/
def partsE : Nat → List Nat
  | 2 => [1] | 3 => [1] | 4 => [2] | 5 => [3] | 6 => [3] | 7 => [3] | 8 => [3] | 9 => [3] | 10 => [3] | 11 => [3, 4] | 12 => [3] | 14 => [5] | _ => []
def widE : Nat → Nat | 0 => 2 | 1 => 4 | 2 => 2 | 3 => 1 | 4 => 4 | _ => 1
def getE : Nat → Ev → Int
  | 0, x => x.g | 1, x => x.a | 2, x => x.c | 3, x => x.o | 4, x => x.n | _, x => x.t
/-- A number of 32 bits, with its sign. -/
def sgn32 (v : Int) : Int := (v + 2147483648) % 4294967296 - 2147483648
def putE : Nat → Ev → Int → Ev
  | 0, x, v => { x with g := v } | 1, x, v => { x with a := v % 4294967296 } | 2, x, v => { x with c := v } | 3, x, v => { x with o := v } | 4, x, v => { x with n := sgn32 v } | _, x, v => { x with t := v }
def mayQ : Nat → Ev → Bool
  | 0, x => decide (0 ≤ x.g ∧ x.g ≤ 65535) | 1, _ => true | 2, x => decide (1 ≤ x.c ∧ x.c ≤ 65535 ∧ x.c ≠ x.g) | 3, x => decide (0 ≤ x.o ∧ x.o < 64)
  | 4, x => decide (-2147483648 ≤ x.n ∧ x.n ≤ 2147483647) | _, x => decide (1 ≤ x.t ∧ x.t ≤ 6)
def zeroE : Ev := ⟨0, 0, 0, 0, 0, 0, 0, 0, 0⟩
/-- With those parts set to 0. -/
def bareE (l : List Nat) (x : Ev) : Ev := l.foldl (fun r p => putE p r 0) x
def coreE (x : Ev) : Ev := ⟨x.g, x.k, x.f, x.p, 0, 0, 0, 0, 0⟩
def holdsE (l : List Nat) (x : Ev) : Bool := mayQ 0 x && (rightS (x.f, x.p) && (l.all (fun p => mayQ p x) && eqE (bareE l x) (coreE x)))
/-- Which may be. -/
def mayE (x : Ev) : Bool := decide (1 ≤ x.k ∧ x.k ≤ 14) && holdsE (partsE x.k.toNat) x
/-- The number that a part's bytes are. -/
def numE (p : Nat) (x : Ev) : Nat := (if getE p x < 0 then getE p x + 256 ^ widE p else getE p x).toNat
def bytE (l : List Nat) (x : Ev) : List UInt8 := l.flatMap fun p => leB (widE p) (numE p x)
def bytesE (x : Ev) : List UInt8 := [UInt8.ofNat x.k.toNat] ++ bytE [0] x ++ byS (x.f, x.p) ++ bytE (partsE x.k.toNat) x
/-- The words of Kinds, and of traps. -/
def kindB : List (List UInt8) := [[], [115, 116, 101, 112], [108, 111, 97, 100], [115, 116, 111, 114, 101], [103, 111], [108, 111, 99, 107], [117, 110, 108, 111, 99, 107], [114, 108, 111, 99, 107], [114, 117, 110, 108, 111, 99, 107], [119, 108, 111, 99, 107], [119, 117, 110, 108, 111, 99, 107], [99, 111, 117, 110, 116], [119, 97, 105, 116], [101, 110, 100], [116, 114, 97, 112]]
def trapB : List (List UInt8) := [[], [117, 110, 108, 111, 99, 107], [99, 111, 117, 110, 116], [105, 110, 100, 101, 120], [122, 101, 114, 111], [109, 97, 110, 121], [115, 116, 97, 99, 107]]
def wordE (p : Nat) (v : Int) : List UInt8 := if p = 5 then trapB.getD v.toNat [] else itoa v
def saidE (l : List Nat) (x : Ev) : List (List UInt8) := l.map fun p => wordE p (getE p x)
def wordsE (x : Ev) : List (List UInt8) := saidE [0] x ++ [txtS (x.f, x.p), kindB.getD x.k.toNat []] ++ saidE (partsE x.k.toNat) x
def textE (x : Ev) : List UInt8 := join (wordsE x) [32]
def relE (x : Ev) : Bool := decide (x.k = 4 ∨ x.k = 6 ∨ x.k = 8 ∨ x.k = 10 ∨ (x.k = 11 ∧ x.n < 0))
def touchE (x : Ev) : Bool := decide (x.k = 2 ∨ x.k = 3)
def conE (x y : Ev) : Bool := touchE x && (touchE y && (decide (x.a = y.a) && decide (x.k = 3 ∨ y.k = 3)))
def handE (k m : Int) : Bool := decide ((k = 6 ∧ m = 5) ∨ (k = 10 ∧ m = 7) ∨ (k = 10 ∧ m = 9) ∨ (k = 8 ∧ m = 9) ∨ (k = 11 ∧ m = 12))
def leadE (x y : Ev) : Bool := if x.g = y.g then true else if relE x = false then false else if x.k = 4 then decide (x.c = y.g) else decide (x.o = y.o) && handE x.k y.k
/-- What the document says which may be. -/
def docE (x : Ev) : Bool := decide ((1 ≤ x.k ∧ x.k ≤ 14) ∧ (0 ≤ x.g ∧ x.g ≤ 65535) ∧ (0 ≤ x.f ∧ x.f < 32 ∧ 0 ≤ x.p ∧ x.p < 512) ∧ (x.k = 2 ∨ x.k = 3 ∨ x.a = 0) ∧ (x.k = 4 ∨ x.c = 0) ∧ ((5 ≤ x.k ∧ x.k ≤ 12) ∨ x.o = 0) ∧ (x.k = 11 ∨ x.n = 0) ∧ (x.k = 14 ∨ x.t = 0)
  ∧ (¬ x.k = 4 ∨ 1 ≤ x.c ∧ x.c ≤ 65535 ∧ x.c ≠ x.g) ∧ (0 ≤ x.o ∧ x.o < 64) ∧ (-2147483648 ≤ x.n ∧ x.n ≤ 2147483647) ∧ (¬ x.k = 14 ∨ 1 ≤ x.t ∧ x.t ≤ 6))
theorem kind_cases {k : Int} (h : 1 ≤ k ∧ k ≤ 14) : k = 1 ∨ k = 2 ∨ k = 3 ∨ k = 4 ∨ k = 5 ∨ k = 6 ∨ k = 7 ∨ k = 8 ∨ k = 9 ∨ k = 10 ∨ k = 11 ∨ k = 12 ∨ k = 13 ∨ k = 14 := by omega
theorem mayE_doc (x : Ev) : mayE x = docE x := by
  by_cases hk : 1 ≤ x.k ∧ x.k ≤ 14
  · obtain ⟨g, k, f, p, a, c, o, n, t⟩ := x
    have e : ∀ b : Bool, (decide (1 ≤ k ∧ k ≤ 14) && b) = b := fun b => by rw [decide_eq_true hk]; rfl
    unfold mayE
    simp only at hk ⊢
    rw [e]
    have h : ∀ q : Bool, (q = true ↔ docE ⟨g, k, f, p, a, c, o, n, t⟩ = true) → q = docE ⟨g, k, f, p, a, c, o, n, t⟩ := fun q h => by
      cases q <;> cases hd : docE ⟨g, k, f, p, a, c, o, n, t⟩ <;> simp_all
    apply h
    clear e h
    rcases kind_cases hk with rfl | rfl | rfl | rfl | rfl | rfl | rfl | rfl | rfl | rfl | rfl | rfl | rfl | rfl <;>
      simp only [docE, holdsE, partsE, mayQ, bareE, coreE, List.foldl, putE, sgn32, rightS, List.all, eqE, Bool.and_eq_true, decide_eq_true_eq, Int.reduceToNat, Bool.and_true, true_and, and_true, true_or, or_true, not_true_eq_false, false_or] <;>
      (constructor <;> (intro h; omega))
  · unfold mayE docE
    rw [decide_eq_false hk, decide_eq_false (by omega)]
    rfl
theorem may_kind {x : Ev} (h : mayE x = true) : ∃ k : Nat, x.k = k ∧ 1 ≤ k ∧ k ≤ 14 ∧ holdsE (partsE k) x = true := by
  unfold mayE at h
  rw [Bool.and_eq_true, decide_eq_true_eq] at h
  refine ⟨x.k.toNat, by omega, by omega, by omega, h.2⟩
end Go.Proofs.YtbinmgpfkjmijaaGreatDoor
