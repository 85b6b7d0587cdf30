/- How a function leaves that has ranged over iterators: its marks are taken one by one; boxes; a result in a box. -/
import Derived.RangeFuncNested
import Derived.RangeFuncBound
import Derived.RangeFuncCalls
import Derived.RangeFuncLeaves
import Derived.RangeFuncWrites
import Derived.RangeFuncBox
import Derived.Test.YtoeoeeomnbggkaaGreatDoorLib
namespace Go.Proofs.YtoeoeeomnbggkaaGreatDoor
open Go Go.RowKit

theorem results_box {P : Program} {fn : Func} {p : Tmp} {ty : TypeId} (h : fn.results = #[.cell p ty]) (hb : P.underlying ty = some .bool) (tmps : Array Value) (w : World) (a : Addr) (v : Value)
    (hp : tmps.getD p undef = .pointer (some a)) (hc : w.cell? a = some v) : (results fn tmps).run P w = .ok v w := by
  have hp' : tmps[p]?.getD undef = .pointer (some a) := by simpa using hp
  simp [results, h, hp', asAddr, loadVar, isAgg, run_underlying hb, hc]
theorem boxed_adds {W W' : World} {B : Nat} {t : TypeId} {v : Value} (h : Boxed W B t v) (ha : Below W.heap.size W W') : Boxed W' B t v := (ha.block B h.lt).trans h
theorem boxed_below {n : Nat} {W W' : World} {B : Nat} {t : TypeId} {v : Value} (h : Boxed W B t v) (ha : Below n W W') (hB : B < n) : Boxed W' B t v := (ha.block B hB).trans h

/-- The three boxes that a law lays first. -/
structure Boxes3 (w w0 : World) (tv tm tr : TypeId) (v m r : Value) : Prop where
  v : Boxed w0 w.heap.size tv v
  m : Boxed w0 (w.heap.size + 1) tm m
  r : Boxed w0 (w.heap.size + 1 + 1) tr r
theorem Boxes3.new (w : World) (tv tm tr : TypeId) (v m r : Value) : Boxes3 w (((w.alloc (.cells #[v] tv)).alloc (.cells #[m] tm)).alloc (.cells #[r] tr)) tv tm tr v m r := by
  refine ⟨((Boxed.new w tv v).alloc _).alloc _, ?_, ?_⟩
  · have := (Boxed.new (w.alloc (.cells #[v] tv)) tm m).alloc (.cells #[r] tr)
    rwa [World.size_alloc] at this
  · have := Boxed.new ((w.alloc (.cells #[v] tv)).alloc (.cells #[m] tm)) tr r
    rwa [World.size_alloc, World.size_alloc] at this

/-- The marks of ranges that are over: each one's block, laid from B on and below C; no two alike. -/
def Marks (B C : Nat) (W : World) : List Deferred → Prop
  | [] => True
  | d :: ds => (∃ D, d.target = .collected D ∧ B ≤ D ∧ D < C ∧ W.heap[D]? = some (.deferred (some [])) ∧ Marks B D W ds)
theorem Marks.below {B : Nat} : ∀ {ds : List Deferred} {C n : Nat} {W W' : World}, Marks B C W ds → Below n W W' → C ≤ n → Marks B C W' ds
  | [], _, _, _, _, _, _, _ => trivial
  | _ :: _, _, _, _, _, ⟨D, h1, h2, h3, h4, h5⟩, hb, hc => ⟨D, h1, h2, h3, (hb.block D (by omega)).trans h4, h5.below hb (by omega)⟩
theorem Marks.up {B C C' : Nat} {W : World} {ds : List Deferred} (h : Marks B C W ds) (hc : C ≤ C') : Marks B C' W ds := by
  cases ds with
  | nil => trivial
  | cons d ds =>
    obtain ⟨D, h1, h2, h3, h4⟩ := h
    exact ⟨D, h1, h2, by omega, h4⟩
theorem marks_leave {F : Fence} {n : Nat} {P : Program} {fn : Func} {tmps : Array Value} {R : Ending → World → Prop} {B : Nat} : ∀ (ds : List Deferred) (C : Nat) (W : World), Marks B C W ds →
    (∀ W', Below B W W' → ∃ v, (results fn tmps).run P W' = .ok v W' ∧ R (.returned v) W') → LeavesInM F n P fn tmps R ds .returning W
  | [], _, W, _, h => by
    obtain ⟨v, h1, h2⟩ := h W (Below.refl _ _)
    exact ⟨v, h1, h2⟩
  | d :: ds, C, W, ⟨D, h1, h2, h3, h4, h5⟩, h => by
    have hb : Below D W (W.putObj D (.deferred none)) := ⟨rfl, rfl, rfl, (grownBy_putObj' W D _).size, fun k hk => World.putObj_heap_other (by omega)⟩
    refine ⟨by simp, .inl ⟨D, _, h1, run_takeDeferred h4, marks_leave ds D _ (h5.below hb (Nat.le_refl _)) fun W' hW' => h W' ((hb.mono h2).trans hW')⟩⟩
/-- The first bytes of a slice. -/
theorem bytes_pre {n : Nat} {w : World} {ao : Option Addr} {cap x : Nat} {l : List UInt8} (h : Bytes n w (.slice ao l.length cap) l) (hx : x ≤ l.length) : Bytes n w (.slice ao x cap) (l.take x) := by
  obtain ⟨ao', cap', e, h1, h2, h3⟩ := h
  cases e
  have hl : (l.take x).length = x := by rw [List.length_take]; omega
  refine ⟨_, _, by rw [hl], by rw [hl]; omega, h2, fun hne => ?_⟩
  obtain ⟨b, off, e, hb, hc⟩ := h3 (by rintro rfl; simp at hne)
  refine ⟨b, off, e, hb, fun i hi => ?_⟩
  rw [hl] at hi
  rw [hc i (by omega)]
  simp [List.getD_eq_getElem?_getD, hi]
end Go.Proofs.YtoeoeeomnbggkaaGreatDoor
