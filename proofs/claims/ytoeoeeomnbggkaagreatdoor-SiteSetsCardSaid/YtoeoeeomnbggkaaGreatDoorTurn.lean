/- How a law's turns stand: what a store into the box of its count keeps; where a turn ends; rows that stay. -/
import Derived.Laws.AppendOwn
import Derived.Test.YtoeoeeomnbggkaaGreatDoorMarks
import Derived.Test.YtoeoeeomnbggkaaGreatDoorKeep
namespace Go.Proofs.YtoeoeeomnbggkaaGreatDoor
open Go Go.RowKit Go.Shelf

theorem keepC_setT (W : World) (b : Nat) (u : Value) : KeepC (fun k => k = b) W (W.setCell ⟨b, 0, none⟩ u) := fun k _ _ _ hk hc => (Below.heap_setCell W _ u k hk).trans hc
theorem turn_endT {B0 C : Nat} {w1 W2 : World} {D : Nat} {ds : List Deferred} {a : Array Value} (hb : Below B0 w1 W2) (h1 : B0 ≤ D) {E : Nat} (hD : E ≤ D) (hK : W2.heap[D]? = some (.deferred (some []))) (hm : Marks B0 C W2 ds) (hC : C ≤ E) :
    Below B0 w1 W2 ∧ D < W2.heap.size ∧ Marks B0 W2.heap.size W2 ({ target := .collected D, args := a } :: ds) :=
  ⟨hb, (Array.getElem?_eq_some_iff.1 hK).1, D, rfl, h1, (Array.getElem?_eq_some_iff.1 hK).1, hK, hm.up (by omega)⟩
theorem marks_setT {B C b : Nat} {W : World} {ds : List Deferred} (h : Marks B C W ds) (hb : b < B) (u : Value) : Marks B C (W.setCell ⟨b, 0, none⟩ u) ds := by
  induction ds generalizing C with
  | nil => trivial
  | cons d ds ih =>
    obtain ⟨D, h1, h2, h3, h4, h5⟩ := h
    exact ⟨D, h1, h2, h3, (Below.heap_setCell W _ u D (by show D ≠ b; omega)).trans h4, ih h5⟩
theorem row_below {w w' : World} {base n : Nat} {e : TypeId} {size k : Nat} {v : Value} {xs : List Value} (h : w.ownsRow base e size v k xs) (hb : Below n w w') (hg : ∀ g, v.ownBlock = some g → g < n) : w'.ownsRow base e size v k xs := by
  refine ⟨h.1, ?_⟩
  rcases h.2 with hn | ⟨g, cap, cur, rfl, hbg, hgg, rest⟩
  · exact .inl hn
  · exact .inr ⟨g, cap, cur, rfl, hbg, by rw [hb.block g (hg g rfl)]; exact hgg, rest⟩
theorem row_adds {w w' : World} {base : Nat} {e : TypeId} {size k : Nat} {v : Value} {xs : List Value} (h : w.ownsRow base e size v k xs) (ha : Below w.heap.size w w') : w'.ownsRow base e size v k xs := row_below h ha fun g hg => (h.lt g hg).2
/-- Any array is that of a function of places. -/
theorem arr_fun (a : Array Value) (n : Nat) (h : a.size = n) : ∃ f : Nat → Value, a = ((List.range n).map f).toArray :=
  ⟨fun k => a.getD k undef, Array.ext (by simp [h]) fun i h1 h2 => by simp [h1]⟩
/-- An element of an own row, read in a later world. -/
theorem row_cell {w : World} {base : Nat} {e : TypeId} {k : Nat} {g cap : Nat} {xs : List Value} (h : w.ownsRow base e 1 (.slice (some ⟨g, 0, none⟩) k cap) k xs) {j : Nat} {u : Value} (hu : xs[j]? = some u) : w.cell? ⟨g, j, none⟩ = some u := by
  have := h.cells (g := g) rfl j u hu
  have e : (⟨g, 0, none⟩ : Addr).add j = ⟨g, j, none⟩ := by unfold Addr.add; split <;> simp_all
  rwa [e] at this
end Go.Proofs.YtoeoeeomnbggkaaGreatDoor
