/- What keeps cells that lie in no block of a set; small facts on worlds that only grow. -/
import Derived.RangeFuncNested
import Derived.RangeFuncBound
import Derived.RangeFuncCalls
import Derived.RangeFuncLeaves
import Derived.Shelf.Abstract
import Derived.Shelf.RegionOpen
import Derived.WalkKit
import Derived.OwnWalkIn
import Derived.TacticsInMore
import Derived.LoopNIn
import Derived.LoopIn
import Derived.RangeFuncWrites
import Derived.Test.YtoeoeeomnbggkaaGreatDoorLib
namespace Go.Proofs.YtoeoeeomnbggkaaGreatDoor
open Go Go.RowKit Go.Shelf

/-- Whatever cells do not lie in the blocks M lie as they lay. -/
def KeepC (M : Nat → Prop) (W W' : World) : Prop := ∀ k c e f, ¬ M k → W.heap[k]? = some (.cells c e f) → W'.heap[k]? = some (.cells c e f)
theorem KeepC.refl (M : Nat → Prop) (W : World) : KeepC M W W := fun _ _ _ _ _ h => h
theorem KeepC.trans {M : Nat → Prop} {A B C : World} (h : KeepC M A B) (k : KeepC M B C) : KeepC M A C := fun i c e f hi hc => k i c e f hi (h i c e f hi hc)
theorem KeepC.cell {M : Nat → Prop} {W W' : World} (h : KeepC M W W') {b o : Nat} (hb : ¬ M b) {v : Value} (hc : W.cell? ⟨b, o, none⟩ = some v) : W'.cell? ⟨b, o, none⟩ = some v := by
  unfold World.cell? at hc ⊢
  cases ho : W.heap[b]? with
  | none => simp [ho] at hc
  | some x =>
    cases x with
    | cells c e f => rw [h b c e f hb ho]; rw [ho] at hc; exact hc
    | _ => simp [ho] at hc
theorem KeepC.of_below {M : Nat → Prop} {W W' : World} (h : Adds W W') : KeepC M W W' := fun k c e f _ hk => by
  rw [h.block k (Array.getElem?_eq_some_iff.1 hk).1]; exact hk
theorem KeepC.put {M : Nat → Prop} (W : World) (l : Nat) (o o' : Obj) (h : W.heap[l]? = some o) (hc : o.isCells = false) : KeepC M W (W.putObj l o') := fun k c e f _ hk => by
  have hne : some k ≠ some l := fun e' => by
    cases e'
    rw [h] at hk
    cases hk
    simp [Obj.isCells] at hc
  exact ((grownBy_putObj' W l o').block k (Array.getElem?_eq_some_iff.1 hk).1 hne).trans hk
theorem Adds.new (w : World) (o : Obj) : Adds w (w.alloc o) := (Below.refl _ _).alloc (Nat.le_refl _) _
theorem Adds.cellAt {w w' : World} (h : Adds w w') {b o : Nat} {v : Value} (hc : w.cell? ⟨b, o, none⟩ = some v) : w'.cell? ⟨b, o, none⟩ = some v :=
  (KeepC.of_below (M := fun _ => False) h).cell id hc
theorem KeepC.own (M : Nat → Prop) (B : Nat) (W : World) {β : Type} : OwnFrom B (fun (_ : β) W' => KeepC M W W') := fun _ A C row h hg hr k c e f hk hc => by
  have h1 := h k c e f hk hc
  have hne : some k ≠ row := fun e' => by
    obtain ⟨_, o, ho, hoc⟩ := hr k e'.symm
    rw [h1] at ho
    cases ho
    simp [Obj.isCells] at hoc
  exact (hg.block k (Array.getElem?_eq_some_iff.1 h1).1 hne).trans h1
theorem OwnFrom.both {β : Type} {B : Nat} {I J : β → World → Prop} (h : OwnFrom B I) (k : OwnFrom B J) : OwnFrom B (fun s W => I s W ∧ J s W) := fun s A C row hs hg hr => ⟨h s A C row hs.1 hg hr, k s A C row hs.2 hg hr⟩
theorem RoundIn.wider {m : Nat} {P : Program} {l : Nat} {f : FuncId} {tmps : Array Value} {assign body : Code} {w : World} {R : Ending → World → Prop}
    (h : RoundIn Fence.wide m P l f tmps assign body w R) (l2 m' : Nat) : RoundIn (Fence.wide.inRound l2) m' P l f tmps assign body w R := ⟨h.1, fun c cs _ => h.2 c cs (fun d h => by cases h)⟩
end Go.Proofs.YtoeoeeomnbggkaaGreatDoor
