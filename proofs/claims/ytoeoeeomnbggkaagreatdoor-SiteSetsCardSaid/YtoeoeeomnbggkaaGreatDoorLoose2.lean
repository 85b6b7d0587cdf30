/- More steps of the walk of a region that draws: memory made at once, and a call that is handed it. -/
import Derived.Test.YtoeoeeomnbggkaaGreatDoorLoose
namespace Go.Proofs.YtoeoeeomnbggkaaGreatDoor
open Go
section
variable {P : Program} {ops : Array Oper} {C : World → Prop} {R : World → World → Prop} {keys : List Tmp} {F : Tmp → Value → World → Prop}
/-- An operation that makes memory at once: of its value the predicate alone is known. -/
theorem stepL_mk {o : Oper} {A : Act} {K : Act → Prop} (d : Tmp) (hd : o.dst = some d) (hk : isKey keys o = true) (hl : lk ops keys o = []) (hw : Region.wanted o (yielded ops A.tmps) = true)
    (hrun : ∀ w, C w → ∃ u w', (execOp A.eval o).run P w = .ok (.value u) w' ∧ F d u w' ∧ R w w') (h : K A) : stepL P ops C R keys F o A K := by
  unfold stepL
  rw [if_pos hk]
  refine ⟨fun w hcw => ?_, h⟩
  rw [hl, hd]
  refine ⟨hw, ?_⟩
  obtain ⟨u, w', hr, hf, hR⟩ := hrun w hcw
  rw [hr]
  exact ⟨hf, hR⟩
/-- A call with a known value that is handed one slot of which the predicate alone is known. -/
theorem stepL_call1 {o : Oper} {A : Act} {K : Act → Prop} {v : Value} {f : FuncId} {d : Tmp} (args : Value → Array Value) (hk : isKey keys o = false) (hl : lk ops keys o = [d])
    (hrun : ∀ w u, C w → F d u w → Region.wanted o (yielded ops (A.put (some d) u).tmps) = true ∧ (execOp (A.put (some d) u).eval o).run P w = .ok (.enter f (args u)) w)
    (hc : ∀ w u, C w → F d u w → Calls P f (args u) w fun e w' => e = .returned v ∧ R w w') (h : K (A.put o.dst v)) : stepL P ops C R keys F o A K := by
  unfold stepL
  rw [if_neg (by rw [hk]; simp)]
  refine ⟨v, fun w hcw => ?_, h⟩
  rw [hl]
  intro u hu
  obtain ⟨h1, h2⟩ := hrun w u hcw hu
  show if _ then _ else _
  rw [if_pos h1, h2]
  exact (hc w u hcw hu).mono fun e w' ⟨he, hr⟩ => ⟨v, he, rfl, hr⟩
end
end Go.Proofs.YtoeoeeomnbggkaaGreatDoor
