/- Steps of a drawn region walked once: what is handed two or three slots of which a predicate alone is known; a store that changes nothing. -/
import Derived.Test.YtbinmgpfkjmijaaGreatDoorBB
import Derived.Test.YtbinmgpfkjmijaaGreatDoorSMem
namespace Go.Proofs.YtbinmgpfkjmijaaGreatDoor
open Go Go.RowKit
section
variable {P : Program} {ops : Array Oper} {C : World → Prop} {R : World → World → Prop} {keys : List Tmp} {F : Tmp → Value → World → Prop}
/-- A call that is handed one slot of which the predicate alone is known; of its value, too. -/
theorem stepL_keyc1 {o : Oper} {A : Act} {K : Act → Prop} {f : FuncId} (d e : Tmp) (hd : o.dst = some d) (hk : isKey keys o = true) (hl : lk ops keys o = [e]) (args : Value → Array Value)
    (hrun : ∀ w u, C w → F e u w → Region.wanted o (yielded ops (A.put (some e) u).tmps) = true ∧ (execOp (A.put (some e) u).eval o).run P w = .ok (.enter f (args u)) w)
    (hc : ∀ w u, C w → F e u w → Calls P f (args u) w fun e' w' => ∃ v, e' = .returned v ∧ F d v w' ∧ R w w') (h : K A) : stepL P ops C R keys F o A K := by
  unfold stepL
  rw [if_pos hk]
  refine ⟨fun w hcw => ?_, h⟩
  rw [hl, hd]
  intro u hu
  obtain ⟨h1, h2⟩ := hrun w u hcw hu
  refine ⟨h1, ?_⟩
  rw [h2]
  exact hc w u hcw hu
/-- An operation at once, that looks at one such slot. -/
theorem stepL_mk1 {o : Oper} {A : Act} {K : Act → Prop} (d e : Tmp) (hd : o.dst = some d) (hk : isKey keys o = true) (hl : lk ops keys o = [e])
    (hrun : ∀ w u, C w → F e u w → Region.wanted o (yielded ops (A.put (some e) u).tmps) = true ∧ ∃ v w', (execOp (A.put (some e) u).eval o).run P w = .ok (.value v) w' ∧ F d v w' ∧ R w w') (h : K A) : stepL P ops C R keys F o A K := by
  unfold stepL
  rw [if_pos hk]
  refine ⟨fun w hcw => ?_, h⟩
  rw [hl, hd]
  intro u hu
  obtain ⟨h1, v, w', hr, hf, hR⟩ := hrun w u hcw hu
  refine ⟨h1, ?_⟩
  rw [hr]
  exact ⟨hf, hR⟩
/-- An operation at once, that looks at three such slots. -/
theorem stepL_mk3 {o : Oper} {A : Act} {K : Act → Prop} (d e1 e2 e3 : Tmp) (hd : o.dst = some d) (hk : isKey keys o = true) (hl : lk ops keys o = [e1, e2, e3])
    (hrun : ∀ w u1 u2 u3, C w → F e1 u1 w → F e2 u2 w → F e3 u3 w → Region.wanted o (yielded ops (((A.put (some e1) u1).put (some e2) u2).put (some e3) u3).tmps) = true ∧ ∃ v w', (execOp (((A.put (some e1) u1).put (some e2) u2).put (some e3) u3).eval o).run P w = .ok (.value v) w' ∧ F d v w' ∧ R w w') (h : K A) : stepL P ops C R keys F o A K := by
  unfold stepL
  rw [if_pos hk]
  refine ⟨fun w hcw => ?_, h⟩
  rw [hl, hd]
  intro u1 hu1 u2 hu2 u3 hu3
  obtain ⟨h1, v, w', hr, hf, hR⟩ := hrun w u1 u2 u3 hcw hu1 hu2 hu3
  refine ⟨h1, ?_⟩
  rw [hr]
  exact ⟨hf, hR⟩
/-- An operation without a slot, that changes nothing. -/
theorem stepL_st {o : Oper} {A : Act} {K : Act → Prop} (hd : o.dst = none) (hl : lk ops keys o = []) (hw : Region.wanted o (yielded ops A.tmps) = true) (hR : ∀ w, R w w)
    (hrun : ∀ w, C w → (execOp A.eval o).run P w = .ok .skip w) (h : K (A.put o.dst undef)) : stepL P ops C R keys F o A K := by
  unfold stepL
  rw [if_neg (by unfold isKey; rw [hd]; simp)]
  refine ⟨undef, fun w hcw => ?_, h⟩
  rw [hl]
  show if _ then _ else _
  rw [if_pos hw, hrun w hcw]
  exact ⟨rfl, hR w⟩
end
theorem BkS.still {t : TypeId} {w : World} {b : Nat} {l : List Value} (h : BkS t w b l) (i : Nat) (u : Value) (hu : l[i]? = some u) : w.setCell ⟨b, i, none⟩ u = w := by
  have h1 : l.toArray.setIfInBounds i u = l.toArray := by
    apply Array.ext_getElem?
    intro j
    rw [Array.getElem?_setIfInBounds]
    split
    · rename_i e
      subst e
      split
      · rw [← hu]; simp
      · rename_i hn
        rw [Array.getElem?_eq_none (by omega)]
    · rfl
  unfold World.setCell
  have h2 : w.heap.modify b (fun | .cells c elem frozen => .cells (if (none : Option Nat).isSome then c else c.setIfInBounds i u) elem frozen | o => o) = w.heap := by
    apply Array.ext_getElem?
    intro j
    rw [Array.getElem?_modify]
    split
    · rename_i e
      subst e
      unfold BkS at h
      rw [h]
      simp [h1]
    · rfl
  cases w
  simp only at h2 ⊢
  congr 1
end Go.Proofs.YtbinmgpfkjmijaaGreatDoor
