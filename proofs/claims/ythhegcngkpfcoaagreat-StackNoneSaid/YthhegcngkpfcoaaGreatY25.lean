/- Merged: IApp, IF9. -/
import Derived.Test.YthhegcngkpfcoaaGreatY0
import Derived.Test.YthhegcngkpfcoaaGreatY10
import Derived.Test.YthhegcngkpfcoaaGreatY6
namespace Go.Proofs.YthhegcngkpfcoaaGreat
open Go Go.RowKit
section
variable {w : World} {ops : Array Oper} {rest : List Oper} {o : Oper} {a : Act} {Q : Exit → Act → World → Prop}
end
end Go.Proofs.YthhegcngkpfcoaaGreat
namespace Go.Proofs.YthhegcngkpfcoaaGreat
open Go Go.RowKit Go.Shelf Go.Lib

theorem look_op0 (k : Nat) (h1 : 1 ≤ k) (h2 : k ≤ 19) (b : Nat) (w : World) (h : MapS w b 19) :
    (Instr.lookup 168 (.map (some b)) (.int .i64 k) false).run Tryz.prog w = .ok (shapeV (shOf k)) w := by
  obtain ⟨v, ps, hr, hv⟩ := h.lookup kop Tryz.underlying168 (zeroSh w) (zd := shD (0, 0, 0, 0)) (zp := []) zero_elem (Maps.keyOf_int_mk Tryz.underlying35 (wf_op k h1 h2))
  rw [at_op k h1 h2] at hv
  rw [shElem_inj hv (elem_op k h1 h2)] at hr
  exact hr
theorem mayI_op {x : In} (h : mayI x = true) : ∃ k : Nat, x.1 = k ∧ 1 ≤ k ∧ k ≤ 19 ∧ holdsL (partsN k) x = true := by
  unfold mayI at h
  rw [Bool.and_eq_true, decide_eq_true_eq] at h
  obtain ⟨h1, h2⟩ := h
  exact ⟨x.1.toNat, by omega, by omega, by omega, h2⟩
theorem holdsL_all {P : List (Nat × Nat)} {x : In} (h : holdsL P x = true) : ∀ j, j < P.length → holdsP (P.getD j (0, 0)) x = true := by
  unfold holdsL at h
  rw [Bool.and_eq_true] at h
  exact all_holds.1 h.1
theorem RowP.same {w w' : World} {g : Nat} {ps : List Pt} (h : RowP w g ps) (hb : w'.heap[g]? = w.heap[g]?) : RowP w' g ps := fun i hi q hq => by
  rw [← h i hi q hq]
  unfold World.cell?
  rw [hb]
theorem RowP.lt {w : World} {g : Nat} {ps : List Pt} (h : RowP w g ps) (hp : 0 < ps.length) : g < w.heap.size := by
  have h0 := h 0 hp 0 (by omega)
  have h1 : (ptC (ps.getD 0 (0, 0)))[0]? = some (slotV (ps.getD 0 (0, 0)).1) := rfl
  exact World.block_lt_of_cell? w _ (h0.trans h1)
theorem RowP.adds {w w' : World} {g : Nat} {ps : List Pt} (h : RowP w g ps) (ha : Adds w w') : RowP w' g ps := fun i hi => (h.same (ha.block g (h.lt (by omega)))) i hi
end Go.Proofs.YthhegcngkpfcoaaGreat
