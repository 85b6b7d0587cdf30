/- For is: a call with two keys; one that is taken. -/
import Derived.Test.YtedllkahalfjgaaWFr
import Derived.Test.YtedllkahalfjgaaWI1
namespace Go.Proofs.Ytedllkahalfjgaa
open Go Go.RowKit
section
variable {P : Program} {ops : Array Oper} {C : World → Prop} {R : World → World → Prop} {keys : List Tmp} {F : Tmp → Value → World → Prop}
/-- A call with a known value that is handed two slots of which the predicate alone is known. -/
theorem stepL_call2 {o : Oper} {A : Act} {K : Act → Prop} {v : Value} {f : FuncId} {d e : Tmp} (args : Value → Value → Array Value) (hk : isKey keys o = false) (hl : lk ops keys o = [d, e])
    (hrun : ∀ w u x, C w → F d u w → F e x w → Region.wanted o (yielded ops ((A.put (some d) u).put (some e) x).tmps) = true ∧ (execOp ((A.put (some d) u).put (some e) x).eval o).run P w = .ok (.enter f (args u x)) w)
    (hc : ∀ w u x, C w → F d u w → F e x w → Calls P f (args u x) w fun z w' => z = .returned v ∧ R w w') (h : K (A.put o.dst v)) : stepL P ops C R keys F o A K := by
  unfold stepL
  rw [if_neg (by rw [hk]; simp)]
  refine ⟨v, fun w hcw => ?_, h⟩
  rw [hl]
  intro u hu x hx
  obtain ⟨h1, h2⟩ := hrun w u x hcw hu hx
  show if _ then _ else _
  rw [if_pos h1, h2]
  exact (hc w u x hcw hu hx).mono fun e w' ⟨he, hr⟩ => ⟨v, he, rfl, hr⟩
end
theorem takenL_at {ls : List Lk} {x : Nat} (h : x < (takenL ls).length) : ∃ y, tkA ls x < ls.length ∧ ls[tkA ls x]? = some y ∧ tkW ls x = decide (y.wr ≠ 0) := by
  have hm : tkA ls x ∈ takenL ls := by
    unfold tkA
    rw [List.getD_eq_getElem?_getD, List.getElem?_eq_getElem h]
    exact List.getElem_mem h
  have hr : tkA ls x < ls.length := by
    have hm2 : tkA ls x ∈ (List.range ls.length).filter fun i => tkB (ls.getD i lk0) := hm
    exact List.mem_range.1 (List.mem_filter.1 hm2).1
  refine ⟨ls[tkA ls x], hr, List.getElem?_eq_getElem hr, ?_⟩
  unfold tkW
  rw [List.getD_eq_getElem?_getD, List.getElem?_eq_getElem hr]
  rfl
theorem takenL_len (ls : List Lk) : (takenL ls).length ≤ ls.length := by
  unfold takenL upTo
  have := List.length_filter_le (fun i => tkB (ls.getD i lk0)) (List.range ls.length)
  rw [List.length_range] at this
  exact this
end Go.Proofs.Ytedllkahalfjgaa
