/- What act of RwlockPlays leaves. -/
import Derived.Test.YtedllkahalfjgaaWRU
import Derived.Test.YtedllkahalfjgaaWL0
namespace Go.Proofs.Ytedllkahalfjgaa
open Go Go.RowKit

/-- The program's locks and the document's, apart; what the program's turned is its own. -/
def ActW (m : Nat) (w : World) (O R : Nat → Prop) (ls' : List Lk) (e : Ending) (w' : World) : Prop :=
  ∃ v' s' O', e = .returned (.tuple #[v', .agg #[s'], .bool true]) ∧ HasL m w' v' O' ls' ∧ RefW (fun k => ¬ O' k ∧ (R k ∨ w.heap.size ≤ k)) w' s' ls' ∧ TnO O w w' ∧ ∀ k, O' k → O k ∨ w.heap.size ≤ k
theorem few_ok {m : Nat} {w : World} {v : Value} {O : Nat → Prop} {ls : List Lk} (h : HasL m w v O ls) (hm : m ≤ 1000000) : FewL ls := fun x hx => by
  obtain ⟨h1, h2⟩ := h.ok x hx
  refine ⟨by omega, ?_, ?_⟩ <;> omega
theorem res_midW {P : Program} {fn : Func} {p q r : Tmp} {ty : TypeId} (h : fn.results = #[.tmp q, .cell p ty, .tmp r]) (tmps : Array Value) (w : World) (g : Nat) (cs : Array Value) (t : TypeId) (fr : Nat × Nat) (d : TypeDesc) (hp : tmps.getD p undef = .pointer (some ⟨g, 0, none⟩))
    (hg : w.heap[g]? = some (.cells cs t fr)) (hu : P.underlying ty = some d) (hd : (match d with | .struct _ | .array _ _ => true | _ => false) = true) (hi : (P.info? ty).map (·.size) = some cs.size) : (results fn tmps).run P w = .ok (.tuple #[tmps.getD q undef, .agg cs, tmps.getD r undef]) w := by
  have hp' : tmps[p]?.getD undef = .pointer (some ⟨g, 0, none⟩) := by simpa using hp
  simp [results, h, hp', asAddr, run_loadVar_row (P := P) w g t ty cs fr d hg hu hd hi]
/-- The document's locks, while the program's turn. -/
theorem ref_turn {O O6 R : Nat → Prop} {w w3 w5 w6 : World} {s : Value} {ls : List Lk} (h : RefW (OrNew R w3) w5 s ls) (hRO : ∀ k, R k → ¬ O k) (h3 : w.heap.size ≤ w3.heap.size) (hO : ∀ k, O k → k < w.heap.size) (ht : TnO O w5 w6) (h6 : ∀ k, O6 k → O k ∨ w5.heap.size ≤ k) (_h5 : w3.heap.size ≤ w5.heap.size) : RefW (fun k => ¬ O6 k ∧ (R k ∨ w.heap.size ≤ k)) w6 s ls := by
  have key : ∀ k, OrNew R w3 k → ¬ O k := fun k hk ho => by
    rcases hk with c | c
    · exact hRO k c ho
    · have := hO k ho; omega
  refine (h.lt.kept (fun k hk => ht.block k hk.2 (key k hk.1))).wide (fun k hk => ⟨fun ho => ?_, hk.1.imp id (fun c => Nat.le_trans h3 c)⟩)
  rcases h6 k ho with c | c
  · exact key k hk.1 c
  · have := hk.2; omega
theorem act_end {m : Nat} {O O6 R : Nat → Prop} {w w5 w6 : World} {v s : Value} {ls : List Lk} {t : TypeId} {b : Nat} {cs : List Value} (h1 : HasL m w6 v O6 ls) (h2 : RefW (fun k => ¬ O6 k ∧ (R k ∨ w.heap.size ≤ k)) w6 s ls) (hb : BkS t w6 b cs) (ht : TnO O w5 w6) (ha : Adds w w5) (h6 : ∀ k, O6 k → O k ∨ w5.heap.size ≤ k) (_hO : ∀ k, O k → k < w.heap.size) (hn : w.heap.size ≤ b)
    (t1 : t ≠ 108) (t2 : t ≠ 3) (t3 : t ≠ 96) (t4 : t ≠ 94) (t5 : t ≠ 3) (i : Nat) (u : Value) (e : Ending) (he : e = .returned (.tuple #[v, .agg #[s], .bool true])) : ActW m w O R ls e (w6.setCell ⟨b, i, none⟩ u) := by
  have hnb := h1.notO hb t3 t4 t5
  refine ⟨v, s, O6, he, h1.kept (fun k hk => Below.heap_setCell _ _ _ _ (fun e => by have e' : k = b := e; rw [e'] at hk; exact hnb hk)), h2.far hb t1 t2 i u, ?_, fun k hk => ?_⟩
  · have h7 := (TnO.of_adds O ha).trans ht
    exact ⟨h7.os, h7.tape, h7.output, by simpa [World.setCell] using h7.size, fun k hk ho => (Below.heap_setCell _ _ _ _ (fun e => by have e' : k = b := e; omega)).trans (h7.block k hk ho)⟩
  · rcases h6 k hk with c | c
    · exact .inl c
    · exact .inr (Nat.le_trans ha.size c)
end Go.Proofs.Ytedllkahalfjgaa
