/- The document's own answers on sites: Right, Text, digits: contracts. -/
import Derived.Test.YtoeoeeomnbggkaaGreatDoorSF6
namespace Go.Proofs.YtoeoeeomnbggkaaGreatDoor
open Go Go.RowKit Go.Shelf Go.Sort

set_option maxRecDepth 100000 in
theorem refRight_any (s : Si) (w : World) : Calls Tryz.prog 21 #[siV s] w fun e w' => e = .returned (.bool (rightS s)) ∧ Gr w w' := by
  have hr := rightS_iff (s := s)
  obtain ⟨f, p⟩ := s
  simp only at hr
  by_cases h1 : 0 ≤ f
  · by_cases h2 : f < 32
    · by_cases h3 : 0 ≤ p
      · by_cases h4 : p < 512
        · rw [hr.2 ⟨h1, h2, h3, h4⟩]
          clear hr
          go_enter Tryz.func21, Tryz.ntmps21
          go_wp2
          go_ret
          exact ⟨rfl, Gr.new _ _⟩
        · rw [Bool.eq_false_iff.2 (fun h => h4 (hr.1 h).2.2.2)]
          clear hr
          go_enter Tryz.func21, Tryz.ntmps21
          go_wp2
          go_ret
          exact ⟨rfl, Gr.new _ _⟩
      · rw [Bool.eq_false_iff.2 (fun h => h3 (hr.1 h).2.2.1)]
        clear hr
        go_enter Tryz.func21, Tryz.ntmps21
        go_wp2
        go_ret
        exact ⟨rfl, Gr.new _ _⟩
    · rw [Bool.eq_false_iff.2 (fun h => h2 (hr.1 h).2.1)]
      clear hr
      go_enter Tryz.func21, Tryz.ntmps21
      go_wp2
      go_ret
      exact ⟨rfl, Gr.new _ _⟩
  · rw [Bool.eq_false_iff.2 (fun h => h1 (hr.1 h).1)]
    clear hr
    go_enter Tryz.func21, Tryz.ntmps21
    go_wp2
    go_ret
    exact ⟨rfl, Gr.new _ _⟩

/-- Digits as the document reads them. -/
def DigP7 (l : List UInt8) (w : World) (e : Ending) (w' : World) : Prop := w = w' ∧ ((∃ n, digR l = some n ∧ e = .returned (.tuple #[.int .i64 (n : Nat), .bool true])) ∨ (digR l = none ∧ e = .returned (.tuple #[.int .i64 0, .bool false])))

theorem int_eq7 {k : IntKind} {a b : Int} (h : a = b) : Value.int k a = .int k b := by rw [h]
theorem digF_take (l : List UInt8) (k : Nat) (hk : k < l.length) (acc : Nat) (h : digF 0 (l.take k) = some acc) :
    digF 0 (l.take (k + 1)) = if 48 ≤ (l[k].toNat : Int) ∧ (l[k].toNat : Int) ≤ 57 ∧ (acc : Int) ≤ 999 then some (10 * acc + (l[k].toNat - 48)) else none := by
  rw [List.take_succ_eq_append_getElem hk, digF_append _ _ _ _ h]
  simp only [digF]
  by_cases c : 48 ≤ l[k].toNat ∧ l[k].toNat ≤ 57 ∧ acc ≤ 999
  · rw [if_pos c, if_pos (by omega)]
  · rw [if_neg c, if_neg (by omega)]
theorem digF_none (l : List UInt8) (k : Nat) (h : digF 0 (l.take k) = none) : digF 0 l = none := by
  have gen : ∀ (a b : List UInt8) (acc : Nat), digF acc a = none → digF acc (a ++ b) = none := by
    intro a
    induction a with
    | nil => intro b acc h; simp [digF] at h
    | cons x a ih =>
      intro b acc h
      simp only [List.cons_append, digF] at h ⊢
      split
      · rename_i c; rw [if_pos c] at h; exact ih b _ h
      · rfl
  have := gen (l.take k) (l.drop k) 0 h
  rwa [List.take_append_drop] at this

end Go.Proofs.YtoeoeeomnbggkaaGreatDoor
