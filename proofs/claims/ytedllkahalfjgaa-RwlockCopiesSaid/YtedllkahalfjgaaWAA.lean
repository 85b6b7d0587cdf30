/- act: its contract. -/
import Derived.Test.YtedllkahalfjgaaWA0
import Derived.Test.YtedllkahalfjgaaWA1
import Derived.Test.YtedllkahalfjgaaWA2
import Derived.Test.YtedllkahalfjgaaWA3
import Derived.Test.YtedllkahalfjgaaWA4
import Derived.Test.YtedllkahalfjgaaWA5
import Derived.Test.YtedllkahalfjgaaWA6
import Derived.Test.YtedllkahalfjgaaWA7
namespace Go.Proofs.Ytedllkahalfjgaa
open Go Go.RowKit

/-- What a call makes of them. -/
def stepW (ls : List Lk) (a i c : Int) : List Lk :=
  if 0 ≤ a ∧ a ≤ 2 then readL ls i c else if a = 3 ∨ a = 4 then unreadL ls i c else if a = 5 then writeL ls i c else if a = 6 then unwriteL ls i else ls
theorem ActW.up {m n : Nat} {w w' : World} {O R : Nat → Prop} {ls : List Lk} {e : Ending} (h : ActW m w O R ls e w') (hn : m ≤ n) : ActW n w O R ls e w' := by
  obtain ⟨v, s, O', h1, h2, h3⟩ := h
  exact ⟨v, s, O', h1, h2.up hn, h3⟩
theorem act_any {m : Nat} {w : World} {v s : Value} {O R : Nat → Prop} {ls : List Lk} (a i c : Int) (hm : m ≤ 1000000) (hM : HasL m w v O ls) (hRO : ∀ k, R k → ¬ O k) (hR : RefW R w s ls) :
    Calls Try.prog 13 #[v, .agg #[s], .agg #[.int .i64 a, .int .i64 i, .int .i64 c]] w (ActW (m + 1) w O R (stepW ls a i c)) := by
  have hu : ∀ {ls' : List Lk} {e : Ending} {w' : World}, ActW m w O R ls' e w' → ActW (m + 1) w O R ls' e w' := fun h => h.up (Nat.le_succ m)
  by_cases h06 : 0 ≤ a ∧ a ≤ 6
  · have hc : a = 0 ∨ a = 1 ∨ a = 2 ∨ a = 3 ∨ a = 4 ∨ a = 5 ∨ a = 6 := by omega
    rcases hc with rfl | rfl | rfl | rfl | rfl | rfl | rfl
    · exact act_read0 i c hm hM hRO hR
    · exact act_read1 i c hm hM hRO hR
    · exact act_read2 i c hm hM hRO hR
    · exact (act_unread3 i c hm hM hRO hR).mono fun _ _ h => hu h
    · exact (act_unread4 i c hm hM hRO hR).mono fun _ _ h => hu h
    · exact (act_write5 i c hm hM hRO hR).mono fun _ _ h => hu h
    · exact (act_unwrite6 i c hm hM hRO hR).mono fun _ _ h => hu h
  · rw [show stepW ls a i c = ls by unfold stepW; rw [if_neg (by omega), if_neg (by omega), if_neg (by omega), if_neg (by omega)]]
    exact (act_copy a i c h06 hm hM hRO hR).mono fun _ _ h => hu h
end Go.Proofs.Ytedllkahalfjgaa
