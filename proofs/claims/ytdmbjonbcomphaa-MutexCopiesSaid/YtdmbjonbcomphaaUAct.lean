/- act, of whatever kind: its contract. -/
import Derived.Test.YtdmbjonbcomphaaUB0
import Derived.Test.YtdmbjonbcomphaaUB1
import Derived.Test.YtdmbjonbcomphaaUB2
import Derived.Test.YtdmbjonbcomphaaUB3
import Derived.Test.YtdmbjonbcomphaaUB4
import Derived.Test.YtdmbjonbcomphaaUB5
namespace Go.Proofs.Ytdmbjonbcomphaa
open Go Go.RowKit Go.Maps

theorem stepA_length (l : List Int) (x : A3) : (stepA l x).length = l.length := by unfold stepA; split; exact lockL_length ..; split; exact unlockL_length ..; rfl
theorem act_any (v u : Value) (bp b : Nat) (l : List Int) (x : A3) (hx : okA x) (w : World) (hM : MutP w v bp b l) (hR : RefM w u l) :
    Calls Try.prog 11 #[v, u, .agg #[.int .i64 x.1, .int .i64 x.2.1, .int .i64 x.2.2]] w (ActGo w b (stepA l x)) := by
  obtain ⟨a, i, c⟩ := x
  have hi : In64 i := hx.2.1
  unfold stepA
  simp only
  by_cases h0 : kindL a = 0
  · rw [if_pos h0]
    have hcs : a = 0 ∨ a = 1 ∨ a = 2 ∨ a = 3 := by
      unfold kindL at h0
      split at h0
      · omega
      · split at h0 <;> omega
    rcases hcs with rfl | rfl | rfl | rfl
    · exact act_lock0 v u bp b l i c hi w hM hR
    · exact act_lock1 v u bp b l i c hi w hM hR
    · exact act_lock2 v u bp b l i c hi w hM hR
    · exact act_lock3 v u bp b l i c hi w hM hR
  · rw [if_neg h0]
    by_cases h1 : kindL a = 1
    · rw [if_pos h1]
      have hcs : a = 4 ∨ a = 5 := by
        unfold kindL at h1
        split at h1
        · omega
        · split at h1 <;> omega
      rcases hcs with rfl | rfl
      · exact act_unlock4 v u bp b l i c w hM hR
      · exact act_unlock5 v u bp b l i c w hM hR
    · rw [if_neg h1]
      have h2 : kindL a = 2 := by unfold kindL at h0 h1 ⊢; split at h0 <;> (try omega); split at h1 <;> simp_all
      exact act_copy v u bp b l a i c h2 w hM hR
end Go.Proofs.Ytdmbjonbcomphaa
