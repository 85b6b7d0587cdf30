/- What stays where mutexes turn, where a box is written to. -/
import Derived.Test.YtdmbjonbcomphaaUF4
import Derived.Test.YtdmbjonbcomphaaURow
import Derived.Test.YtdmbjonbcomphaaBC
namespace Go.Proofs.Ytdmbjonbcomphaa
open Go Go.RowKit Go.Maps

theorem BkS.turn {t : TypeId} {w w' : World} {b c : Nat} {cs : List Value} {l : List Int} (h : BkS t w c cs) (hb : HolF w b l) (ht : TnS b w w') : BkS t w' c cs := by
  refine (ht.block c h.lt (fun e => ?_)).trans h
  cases e
  obtain ⟨es, k, h1⟩ := hb.obj
  unfold BkS at h
  rw [h1] at h
  cases h
theorem MutP.far {t : TypeId} {w : World} {v : Value} {bp b B : Nat} {l : List Int} {cs : List Value} (h : MutP w v bp b l) (hB : BkS t w B cs) (ht : t ≠ 48) (i : Nat) (x : Value) : MutP (w.setCell ⟨B, i, none⟩ x) v bp b l := by
  refine h.other (fun e => ?_) (fun e => ?_) (TnS.setCell B i w x)
  · have h1 := h.blk
    subst e
    unfold BkS at h1 hB
    rw [hB] at h1
    injection h1 with h2
    injection h2 with _ h3
    exact ht h3
  · obtain ⟨es, k, h1⟩ := h.map.obj
    subst e
    unfold BkS at hB
    rw [h1] at hB
    cases hB
theorem MutP.away {w w' : World} {v : Value} {bp b c : Nat} {l l2 : List Int} (h : MutP w v bp b l) (hc : HolF w c l2) (hbc : b ≠ c) (ht : TnS c w w') : MutP w' v bp b l := by
  refine h.other (fun e => ?_) hbc ht
  subst e
  obtain ⟨es, k, h1⟩ := hc.obj
  have h2 := h.blk
  unfold BkS at h2
  rw [h1] at h2
  cases h2
theorem ActsW.at3 {N : Nat} {w w' : World} {v : Value} {l : List A3} (h : ActsW N w v l) (_hN : N ≤ w.heap.size) (ha : Adds w w') {k : Nat} (hk : k < l.length) : ∃ g off cap, v = .slice (some ⟨g, off, none⟩) l.length cap ∧ At3 w' g (off + k * 3) (l.getD k zA) := by
  obtain ⟨ao, cap, rfl, _, hc⟩ := h
  obtain ⟨g, off, rfl, hg, hc⟩ := hc (by rintro rfl; simp at hk)
  obtain ⟨h0, h1, h2⟩ := hc k hk
  exact ⟨g, off, cap, rfl, Adds.cellAt ha h0, Adds.cellAt ha h1, Adds.cellAt ha h2⟩
theorem okA_at {l : List A3} (h : ∀ y ∈ l, okA y) {k : Nat} (hk : k < l.length) : okA (l.getD k zA) := by
  rw [List.getD_eq_getElem?_getD, List.getElem?_eq_getElem hk]
  exact h _ (List.getElem_mem hk)
end Go.Proofs.Ytdmbjonbcomphaa
