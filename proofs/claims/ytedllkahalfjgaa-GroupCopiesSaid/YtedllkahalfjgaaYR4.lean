/- The document's Same: its contract. -/
import Derived.Test.YtedllkahalfjgaaYR1
namespace Go.Proofs.Ytedllkahalfjgaa
open Go Go.RowKit

set_option maxRecDepth 100000 in
set_option maxHeartbeats 4000000 in
theorem refSame_any (v u : Value) (l l' : List Int) (hl : l.length ≤ 64) (hl' : l'.length ≤ 64) (w : World) (h : RefG w v l) (h' : RefG w u l') :
    Calls Try.prog 26 #[v, u] w fun e w' => e = .returned (.bool (decide (l = l'))) ∧ Adds w w' := by
  obtain ⟨g, cap, rfl⟩ := h.val
  obtain ⟨g', cap', rfl⟩ := h'.val
  obtain ⟨w1, hw1⟩ : ∃ w1, w.alloc (.cells #[.slice (some ⟨g, 0, none⟩) l.length cap] 53) = w1 := ⟨_, rfl⟩
  obtain ⟨w2, hw2⟩ : ∃ w2, w1.alloc (.cells #[.slice (some ⟨g', 0, none⟩) l'.length cap'] 53) = w2 := ⟨_, rfl⟩
  have a1 : Adds w w1 := by rw [← hw1]; exact (Gr.new _ _).adds
  have a2 : Adds w1 w2 := by rw [← hw2]; exact (Gr.new _ _).adds
  have x0 : BkS 53 w2 w.heap.size [.slice (some ⟨g, 0, none⟩) l.length cap] := by
    have h := BkS.new 53 w [.slice (some ⟨g, 0, none⟩) l.length cap]
    rw [hw1] at h
    exact h.adds a2
  have x1 : BkS 53 w2 w1.heap.size [.slice (some ⟨g', 0, none⟩) l'.length cap'] := by
    have h := BkS.new 53 w1 [.slice (some ⟨g', 0, none⟩) l'.length cap']
    rwa [hw2] at h
  have HA := Lib.hid (Adds.trans a1 a2)
  have X0 := Lib.hid x0; have X1 := Lib.hid x1
  have c0 : w2.cell? ⟨w.heap.size, 0, none⟩ = some (.slice (some ⟨g, 0, none⟩) l.length cap) := x0.cell 0
  have c1 : w2.cell? ⟨w1.heap.size, 0, none⟩ = some (.slice (some ⟨g', 0, none⟩) l'.length cap') := x1.cell 0
  have HR := Lib.hid ((h.adds HA.out).cells.2); have HR' := Lib.hid ((h'.adds HA.out).cells.2)
  obtain ⟨n0, hn0⟩ : ∃ n0, w.heap.size = n0 := ⟨_, rfl⟩
  obtain ⟨n1, hn1⟩ : ∃ n1, w1.heap.size = n1 := ⟨_, rfl⟩
  rw [hn0] at X0 c0
  rw [hn1] at X1 c1
  clear a1 a2 x0 x1 h h'
  by_cases hn : l.length = l'.length
  · have hnI : (l.length : Int) = (l'.length : Int) := by omega
    have HNn := Lib.hid hn
    have hlI : (l'.length : Int) ≤ 64 := by omega
    rw [hn] at c0
    go_enter Try.func26, Try.ntmps26
    clear hn hnI
    go_wp2
    go_loopw [5] (fun iv wr => ∃ k : Nat, iv = .int .i64 k ∧ k ≤ l'.length ∧ (∀ j, j < k → l.getD j 0 = l'.getD j 0) ∧ Adds w2 wr) (fun iv _ => l'.length + 1 - (intOf iv).toNat)
    case atStart => exact ⟨0, rfl, Nat.zero_le _, fun j hj => by omega, Adds.refl _⟩
    case round =>
      obtain ⟨k, rfl, hk, hall, hA⟩ := hrel
      have d0 : wr.cell? ⟨n0, 0, none⟩ = some (.slice (some ⟨g, 0, none⟩) l'.length cap) := Adds.cellAt hA c0
      have d1 : wr.cell? ⟨n1, 0, none⟩ = some (.slice (some ⟨g', 0, none⟩) l'.length cap') := Adds.cellAt hA c1
      by_cases hlt : k < l'.length
      · have hltI : (k : Int) < (l'.length : Int) := by omega
        have r0 : wr.cell? ⟨g, k, none⟩ = some (.int .i64 (l.getD k 0)) := Adds.cellAt hA (HR.out k (by rw [HNn.out]; exact hlt))
        have r1 : wr.cell? ⟨g', k, none⟩ = some (.int .i64 (l'.getD k 0)) := Adds.cellAt hA (HR'.out k hlt)
        have HK := Lib.hid (show k + 1 ≤ l'.length from hlt)
        have HAll := Lib.hid hall
        have HAr := Lib.hid hA
        obtain ⟨y, hy⟩ : ∃ y, l.getD k 0 = y := ⟨_, rfl⟩
        obtain ⟨z, hz⟩ : ∃ z, l'.getD k 0 = z := ⟨_, rfl⟩
        rw [hy] at r0
        rw [hz] at r1
        have HYZ := Lib.hid (And.intro hy hz)
        clear hk hall hA hlt hy hz
        by_cases e : y = z
        · subst e
          go_wp2
          have s0 : wr.drew.cell? ⟨n0, 0, none⟩ = some (.slice (some ⟨g, 0, none⟩) l'.length cap) := d0
          go_region
          all_goals
            simp only [Exit.then]
            go_simp
            go_wp2
            go_roundw
            case rel => exact ⟨k + 1, by go_num, HK.out, fun j hj => by
              rcases Nat.lt_succ_iff_lt_or_eq.1 hj with h | rfl
              · exact HAll.out j h
              · exact HYZ.out.1.trans HYZ.out.2.symm, Adds.trans HAr.out (Adds.drew _)⟩
            case measure => simp [intOf]; have := HK.out; omega
        · have hne : (y != z) = true := by simpa using e
          go_wp2
          go_region
          all_goals
            simp only [Exit.then]
            go_simp
            go_wp2
            go_ret
            exact ⟨by rw [decide_eq_false (fun h => e (by rw [← HYZ.out.1, ← HYZ.out.2, h]))]; rfl, Adds.trans HA.out (Adds.trans HAr.out (Adds.drew _))⟩
      · have hltI : ¬ (k : Int) < (l'.length : Int) := by omega
        have HE := Lib.hid (show l = l' by
          apply List.ext_getElem HNn.out
          intro j h1 h2
          have h3 := hall j (by omega)
          rw [List.getD_eq_getElem?_getD, List.getD_eq_getElem?_getD, List.getElem?_eq_getElem h1, List.getElem?_eq_getElem h2] at h3
          exact h3)
        have HAr := Lib.hid hA
        clear hk hall hA hlt
        go_wp2
        go_ret
        exact ⟨by rw [decide_eq_true HE.out]; rfl, Adds.trans HA.out HAr.out⟩
  · have hnI : ¬ (l.length : Int) = (l'.length : Int) := by omega
    have hd : decide (l = l') = false := decide_eq_false (fun h => hn (by rw [h]))
    rw [hd]
    clear hn hd
    go_enter Try.func26, Try.ntmps26
    go_wp2
    go_ret
    exact ⟨rfl, HA.out⟩
end Go.Proofs.Ytedllkahalfjgaa
