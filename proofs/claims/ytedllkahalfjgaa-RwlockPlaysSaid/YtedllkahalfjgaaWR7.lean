/- The document's Writer, Readers, Taken, New: their contracts. -/
import Derived.Test.YtedllkahalfjgaaWR4
import Derived.Test.YtedllkahalfjgaaWI1
namespace Go.Proofs.Ytedllkahalfjgaa
open Go Go.RowKit

set_option maxHeartbeats 1000000 in
theorem refWriter_any {R : Nat → Prop} {s : Value} {ls : List Lk} (i : Int) (w : World) (h : RefW R w s ls) (hf : FewL ls) :
    Calls Try.prog 45 #[.agg #[s], .int .i64 i] w fun e w' => e = .returned (.tuple #[.int .i64 (whoW (atL ls i).wr), .bool (decide ((atL ls i).wr ≠ 0))]) ∧ Adds w w' := by
  obtain ⟨g, cap, rfl, _, _⟩ := h.form
  have HA := Lib.hid (show Adds w (w.alloc (.cells #[.slice (some ⟨g, 0, none⟩) ls.length cap] 30)) from (Gr.new _ _).adds)
  by_cases hi : hasL ls i
  · obtain ⟨m, rfl, hml, hx⟩ := has_nat hi
    obtain ⟨r1, ao, cp, r0, _, _⟩ := (h.adds HA.out).cells hx
    have hfx := hf _ (List.mem_of_getElem? hx)
    obtain ⟨z, hz⟩ : ∃ z, (atL ls (m : Int)).wr = z := ⟨_, rfl⟩
    rw [hz] at r1 hfx ⊢
    have hmI : (m : Int) < (ls.length : Int) := by omega
    obtain ⟨_, hz0, hz1⟩ := hfx
    by_cases hzz : z = 0
    · subst hzz
      clear h hf hi hx r0 hz
      go_enter Try.func45, Try.ntmps45
      go_wp2
      go_ret2
      exact ⟨rfl, HA.out⟩
    · rw [show whoW z = z - 1 by unfold whoW; rw [if_neg hzz], show decide (z ≠ 0) = true by simp [hzz]]
      have hm0 : ¬ (m : Int) < 0 := by omega
      have hm1 : ¬ ls.length ≤ m := by omega
      have hzb : (z == 0) = false := by simpa using hzz
      clear h hf hi hx r0 hz
      go_enter Try.func45, Try.ntmps45
      go_wp2
      go_ret2
      exact ⟨rfl, HA.out⟩
  · rw [atL_no hi]
    by_cases i0 : i < 0
    · clear h hf hi
      go_enter Try.func45, Try.ntmps45
      go_wp2
      go_ret2
      exact ⟨rfl, HA.out⟩
    · have i3 : (ls.length : Int) ≤ i := by unfold hasL at hi; omega
      clear h hf hi
      go_enter Try.func45, Try.ntmps45
      go_wp2
      go_ret2
      exact ⟨rfl, HA.out⟩
theorem refReaders_any {R : Nat → Prop} {s : Value} {ls : List Lk} (i : Int) (w : World) (h : RefW R w s ls) :
    Calls Try.prog 46 #[.agg #[s], .int .i64 i] w fun e w' => ∃ v', e = .returned v' ∧ CutR w' v' (atL ls i).rd ∧ Adds w w' := by
  obtain ⟨g, cap, rfl, _, _⟩ := h.form
  have HA := Lib.hid (show Adds w (w.alloc (.cells #[.slice (some ⟨g, 0, none⟩) ls.length cap] 30)) from (Gr.new _ _).adds)
  by_cases hi : hasL ls i
  · obtain ⟨m, rfl, hml, hx⟩ := has_nat hi
    obtain ⟨r1, ao, cp, r0, rc, _⟩ := (h.adds HA.out).cells hx
    have HC := Lib.hid rc
    have hmI : (m : Int) < (ls.length : Int) := by omega
    clear h hi hx r1 rc
    go_enter Try.func46, Try.ntmps46
    go_wp2
    go_ret
    exact ⟨_, rfl, HC.out, HA.out⟩
  · rw [atL_no hi]
    by_cases i0 : i < 0
    · clear h hi
      go_enter Try.func46, Try.ntmps46
      go_wp2
      go_ret
      exact ⟨_, rfl, CutR.nil _, HA.out⟩
    · have i3 : (ls.length : Int) ≤ i := by unfold hasL at hi; omega
      clear h hi
      go_enter Try.func46, Try.ntmps46
      go_wp2
      go_ret
      exact ⟨_, rfl, CutR.nil _, HA.out⟩
def natsI (l : List Nat) : List Int := l.map fun n : Nat => (n : Int)
set_option maxRecDepth 100000 in
set_option maxHeartbeats 2000000 in
theorem refTaken_any {R : Nat → Prop} {s : Value} {ls : List Lk} (w : World) (h : RefW R w s ls) (hl : ls.length ≤ 64) (hf : FewL ls) :
    Calls Try.prog 47 #[.agg #[s]] w fun e w' => ∃ v', e = .returned v' ∧ IntsO w.heap.size w' v' (natsI (takenL ls)) ∧ Adds w w' := by
  obtain ⟨g, cap, rfl, _, _⟩ := h.form
  obtain ⟨wa, hwa⟩ : ∃ wa, w.alloc (.cells #[.slice (some ⟨g, 0, none⟩) ls.length cap] 30) = wa := ⟨_, rfl⟩
  have HA := Lib.hid (show Adds w wa by rw [← hwa]; exact (Gr.new _ _).adds)
  have HB := Lib.hid (show BkS 30 wa w.heap.size [.slice (some ⟨g, 0, none⟩) ls.length cap] by rw [← hwa]; exact BkS.new _ _ _)
  have HR := Lib.hid (h.adds HA.out)
  have HL := Lib.hid hl; have HF := Lib.hid hf
  obtain ⟨N, hN⟩ : ∃ N, ls.length = N := ⟨_, rfl⟩
  have HN := Lib.hid hN
  obtain ⟨n0, hn0⟩ : ∃ n0, w.heap.size = n0 := ⟨_, rfl⟩
  have HN0 := Lib.hid hn0
  obtain ⟨nb, hnb⟩ : ∃ nb, wa.heap.size = nb := ⟨_, rfl⟩
  have HNB := Lib.hid hnb
  rw [hN] at hwa HB
  rw [hn0] at HB
  simp only [hN]
  clear h hl hf hN
  go_enter Try.func47, Try.ntmps47
  go_wp2
  clear hwa hn0 hnb
  go_loopw [3, 4] (fun ov iv wr => ∃ k : Nat, iv = .int .i64 k ∧ k ≤ N ∧ IntsO nb wr ov (natsI (upTo ls k)) ∧ Adds wa wr) (fun _ iv _ => N + 1 - (intOf iv).toNat)
  case atStart => exact ⟨0, rfl, Nat.zero_le _, IntsO.nil _ _, Adds.refl _⟩
  case round =>
    obtain ⟨k, rfl, hk, hI, hA⟩ := hrel
    obtain ⟨ao1, cp1, e1, _, _⟩ := hI.cut.form
    subst e1
    have HI := Lib.hid hI; have HAr := Lib.hid hA
    have hNI : (N : Int) ≤ 64 := by have := HL.out; have := HN.out; omega
    have cb : wr.cell? ⟨n0, 0, none⟩ = some (.slice (some ⟨g, 0, none⟩) N cap) := (HB.out.adds hA).cell 0
    clear hI hA
    by_cases hlt : k < N
    · obtain ⟨x, hx⟩ : ∃ x, ls[k]? = some x := ⟨_, List.getElem?_eq_getElem (by rw [HN.out]; exact hlt)⟩
      have hgx : ls.getD k lk0 = x := by rw [List.getD_eq_getElem?_getD, hx]; rfl
      have hr := HR.out.adds HAr.out
      rw [HN.out] at hr
      obtain ⟨r1, ao, cp, r0, _, _⟩ := hr.cells hx
      have hfx := HF.out x (List.mem_of_getElem? hx)
      obtain ⟨_, hz0, hz1⟩ := hfx
      have hkI : (k : Int) < (N : Int) := by omega
      have HLt := Lib.hid hlt
      obtain ⟨q, hq⟩ : ∃ q, x.rd.length = q := ⟨_, rfl⟩
      rw [hq] at r0
      generalize hz : x.wr = z at *
      have hkN : ¬ N ≤ k := by omega
      have hk0 : ¬ (k : Int) < 0 := by omega
      by_cases ht : tkB x = true
      · have HU := Lib.hid (show natsI (upTo ls (k + 1)) = natsI (upTo ls k) ++ [(k : Int)] by rw [upTo_succ, hgx, if_pos ht]; simp [natsI])
        have HLE := Lib.hid (show (natsI (upTo ls k)).length + [(k : Int)].length ≤ 2000000 by
          have h1 : (upTo ls k).length ≤ k := by unfold upTo; exact Nat.le_trans (List.length_filter_le _ _) (by simp)
          have := HL.out; have := HN.out
          simp [natsI]; omega)
        have HLW := Lib.hid (show nb ≤ wr.heap.size by rw [← HNB.out]; exact HAr.out.size)
        have ht2 : 0 < z ∨ (z = 0 ∧ 0 < q) := by
          unfold tkB at ht
          rw [hz, hq] at ht
          simp at ht
          omega
        clear hr hx hgx hk hlt
        rcases ht2 with hzp | ⟨hz00, hq0⟩
        · have hzb : (0 : Int) < z := hzp
          go_wp2_with (at_builtin; refine wpR_cat rfl _ _ rfl nb _ (natsI (upTo ls k)) rfl (by exact ints_adds HI.out (Gr.new _ _).adds) _ [(k : Int)] rfl (ints_lit wr (k : Int)) HLE.out (by exact Nat.le_trans HLW.out (Gr.new wr _).adds.size) ?_; intro v2 w2 o2 b2; have O2 := Lib.hid o2; have A2 := Lib.hid (bel_adds (Adds.trans HAr.out (Gr.new wr _).adds) b2 (Nat.le_of_eq HNB.out)); clear o2 b2)
          go_roundw
          case rel => exact ⟨k + 1, by go_num, HLt.out, by rw [HU.out]; exact O2.out, A2.out⟩
          case measure => have := HLt.out; simp [intOf]; omega
        · have hzb : ¬ (0 : Int) < z := by omega
          have hqb : (0 : Int) < (q : Int) := by omega
          go_wp2_with (at_builtin; refine wpR_cat rfl _ _ rfl nb _ (natsI (upTo ls k)) rfl (by exact ints_adds HI.out (Gr.new _ _).adds) _ [(k : Int)] rfl (ints_lit wr (k : Int)) HLE.out (by exact Nat.le_trans HLW.out (Gr.new wr _).adds.size) ?_; intro v2 w2 o2 b2; have O2 := Lib.hid o2; have A2 := Lib.hid (bel_adds (Adds.trans HAr.out (Gr.new wr _).adds) b2 (Nat.le_of_eq HNB.out)); clear o2 b2)
          go_roundw
          case rel => exact ⟨k + 1, by go_num, HLt.out, by rw [HU.out]; exact O2.out, A2.out⟩
          case measure => have := HLt.out; simp [intOf]; omega
      · have ht0 : tkB x = false := by simpa using ht
        have HU := Lib.hid (show natsI (upTo ls (k + 1)) = natsI (upTo ls k) by rw [upTo_succ, hgx, ht0]; simp)
        have ht2 : z = 0 ∧ q = 0 := by
          unfold tkB at ht0
          rw [hz, hq] at ht0
          simp at ht0
          omega
        obtain ⟨rfl, rfl⟩ := ht2
        clear hr hx hgx hk hlt ht ht0
        go_wp2
        go_roundw
        case rel => exact ⟨k + 1, by go_num, HLt.out, by rw [HU.out]; exact HI.out, HAr.out⟩
        case measure => have := HLt.out; simp [intOf]; omega
    · have hkI : ¬ (k : Int) < (N : Int) := by omega
      have HE := Lib.hid (show k = N by omega)
      clear hlt hk
      go_wp2
      go_ret
      rw [HN0.out]
      exact ⟨_, rfl, by unfold takenL; rw [HN.out, ← HE.out]; exact HI.out.lower (by rw [← HN0.out, ← HNB.out]; exact HA.out.size), Adds.trans HA.out HAr.out⟩
end Go.Proofs.Ytedllkahalfjgaa
