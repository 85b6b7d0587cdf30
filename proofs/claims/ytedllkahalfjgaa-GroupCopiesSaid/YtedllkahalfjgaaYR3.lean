/- A row of ints that a call makes; the document's Open: its contract. -/
import Derived.Test.YtedllkahalfjgaaYR2
import Derived.Test.YtedllkahalfjgaaYI1
namespace Go.Proofs.Ytedllkahalfjgaa
open Go Go.RowKit

def RowQ (base : Nat) (w : World) (v : Value) (xs : List Int) : Prop := w.ownsRow base 3 1 v xs.length (xs.map intQ)
theorem infoIQ : (Try.prog.info? 3).map (fun i => (i.zero, i.size, i.bytes)) = some (some (.int .i64 0), 1, 8) := by kernel_rfl
theorem RowQ.nil (n : Nat) (w : World) : RowQ n w (.slice none 0 0) [] := World.ownsRow_nil _ _ _ _
theorem RowQ.adds {n : Nat} {w w' : World} {v : Value} {xs : List Int} (h : RowQ n w v xs) (ha : Adds w w') : RowQ n w' v xs := by
  obtain ⟨h1, h2⟩ := h
  refine ⟨h1, ?_⟩
  rcases h2 with h2 | ⟨g, cap, cur, hv, hg, hh, r⟩
  · exact .inl h2
  · exact .inr ⟨g, cap, cur, hv, hg, (ha.block g (Array.getElem?_eq_some_iff.1 hh).1).trans hh, r⟩
theorem RowQ.lower {n b : Nat} {w : World} {v : Value} {xs : List Int} (h : RowQ n w v xs) (hb : b ≤ n) : RowQ b w v xs := by
  refine ⟨h.1, ?_⟩
  rcases h.2 with hn | ⟨g, cap, cur, e, hbg, rest⟩
  · exact .inl hn
  · exact .inr ⟨g, cap, cur, e, by omega, rest⟩
theorem RowQ.form {n : Nat} {w : World} {v : Value} {xs : List Int} (h : RowQ n w v xs) : ∃ ao cap, v = .slice ao xs.length cap ∧ xs.length ≤ cap ∧ cap ≤ maxLen := by
  obtain ⟨_, h2⟩ := h
  rcases h2 with ⟨h2, h3⟩ | ⟨g, cap, cur, hv, hg, hh, h3, h4, r⟩
  · exact ⟨none, 0, by rw [h2, h3], by omega, by unfold maxLen; omega⟩
  · exact ⟨_, cap, hv, h3, h4⟩
/-- Where it lies, and what it holds, also behind what keeps its block. -/
theorem RowQ.cell {n : Nat} {w : World} {ao : Option Addr} {m cap : Nat} {xs : List Int} (h : RowQ n w (.slice ao m cap) xs) {j : Nat} {x : Int} (hx : xs[j]? = some x) : ∃ g, ao = some ⟨g, 0, none⟩ ∧ n ≤ g ∧ g < w.heap.size ∧ ∀ w' : World, w'.heap[g]? = w.heap[g]? → w'.cell? ⟨g, j, none⟩ = some (.int .i64 x) := by
  have hj := (List.getElem?_eq_some_iff.1 hx).1
  obtain ⟨_, h2⟩ := h
  rcases h2 with ⟨h2, h3⟩ | ⟨g, cap', cur, hv, hg, hh, h3, h4, h5, h6⟩
  · omega
  · simp only [Value.slice.injEq] at hv
    refine ⟨g, hv.1, hg, (Array.getElem?_eq_some_iff.1 hh).1, fun w' hw' => ?_⟩
    rw [cell_of_row w' g j _ _ _ (hw'.trans hh)]
    have h8 := congrArg (fun l => l[j]?) h6
    rw [Nat.mul_one] at h8
    simp only [List.getElem?_take_of_lt hj, List.getElem?_map, hx, Option.map_some] at h8
    rw [← Array.getElem?_toList, h8]
    rfl
theorem belQ_adds {w w1 w2 : World} {n : Nat} (h : Adds w w1) (k : Below n w1 w2) (hn : w.heap.size ≤ n) : Adds w w2 := ⟨k.os.trans h.os, k.tape.trans h.tape, k.output.trans h.output, Nat.le_trans h.size k.size, fun i hi => (k.block i (Nat.lt_of_lt_of_le hi hn)).trans (h.block i hi)⟩
theorem wpQ_one {w : World} {ops : Array Oper} {rest : List Oper} {o : Oper} {a : Act} {Q : Exit → Act → World → Prop} (hgd : o.guard = none) (s x : Operand)
    (ho : o.op = .call { callee := .builtin .append, args := #[s, x], argTypes := #[41, 41] }) (base : Nat) (v : Value) (pre : List Int) (hs : a.eval s = v) (hown : RowQ base w v pre)
    (g : Nat) (z : Int) (hx : a.eval x = .slice (some ⟨g, 0, none⟩) 1 1) (hc : w.cell? ⟨g, 0, none⟩ = some (.int .i64 z)) (hlen : pre.length ≤ 1000) (hbase : base ≤ w.heap.size)
    (h : ∀ v' w', RowQ base w' v' (pre ++ [z]) → Below base w w' → wpList Try.prog ops Q rest (a.put o.dst v') w') : wpList Try.prog ops Q (o :: rest) a w := by
  obtain ⟨i0, hi, hz0, hz1, hz2⟩ := info_parts infoIQ
  refine wpList_append_own _ hgd s x 41 ho base 3 i0 (.int .i64 0) 1 8 Try.underlying41 hi hz0 hz1 hz2 rfl (by decide) v pre.length (pre.map intQ) hs hown ⟨g, 0, none⟩ 1 1 [intQ z] hx (by simp) (fun j u hu => ?_) (fun u hu => ?_) (by unfold maxLen; omega) (by omega) hbase (fun v' w' h1' h2' _ => h v' w' ?_ ?_)
  · have hj : j = 0 := by have := (List.getElem?_eq_some_iff.1 hu).1; simpa using this
    subst hj
    simp only [List.getElem?_cons_zero, Option.some.injEq] at hu
    subst hu
    exact hc
  · simp at hu; subst hu; rfl
  · unfold RowQ
    rw [List.length_append, List.map_append]
    exact h1'
  · exact ⟨h2'.os, h2'.tape, h2'.output, h2'.size, fun q hq => h2'.block q (by omega) (fun e => by have := (World.ownsRow.lt hown q e.symm).1; omega)⟩
def natsQ (l : List Nat) : List Int := l.map fun n : Nat => (n : Int)
theorem natsQ_at {l : List Nat} {x : Nat} (h : x < l.length) : (natsQ l)[x]? = some ((l.getD x 0 : Nat) : Int) := by
  unfold natsQ
  rw [List.getElem?_map, List.getElem?_eq_getElem h, List.getD_eq_getElem?_getD, List.getElem?_eq_getElem h]
  rfl
set_option maxRecDepth 100000 in
set_option maxHeartbeats 4000000 in
theorem refOpen_any (v : Value) (l : List Int) (hl : l.length ≤ 64) (hm : OkQ l) (w : World) (h : RefG w v l) :
    Calls Try.prog 58 #[v] w fun e w' => ∃ v', e = .returned v' ∧ RowQ w.heap.size w' v' (natsQ (openL l)) ∧ Adds w w' := by
  obtain ⟨g, cap, rfl⟩ := h.val
  obtain ⟨wa, hwa⟩ : ∃ wa, w.alloc (.cells #[.slice (some ⟨g, 0, none⟩) l.length cap] 53) = wa := ⟨_, rfl⟩
  have HA := Lib.hid (show Adds w wa by rw [← hwa]; exact (Gr.new _ _).adds)
  have HB := Lib.hid (show BkS 53 wa w.heap.size [.slice (some ⟨g, 0, none⟩) l.length cap] by rw [← hwa]; exact BkS.new _ _ _)
  have HR := Lib.hid (h.adds HA.out).cells.2
  have HL := Lib.hid hl; have HF := Lib.hid hm
  obtain ⟨N, hN⟩ : ∃ N, l.length = N := ⟨_, rfl⟩
  have HN := Lib.hid hN
  obtain ⟨n0, hn0⟩ : ∃ n0, w.heap.size = n0 := ⟨_, rfl⟩
  have HN0 := Lib.hid hn0
  obtain ⟨nb, hnb⟩ : ∃ nb, wa.heap.size = nb := ⟨_, rfl⟩
  have HNB := Lib.hid hnb
  rw [hN] at hwa HB
  rw [hn0] at HB
  simp only [hN]
  clear h hl hm hN
  go_enter Try.func58, Try.ntmps58
  go_wp2
  clear hwa hn0 hnb
  go_loopw [3, 4] (fun ov iv wr => ∃ k : Nat, iv = .int .i64 k ∧ k ≤ N ∧ RowQ nb wr ov (natsQ (upO l k)) ∧ Adds wa wr) (fun _ iv _ => N + 1 - (intOf iv).toNat)
  case atStart => exact ⟨0, rfl, Nat.zero_le _, RowQ.nil _ _, Adds.refl _⟩
  case round =>
    obtain ⟨k, rfl, hk, hI, hA⟩ := hrel
    obtain ⟨ao1, cp1, e1, _, _⟩ := hI.form
    subst e1
    have HI := Lib.hid hI; have HAr := Lib.hid hA
    have hNI : (N : Int) ≤ 64 := by have := HL.out; have := HN.out; omega
    have cb : wr.cell? ⟨n0, 0, none⟩ = some (.slice (some ⟨g, 0, none⟩) N cap) := (HB.out.adds hA).cell 0
    clear hI hA
    by_cases hlt : k < N
    · have r0 : wr.cell? ⟨g, k, none⟩ = some (.int .i64 (gQ l k)) := Adds.cellAt HAr.out (HR.out k (by rw [HN.out]; exact hlt))
      have hg0 : 0 ≤ gQ l k := by have := (atQ_may HF.out (k : Int)).1; rw [atQ_nat] at this; exact this
      have hkI : (k : Int) < (N : Int) := by omega
      have HLt := Lib.hid hlt
      have hkN : ¬ N ≤ k := by omega
      have hk0 : ¬ (k : Int) < 0 := by omega
      by_cases ht : gQ l k = 0
      · have HU := Lib.hid (show natsQ (upO l (k + 1)) = natsQ (upO l k) by rw [upO_succ, if_pos (show l.getD k 0 = 0 from ht)]; simp)
        rw [ht] at r0
        clear hk hlt ht hg0
        go_wp2
        go_roundw
        case rel => exact ⟨k + 1, by go_num, HLt.out, by rw [HU.out]; exact HI.out, HAr.out⟩
        case measure => have := HLt.out; simp [intOf]; omega
      · have HU := Lib.hid (show natsQ (upO l (k + 1)) = natsQ (upO l k) ++ [(k : Int)] by rw [upO_succ, if_neg (show ¬ l.getD k 0 = 0 from ht)]; simp [natsQ])
        have HLE := Lib.hid (show (natsQ (upO l k)).length ≤ 1000 by
          have h1 : (upO l k).length ≤ k := by unfold upO; exact Nat.le_trans (List.length_filter_le _ _) (by simp)
          have := HL.out; have := HN.out
          simp [natsQ]; omega)
        have HLW := Lib.hid (show nb ≤ wr.heap.size by rw [← HNB.out]; exact HAr.out.size)
        have hzp : (0 : Int) < gQ l k := by omega
        generalize gQ l k = c at *
        clear hk hlt ht hg0
        go_wp2_with (at_builtin; refine wpQ_one rfl _ _ rfl nb _ (natsQ (upO l k)) rfl (by exact HI.out.adds (Gr.new _ _).adds) wr.heap.size (k : Int) rfl ((BkS.new 3 wr [.int .i64 (k : Int)]).cell 0) HLE.out (by exact Nat.le_trans HLW.out (Gr.new wr _).adds.size) ?_; intro v2 w2 o2 b2; have O2 := Lib.hid o2; have A2 := Lib.hid (belQ_adds (Adds.trans HAr.out (Gr.new wr _).adds) b2 (Nat.le_of_eq HNB.out)); clear o2 b2)
        go_roundw
        case rel => exact ⟨k + 1, by go_num, HLt.out, by rw [HU.out]; exact O2.out, A2.out⟩
        case measure => have := HLt.out; simp [intOf]; omega
    · have hkI : ¬ (k : Int) < (N : Int) := by omega
      have HE := Lib.hid (show k = N by omega)
      clear hlt hk
      go_wp2
      go_ret
      rw [HN0.out]
      exact ⟨_, rfl, by unfold openL; rw [HN.out, ← HE.out]; exact HI.out.lower (by rw [← HN0.out, ← HNB.out]; exact HA.out.size), Adds.trans HA.out HAr.out⟩
end Go.Proofs.Ytedllkahalfjgaa
