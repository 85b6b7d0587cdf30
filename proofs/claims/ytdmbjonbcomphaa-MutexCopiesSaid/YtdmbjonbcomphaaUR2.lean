/- The document's with, Lock, Unlock, Holder: their contracts. -/
import Derived.Test.YtdmbjonbcomphaaUK2
import Derived.Test.YtdmbjonbcomphaaUR1
namespace Go.Proofs.Ytdmbjonbcomphaa
open Go Go.RowKit Go.Maps

theorem iVs (l : List Int) (k : Nat) (u : Value) (h : (l.map iV)[k]? = some u) : k < l.length ∧ u = .int .i64 (l.getD k 0) := by
  have hk : k < l.length := by
    rcases Nat.lt_or_ge k l.length with h1 | h1
    · exact h1
    · rw [List.getElem?_eq_none (by simpa using h1)] at h; cases h
  rw [List.getElem?_map, List.getElem?_eq_getElem hk] at h
  simp only [Option.map_some, Option.some.injEq] at h
  exact ⟨hk, by rw [← h, List.getD_eq_getElem?_getD, List.getElem?_eq_getElem hk]; rfl⟩
theorem wpList_appI {ops : Array Oper} {rest : List Oper} {o : Oper} {a : Act} {w : World} {Q : Exit → Act → World → Prop} (hg : o.guard = none) (s x : Operand)
    (ho : o.op = .call { callee := .builtin .append, args := #[s, x], argTypes := #[28, 28] }) (n2 : Nat) (hs : a.eval s = .slice (some ⟨n2, 0, none⟩) 0 0) (hown : w.ownsRow n2 3 1 (.slice (some ⟨n2, 0, none⟩) 0 0) 0 [])
    (g cap : Nat) (l : List Int) (hx : a.eval x = .slice (some ⟨g, 0, none⟩) l.length cap) (hc : ∀ k, k < l.length → w.cell? ⟨g, k, none⟩ = some (.int .i64 (l.getD k 0))) (hl : l.length ≤ 64) (h0 : l ≠ []) (hb : n2 ≤ w.heap.size)
    (K : ∀ g3 cap3 w3, n2 ≤ g3 → RefM w3 (.agg #[.slice (some ⟨g3, 0, none⟩) l.length cap3]) l → w.grownBy w3 (some n2) → wpList Try.prog ops Q rest (a.put o.dst (.slice (some ⟨g3, 0, none⟩) l.length cap3)) w3) : wpList Try.prog ops Q (o :: rest) a w := by
  obtain ⟨i0, hi, hz0, hz1, hz2⟩ := info_parts infoI64
  have hpos : 0 < l.length := List.length_pos_iff.2 h0
  refine wpList_append_own _ hg s x 28 ho n2 3 i0 (.int .i64 0) 1 8 Try.underlying28 hi hz0 hz1 hz2 rfl (by decide) _ 0 [] hs hown ⟨g, 0, none⟩ l.length cap (l.map iV) hx (by simp) (fun j u hu => ?_) ?_ (by unfold maxLen; omega) (by omega) hb ?_
  · obtain ⟨h1, rfl⟩ := iVs l j u hu
    have e : (⟨g, 0, none⟩ : Addr).add j = ⟨g, j, none⟩ := by unfold Addr.add; split <;> simp_all
    rw [e]
    exact hc j h1
  · intro u hu
    obtain ⟨y, _, rfl⟩ := List.mem_map.1 hu
    simp [iV, Value.oneCell']
  · intro v' w3 ho3 hg3 _
    rcases ho3.2 with ⟨_, h1⟩ | ⟨g3, cap3, cur3, h1, h2, h3, h4, h5, h6, h7⟩
    · exact absurd h1 (by omega)
    · simp only [Nat.zero_add, List.nil_append, Nat.mul_one] at h1 h4 h7 h6
      subst h1
      refine K g3 cap3 w3 h2 ⟨g3, cap3, rfl, cur3, h3, h4, h5, h6, fun k hk => ?_⟩ hg3
      have h8 := congrArg (fun l => l[k]?) h7
      simp only [List.getElem?_take_of_lt hk, List.getElem?_map, List.getElem?_eq_getElem hk, Option.map_some] at h8
      rw [← Array.getElem?_toList, h8]
      simp [iV, List.getD_eq_getElem?_getD, hk]
/-- One of a row that the call has made is another one. -/
theorem RefM.set {w : World} {g n cap : Nat} {l : List Int} (h : RefM w (.agg #[.slice (some ⟨g, 0, none⟩) n cap]) l) {k : Nat} (hk : k < l.length) (x : Int) : RefM (w.setCell ⟨g, k, none⟩ (.int .i64 x)) (.agg #[.slice (some ⟨g, 0, none⟩) n cap]) (l.set k x) := by
  obtain ⟨g', cap', e, cur, hg, h1, h2, h3, hc⟩ := h
  simp only [Value.agg.injEq, Array.mk.injEq, List.cons.injEq, Value.slice.injEq, Option.some.injEq, Addr.mk.injEq, and_true] at e
  obtain ⟨rfl, rfl, rfl⟩ := e
  refine ⟨g, cap, by simp, cur.setIfInBounds k (.int .i64 x), ?_, by simpa using h1, h2, by simpa using h3, fun j hj => ?_⟩
  · simp only [World.setCell, Array.getElem?_modify, hg]
    simp
  · simp only [List.length_set] at hj
    by_cases e : k = j
    · subst e
      simp [show k < cur.size by omega, List.getD_eq_getElem?_getD, hj]
    · rw [Array.getElem?_setIfInBounds_ne e, hc j hj, List.getD_eq_getElem?_getD, List.getD_eq_getElem?_getD, List.getElem?_set_ne e]
theorem RefM.free {w : World} {g n cap : Nat} {l : List Int} (h : RefM w (.agg #[.slice (some ⟨g, 0, none⟩) n cap]) l) (k : Nat) : w.frozen? ⟨g, k, none⟩ = false := by
  obtain ⟨g', cap', e, cur, hg, _⟩ := h
  simp only [Value.agg.injEq, Array.mk.injEq, List.cons.injEq, Value.slice.injEq, Option.some.injEq, Addr.mk.injEq, and_true] at e
  obtain ⟨rfl, _⟩ := e
  simp [World.frozen?, hg]
set_option maxRecDepth 100000 in
set_option maxHeartbeats 2000000 in
theorem with_any (v : Value) (l : List Int) (k : Nat) (hk : k < l.length) (hl : l.length ≤ 64) (x : Int) (w : World) (h : RefM w v l) :
    Calls Try.prog 35 #[v, .int .i64 (k : Int), .int .i64 x] w fun e w' => ∃ v', e = .returned v' ∧ RefM w' v' (l.set k x) ∧ Adds w w' := by
  obtain ⟨g, cap, rfl⟩ := h.val
  obtain ⟨wa, hwa⟩ : ∃ wa, w.alloc (.cells #[.slice (some ⟨g, 0, none⟩) l.length cap] 30) = wa := ⟨_, rfl⟩
  have hA : Adds w wa := by rw [← hwa]; exact (Gr.new _ _).adds
  have ba : BkS 30 wa w.heap.size [.slice (some ⟨g, 0, none⟩) l.length cap] := by rw [← hwa]; exact BkS.new _ _ _
  have hsa : wa.heap.size = w.heap.size + 1 := by rw [← hwa]; simp
  obtain ⟨wb, hwb⟩ : ∃ wb, wa.alloc (.cells #[.slice none 0 0] 30) = wb := ⟨_, rfl⟩
  have hB : Adds wa wb := by rw [← hwb]; exact (Gr.new _ _).adds
  have bb : BkS 30 wb wa.heap.size [.slice none 0 0] := by rw [← hwb]; exact BkS.new _ _ _
  have hsb : wb.heap.size = wa.heap.size + 1 := by rw [← hwb]; simp
  obtain ⟨wc, hwc⟩ : ∃ wc, wb.alloc (.cells #[] 3) = wc := ⟨_, rfl⟩
  have hC : Adds wb wc := by rw [← hwc]; exact (Gr.new _ _).adds
  have ho : wc.ownsRow wb.heap.size 3 1 (.slice (some ⟨wb.heap.size, 0, none⟩) 0 0) 0 [] := by
    have := World.ownsRow_lit (size := 1) (e := 3) wb #[] 0 (Nat.le_refl _) (by unfold maxLen; omega) (by simp)
    rw [hwc] at this
    simpa using this
  have bac := (ba.adds hB).adds hC
  have bbc := bb.adds hC
  have HR := Lib.hid (((h.adds hA).adds hB).adds hC).cells.2
  have HAC := Lib.hid (Adds.trans hA (Adds.trans hB hC))
  have HS := Lib.hid (And.intro hsa hsb)
  have HBa := Lib.hid bac; have HBb := Lib.hid bbc; have HO := Lib.hid ho
  have HK := Lib.hid hk; have HL := Lib.hid hl
  have ca : wc.cell? ⟨w.heap.size, 0, none⟩ = some (.slice (some ⟨g, 0, none⟩) l.length cap) := bac.cell 0
  obtain ⟨n1, hn1⟩ : ∃ n1, wa.heap.size = n1 := ⟨_, rfl⟩
  obtain ⟨n2, hn2⟩ : ∃ n2, wb.heap.size = n2 := ⟨_, rfl⟩
  have HS2 := Lib.hid (And.intro hn1 hn2)
  have hkI : (k : Int) < (l.length : Int) := by omega
  clear h hA ba hB bb hC ho bac bbc hk hl hsa hsb
  rw [hn1] at HBb HS
  rw [hn2] at HO HS
  go_enter Try.func35, Try.ntmps35
  have HI := Lib.hid (show l ≠ [] by rintro rfl; exact absurd HK.out (by simp))
  have HCZ := Lib.hid (show n2 ≤ wc.drew.heap.size by rw [← HS2.out.2, ← hwc]; simp [World.drew])
  go_wp2_with (at_builtin; refine wpList_appI rfl _ _ rfl n2 rfl (by exact HO.out) g cap l rfl HR.out HL.out HI.out (by have := HAC.out.size; have := HCZ.out; exact this) ?_; intro g3 cap3 w3 h3 hr3 hg3; have H3 := Lib.hid h3; have HR3 := Lib.hid hr3; have HG3 := Lib.hid hg3; have hs3 := (hr3.cells.2 k HK.out); have hf3 : w3.frozen? ⟨g3, k, none⟩ = false := hr3.free k; have hbb : BkS 30 w3 n1 [.slice none 0 0] := (hg3.block n1 HBb.out.lt (fun e => by cases e; have := HS.out; omega)).trans HBb.out; have hb4 := hbb.other (c := g3) (i := k) (by have := HS.out; omega) (.int .i64 x); have HB4 := Lib.hid hb4; have d1 : (w3.setCell ⟨g3, k, none⟩ (.int .i64 x)).cell? ⟨n1, 0, none⟩ = some (.slice none 0 0) := hb4.cell 0; have f1 := hb4.free 0; clear h3 hr3 hg3 hbb hb4)
  have hne : n1 ≠ g3 := by have := HS.out; have := H3.out; omega
  have ha3 : Adds w w3 := ⟨HG3.out.os.trans HAC.out.os, HG3.out.tape.trans HAC.out.tape, HG3.out.output.trans HAC.out.output, Nat.le_trans HAC.out.size HG3.out.size, fun i hi => (HG3.out.block i (Nat.lt_of_lt_of_le hi HAC.out.size) (fun e => by cases e; have := HS.out; omega)).trans (HAC.out.block i hi)⟩
  refine bodyPost_ret (res_box rfl _ _ _ _ _ _ _ rfl (HB4.out.set 0 (.slice (some ⟨g3, 0, none⟩) l.length cap3)) Try.underlying30 rfl (by kernel_rfl)) rfl ?_
  exact ⟨_, rfl, (HR3.out.set HK.out x).keep (fun g cur hg => Below.heap_setCell _ _ _ _ (fun e => by
    rw [e] at hg
    have h5 := HB4.out
    unfold BkS at h5
    rw [h5] at hg
    injection hg with h6
    injection h6 with _ h7
    exact absurd h7 (by decide))), Adds.set (Adds.set ha3 (by have := H3.out; have := HS.out; omega) k _) (by have := HS.out; omega) 0 _⟩
end Go.Proofs.Ytdmbjonbcomphaa
