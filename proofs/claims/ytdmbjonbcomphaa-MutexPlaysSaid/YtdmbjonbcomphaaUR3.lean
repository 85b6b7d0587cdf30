/- The document's Lock, Unlock, Holder: their contracts. -/
import Derived.Test.YtdmbjonbcomphaaUR2
namespace Go.Proofs.Ytdmbjonbcomphaa
open Go Go.RowKit Go.Maps

def RefGo (w : World) (l' : List Int) (r : Value → Value) (e : Ending) (w' : World) : Prop := ∃ v', e = .returned (r v') ∧ RefM w' v' l' ∧ Adds w w'
theorem atL_cell {w : World} {g n cap : Nat} {l : List Int} (h : RefM w (.agg #[.slice (some ⟨g, 0, none⟩) n cap]) l) {i : Int} (h0 : 0 ≤ i) (h1 : i < l.length) : ∃ k : Nat, i = k ∧ k < l.length ∧ w.cell? ⟨g, k, none⟩ = some (.int .i64 (atL l i)) := by
  refine ⟨i.toNat, by omega, by omega, ?_⟩
  rw [h.cells.2 _ (by omega), ← atL_nat, show ((i.toNat : Nat) : Int) = i by omega]
theorem RefM.far {w : World} {v : Value} {l : List Int} {b : Nat} {c : List Value} (h : RefM w v l) (hb : BkS 30 w b c) (i : Nat) (x : Value) : RefM (w.setCell ⟨b, i, none⟩ x) v l := h.keep fun g cur hg => Below.heap_setCell _ _ _ _ (fun e => by
  rw [e] at hg
  unfold BkS at hb
  rw [hb] at hg
  injection hg with h6
  injection h6 with _ h7
  exact absurd h7 (by decide))
set_option maxRecDepth 100000 in
set_option maxHeartbeats 4000000 in
theorem refLock_any (v : Value) (l : List Int) (hl : l.length ≤ 64) (hm : ∀ x ∈ l, 0 ≤ x ∧ x ≤ 65536) (i c : Int) (w : World) (h : RefM w v l) :
    Calls Try.prog 22 #[v, .int .i64 i, .int .i64 c] w (RefGo w (lockL l i c) fun v' => .tuple #[v', .int .i64 (lockE l i c)]) := by
  obtain ⟨g, cap, rfl⟩ := h.val
  obtain ⟨wa, hwa⟩ : ∃ wa, w.alloc (.cells #[.slice (some ⟨g, 0, none⟩) l.length cap] 30) = wa := ⟨_, rfl⟩
  have hA : Adds w wa := by rw [← hwa]; exact (Gr.new _ _).adds
  have ba : BkS 30 wa w.heap.size [.slice (some ⟨g, 0, none⟩) l.length cap] := by rw [← hwa]; exact BkS.new _ _ _
  obtain ⟨wb, hwb⟩ : ∃ wb, wa.alloc (.cells #[.slice none 0 0] 30) = wb := ⟨_, rfl⟩
  have hB : Adds wa wb := by rw [← hwb]; exact (Gr.new _ _).adds
  have bb : BkS 30 wb wa.heap.size [.slice none 0 0] := by rw [← hwb]; exact BkS.new _ _ _
  have hsa : wa.heap.size = w.heap.size + 1 := by rw [← hwa]; simp
  obtain ⟨n1, hn1⟩ : ∃ n1, wa.heap.size = n1 := ⟨_, rfl⟩
  rw [hn1] at bb hsa
  have ba := ba.adds hB
  have hR := (h.adds hA).adds hB
  have HR := Lib.hid hR
  have HA := Lib.hid (Adds.trans hA hB)
  have HB := Lib.hid bb
  have HS := Lib.hid hsa
  have ca : wb.cell? ⟨w.heap.size, 0, none⟩ = some (.slice (some ⟨g, 0, none⟩) l.length cap) := ba.cell 0
  have cb : wb.cell? ⟨n1, 0, none⟩ = some (.slice none 0 0) := bb.cell 0
  have fb := bb.free 0
  have hlI : (l.length : Int) ≤ 64 := by omega
  have HV := Lib.hid hm
  have HG := Lib.hid (show g < w.heap.size by obtain ⟨g', cap', e, cur, hg, _⟩ := h; simp only [Value.agg.injEq, Array.mk.injEq, List.cons.injEq, Value.slice.injEq, Option.some.injEq, Addr.mk.injEq, and_true, true_and] at e; obtain ⟨rfl, _⟩ := e; exact (Array.getElem?_eq_some_iff.1 hg).1)
  clear hA ba hB bb hR hsa h hm
  unfold lockL
  by_cases hc : 0 ≤ c ∧ c ≤ 65535
  · have hc1 : ¬ c < 0 := by omega
    have hc2 : ¬ 65535 < c := by omega
    by_cases hi : 0 ≤ i ∧ i < l.length
    · obtain ⟨k, rfl, hk, cg⟩ := atL_cell HR.out hi.1 hi.2
      have hk0 : ¬ ((k : Nat) : Int) < 0 := by omega
      have hk1 : ((k : Nat) : Int) < (l.length : Int) := by omega
      by_cases hn : atL l (k : Int) = 0
      · rw [show lockE l (k : Int) c = 0 by unfold lockE; rw [if_pos hc, if_pos hi, if_pos hn], if_pos rfl]
        rw [hn] at cg
        have HW := Lib.hid (with_any _ l k hk hl (c + 1) wb HR.out)
        have hcI : c ≤ 65535 := hc.2
        have hcJ : 0 ≤ c := hc.1
        clear hc hi hn hk hl
        go_enter Try.func22, Try.ntmps22
        go_wp2_with (go_at_call 35; refine HW.out.mono ?_; rintro e w3 ⟨v3, rfl, h1, h2⟩; obtain ⟨g3, cap3, rfl⟩ := h1.val; have HB3 := Lib.hid (HB.out.adds h2); have d0 : w3.cell? ⟨n1, 0, none⟩ = some (.slice none 0 0) := HB3.out.cell 0; have f0 := HB3.out.free 0; have H1 := Lib.hid h1; have H2 := Lib.hid h2; clear h1 h2)
        refine bodyPost_ret (res_box2 rfl _ _ _ _ _ _ _ rfl (HB3.out.set 0 (.slice (some ⟨g3, 0, none⟩) l.length cap3)) Try.underlying30 rfl (by kernel_rfl)) rfl ?_
        rw [Int.toNat_natCast]
        have h1 := H1.out
        rw [List.length_set] at h1
        exact ⟨_, rfl, h1.far HB3.out 0 _, Adds.set (Adds.trans HA.out H2.out) (by have := HS.out; omega) 0 _⟩
      · have hE : lockE l (k : Int) c = 230 := by unfold lockE; rw [if_pos hc, if_pos hi, if_neg hn]
        rw [hE, if_neg (by decide)]
        have hp : 0 < atL l (k : Int) := by have := (atL_may HV.out (k : Int)).1; omega
        generalize atL l (k : Int) = y at *
        clear hc hi hn hk hl hE
        go_enter Try.func22, Try.ntmps22
        go_wp2
        refine bodyPost_ret (res_box2 rfl _ _ _ _ _ _ _ rfl (HB.out.set 0 (.slice (some ⟨g, 0, none⟩) l.length cap)) Try.underlying30 rfl (by kernel_rfl)) rfl ?_
        exact ⟨_, rfl, HR.out.far HB.out 0 _, Adds.set HA.out (by have := HS.out; omega) 0 _⟩
    · have hE : lockE l i c = 4 := by unfold lockE; rw [if_pos hc, if_neg hi]
      rw [hE, if_neg (by decide)]
      by_cases h1 : i < 0
      · clear hc hi hl hE
        go_enter Try.func22, Try.ntmps22
        go_wp2
        refine bodyPost_ret (res_box2 rfl _ _ _ _ _ _ _ rfl (HB.out.set 0 (.slice (some ⟨g, 0, none⟩) l.length cap)) Try.underlying30 rfl (by kernel_rfl)) rfl ?_
        exact ⟨_, rfl, HR.out.far HB.out 0 _, Adds.set HA.out (by have := HS.out; omega) 0 _⟩
      · have h2 : ¬ i < (l.length : Int) := by omega
        clear hc hi hl hE
        go_enter Try.func22, Try.ntmps22
        go_wp2
        refine bodyPost_ret (res_box2 rfl _ _ _ _ _ _ _ rfl (HB.out.set 0 (.slice (some ⟨g, 0, none⟩) l.length cap)) Try.underlying30 rfl (by kernel_rfl)) rfl ?_
        exact ⟨_, rfl, HR.out.far HB.out 0 _, Adds.set HA.out (by have := HS.out; omega) 0 _⟩
  · have hE : lockE l i c = 2 := by unfold lockE; rw [if_neg hc]
    rw [hE, if_neg (by decide)]
    by_cases h1 : c < 0
    · clear hc hl hE
      go_enter Try.func22, Try.ntmps22
      go_wp2
      refine bodyPost_ret (res_box2 rfl _ _ _ _ _ _ _ rfl (HB.out.set 0 (.slice (some ⟨g, 0, none⟩) l.length cap)) Try.underlying30 rfl (by kernel_rfl)) rfl ?_
      exact ⟨_, rfl, HR.out.far HB.out 0 _, Adds.set HA.out (by have := HS.out; omega) 0 _⟩
    · have h2 : 65535 < c := by omega
      clear hc hl hE
      go_enter Try.func22, Try.ntmps22
      go_wp2
      refine bodyPost_ret (res_box2 rfl _ _ _ _ _ _ _ rfl (HB.out.set 0 (.slice (some ⟨g, 0, none⟩) l.length cap)) Try.underlying30 rfl (by kernel_rfl)) rfl ?_
      exact ⟨_, rfl, HR.out.far HB.out 0 _, Adds.set HA.out (by have := HS.out; omega) 0 _⟩
theorem res_box3U {P : Program} {fn : Func} {p q r : Tmp} {ty : TypeId} (h : fn.results = #[.cell p ty, .tmp q, .tmp r]) (tmps : Array Value) (w : World) (g : Nat) (cs : Array Value) (t : TypeId) (fr : Nat × Nat) (d : TypeDesc) (hp : tmps.getD p undef = .pointer (some ⟨g, 0, none⟩))
    (hg : w.heap[g]? = some (.cells cs t fr)) (hu : P.underlying ty = some d) (hd : (match d with | .struct _ | .array _ _ => true | _ => false) = true) (hi : (P.info? ty).map (·.size) = some cs.size) : (results fn tmps).run P w = .ok (.tuple #[.agg cs, tmps.getD q undef, tmps.getD r undef]) w := by
  have hp' : tmps[p]?.getD undef = .pointer (some ⟨g, 0, none⟩) := by simpa using hp
  simp [results, h, hp', asAddr, run_loadVar_row (P := P) w g t ty cs fr d hg hu hd hi]
set_option maxRecDepth 100000 in
set_option maxHeartbeats 4000000 in
theorem refUnlock_any (v : Value) (l : List Int) (hl : l.length ≤ 64) (hm : ∀ x ∈ l, 0 ≤ x ∧ x ≤ 65536) (i : Int) (w : World) (h : RefM w v l) :
    Calls Try.prog 23 #[v, .int .i64 i] w (RefGo w (unlockL l i) fun v' => .tuple #[v', .int .i64 (unlockW l i), .int .i64 (unlockE l i)]) := by
  obtain ⟨g, cap, rfl⟩ := h.val
  obtain ⟨wa, hwa⟩ : ∃ wa, w.alloc (.cells #[.slice (some ⟨g, 0, none⟩) l.length cap] 30) = wa := ⟨_, rfl⟩
  have hA : Adds w wa := by rw [← hwa]; exact (Gr.new _ _).adds
  have ba : BkS 30 wa w.heap.size [.slice (some ⟨g, 0, none⟩) l.length cap] := by rw [← hwa]; exact BkS.new _ _ _
  obtain ⟨wb, hwb⟩ : ∃ wb, wa.alloc (.cells #[.slice none 0 0] 30) = wb := ⟨_, rfl⟩
  have hB : Adds wa wb := by rw [← hwb]; exact (Gr.new _ _).adds
  have bb : BkS 30 wb wa.heap.size [.slice none 0 0] := by rw [← hwb]; exact BkS.new _ _ _
  have hsa : wa.heap.size = w.heap.size + 1 := by rw [← hwa]; simp
  obtain ⟨n1, hn1⟩ : ∃ n1, wa.heap.size = n1 := ⟨_, rfl⟩
  rw [hn1] at bb hsa
  have ba := ba.adds hB
  have hR := (h.adds hA).adds hB
  have HR := Lib.hid hR
  have HA := Lib.hid (Adds.trans hA hB)
  have HB := Lib.hid bb
  have HS := Lib.hid hsa
  have ca : wb.cell? ⟨w.heap.size, 0, none⟩ = some (.slice (some ⟨g, 0, none⟩) l.length cap) := ba.cell 0
  have cb : wb.cell? ⟨n1, 0, none⟩ = some (.slice none 0 0) := bb.cell 0
  have fb := bb.free 0
  have hlI : (l.length : Int) ≤ 64 := by omega
  have HV := Lib.hid hm
  have HG := Lib.hid (show g < w.heap.size by obtain ⟨g', cap', e, cur, hg, _⟩ := h; simp only [Value.agg.injEq, Array.mk.injEq, List.cons.injEq, Value.slice.injEq, Option.some.injEq, Addr.mk.injEq, and_true, true_and] at e; obtain ⟨rfl, _⟩ := e; exact (Array.getElem?_eq_some_iff.1 hg).1)
  clear hA ba hB bb hR hsa h hm
  unfold unlockL unlockW
  by_cases hi : 0 ≤ i ∧ i < l.length
  · obtain ⟨k, rfl, hk, cg⟩ := atL_cell HR.out hi.1 hi.2
    have hk0 : ¬ ((k : Nat) : Int) < 0 := by omega
    have hk1 : ((k : Nat) : Int) < (l.length : Int) := by omega
    by_cases hn : atL l (k : Int) = 0
    · have hE : unlockE l (k : Int) = 231 := by unfold unlockE; rw [if_pos hi, if_pos hn]
      rw [hE, if_neg (by decide), if_neg (by decide)]
      rw [hn] at cg
      clear hi hn hk hl hE
      go_enter Try.func23, Try.ntmps23
      go_wp2
      refine bodyPost_ret (res_box3U rfl _ _ _ _ _ _ _ rfl (HB.out.set 0 (.slice (some ⟨g, 0, none⟩) l.length cap)) Try.underlying30 rfl (by kernel_rfl)) rfl ?_
      exact ⟨_, rfl, HR.out.far HB.out 0 _, Adds.set HA.out (by have := HS.out; omega) 0 _⟩
    · have hE : unlockE l (k : Int) = 0 := by unfold unlockE; rw [if_pos hi, if_neg hn]
      rw [hE, if_pos rfl, if_pos rfl]
      have hb1 := (atL_may HV.out (k : Int))
      obtain ⟨hb1, hb2⟩ := hb1
      have hcl := Lib.hid (fun (W : World) (hW : Adds wb W) => show W.cell? ⟨g, k, none⟩ = some (.int .i64 (atL l (k : Int))) from hW.cellAt cg)
      have HK := Lib.hid hk; have HL := Lib.hid hl
      generalize atL l (k : Int) = y at *
      have hyn : (y == 0) = false := by simpa using hn
      have HW := Lib.hid (fun W (hW : Adds wb W) => with_any _ l k HK.out HL.out 0 W (HR.out.adds hW))
      clear hi hk hl hE hn
      go_enter Try.func23, Try.ntmps23
      go_wp2
      have ca2 : wb.drew.cell? ⟨w.heap.size, 0, none⟩ = some (.slice (some ⟨g, 0, none⟩) l.length cap) := ca
      have cg2 : wb.drew.cell? ⟨g, k, none⟩ = some (.int .i64 y) := cg
      have hwr : IntKind.i64.wrap (y - 1) = y - 1 := by rw [IntKind.wrap_i64]; omega
      have hgn : ¬ g = n1 := by have := HG.out; have := HS.out; omega
      have hng : ¬ n1 = g := by have := HG.out; have := HS.out; omega
      have hwn : ¬ w.heap.size = n1 := by have := HS.out; omega
      have hnw : ¬ n1 = w.heap.size := by have := HS.out; omega
      go_region_with (go_at_call 35; refine (HW.out _ (Adds.drew wb)).mono ?_; rintro e w3 ⟨v3, rfl, h1, h2⟩; obtain ⟨g3, cap3, rfl⟩ := h1.val; have h5 := Adds.trans (Adds.drew wb) h2; have HB3 := Lib.hid (HB.out.adds h5); have ca3 : w3.cell? ⟨w.heap.size, 0, none⟩ = some (.slice (some ⟨g, 0, none⟩) l.length cap) := h5.cellAt ca; have cg3 := hcl.out w3 h5; have d0 : w3.cell? ⟨n1, 0, none⟩ = some (.slice none 0 0) := HB3.out.cell 0; have f0 := HB3.out.free 0; have H1 := Lib.hid h1; have H2 := Lib.hid h5; clear h1 h2 h5)
      all_goals
        simp only [Exit.then]
        go_simp
        go_wp2
        refine bodyPost_ret (res_box3U rfl _ _ _ _ _ _ _ rfl (HB3.out.set 0 (.slice (some ⟨g3, 0, none⟩) l.length cap3)) Try.underlying30 rfl (by kernel_rfl)) rfl ?_
        rw [Int.toNat_natCast]
        have h1 := H1.out
        rw [List.length_set] at h1
        exact ⟨_, rfl, h1.far HB3.out 0 _, Adds.set (Adds.trans HA.out H2.out) (by have := HS.out; omega) 0 _⟩
  · have hE : unlockE l i = 4 := by unfold unlockE; rw [if_neg hi]
    rw [hE, if_neg (by decide), if_neg (by decide)]
    by_cases h1 : i < 0
    · clear hi hl hE
      go_enter Try.func23, Try.ntmps23
      go_wp2
      refine bodyPost_ret (res_box3U rfl _ _ _ _ _ _ _ rfl (HB.out.set 0 (.slice (some ⟨g, 0, none⟩) l.length cap)) Try.underlying30 rfl (by kernel_rfl)) rfl ?_
      exact ⟨_, rfl, HR.out.far HB.out 0 _, Adds.set HA.out (by have := HS.out; omega) 0 _⟩
    · have h2 : ¬ i < (l.length : Int) := by omega
      clear hi hl hE
      go_enter Try.func23, Try.ntmps23
      go_wp2
      refine bodyPost_ret (res_box3U rfl _ _ _ _ _ _ _ rfl (HB.out.set 0 (.slice (some ⟨g, 0, none⟩) l.length cap)) Try.underlying30 rfl (by kernel_rfl)) rfl ?_
      exact ⟨_, rfl, HR.out.far HB.out 0 _, Adds.set HA.out (by have := HS.out; omega) 0 _⟩
set_option maxRecDepth 100000 in
set_option maxHeartbeats 4000000 in
theorem refHolder_any (v : Value) (l : List Int) (hl : l.length ≤ 64) (hm : ∀ x ∈ l, 0 ≤ x ∧ x ≤ 65536) (i : Int) (w : World) (h : RefM w v l) :
    Calls Try.prog 24 #[v, .int .i64 i] w fun e w' => e = .returned (.tuple #[.int .i64 (whoL l i), .bool (decide (atL l i ≠ 0))]) ∧ Adds w w' := by
  obtain ⟨g, cap, rfl⟩ := h.val
  obtain ⟨wa, hwa⟩ : ∃ wa, w.alloc (.cells #[.slice (some ⟨g, 0, none⟩) l.length cap] 30) = wa := ⟨_, rfl⟩
  have hA : Adds w wa := by rw [← hwa]; exact (Gr.new _ _).adds
  have ba : BkS 30 wa w.heap.size [.slice (some ⟨g, 0, none⟩) l.length cap] := by rw [← hwa]; exact BkS.new _ _ _
  have hR := h.adds hA
  have HR := Lib.hid hR
  have HA := Lib.hid hA
  have ca : wa.cell? ⟨w.heap.size, 0, none⟩ = some (.slice (some ⟨g, 0, none⟩) l.length cap) := ba.cell 0
  have hlI : (l.length : Int) ≤ 64 := by omega
  have HV := Lib.hid hm
  clear hA ba hR h hm
  unfold whoL
  by_cases hi : 0 ≤ i ∧ i < l.length
  · obtain ⟨k, rfl, hk, cg⟩ := atL_cell HR.out hi.1 hi.2
    have hk0 : ¬ ((k : Nat) : Int) < 0 := by omega
    have hk1 : ((k : Nat) : Int) < (l.length : Int) := by omega
    obtain ⟨hb1, hb2⟩ := (atL_may HV.out (k : Int))
    generalize atL l (k : Int) = y at *
    by_cases hn : y = 0
    · subst hn
      rw [if_pos rfl]
      clear hi hk hl
      go_enter Try.func24, Try.ntmps24
      go_wp2
      go_ret2
      exact ⟨by simp, HA.out⟩
    · rw [if_neg hn]
      have hyn : (y == 0) = false := by simpa using hn
      have HN := Lib.hid hn
      clear hi hk hl hn
      go_enter Try.func24, Try.ntmps24
      go_wp2
      go_ret2
      exact ⟨by simp [HN.out], HA.out⟩
  · have h0 : atL l i = 0 := Classical.byContradiction fun hn => hi (atL_in hn)
    rw [h0, if_pos rfl]
    by_cases h1 : i < 0
    · clear hi hl h0
      go_enter Try.func24, Try.ntmps24
      go_wp2
      go_ret2
      exact ⟨by simp, HA.out⟩
    · have h2 : ¬ i < (l.length : Int) := by omega
      clear hi hl h0
      go_enter Try.func24, Try.ntmps24
      go_wp2
      go_ret2
      exact ⟨by simp, HA.out⟩
end Go.Proofs.Ytdmbjonbcomphaa
