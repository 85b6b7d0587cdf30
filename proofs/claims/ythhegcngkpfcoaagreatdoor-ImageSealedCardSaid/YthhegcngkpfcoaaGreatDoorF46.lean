/- Merged: M5, M16. -/
import Derived.Test.YthhegcngkpfcoaaGreatDoorF17
import Derived.Test.YthhegcngkpfcoaaGreatDoorF21
import Derived.Test.YthhegcngkpfcoaaGreatDoorF45
namespace Go.Proofs.YthhegcngkpfcoaaGreatDoor
open Go Go.RowKit Go.Shelf Go.Lib

set_option maxRecDepth 100000 in
theorem mtold (v : Int) (w : World) : Calls Tryz.prog 25 #[.iface 70 (.int .i64 v)] w fun e w' => e = .returned (.int .i64 v) ∧ w = w' := by
  have ht : ∀ w : World, (Instr.typeAssert (.iface 70 (.int .i64 v)) 20 70 false).run Tryz.prog w = .ok (.int .i64 v) w := fun _ => by kernel_rfl
  go_enter Tryz.func25, Tryz.ntmps25
  go_wp2
  go_ret
  exact ⟨rfl, rfl⟩
set_option maxRecDepth 100000 in
theorem mcatch_decode (b b2 : Nat) (x v : Int) (l : List Value) (hl : l.length = 4) (hbb : b2 ≠ b) (older : List PanicEntry) (w : World) (hP : BkS 24 w b2 l) (hB : BkS 28 w b [.int .i64 x]) :
    CallsD Tryz.prog 24 #[.pointer (some ⟨b2, 0, none⟩), .pointer (some ⟨b, 0, none⟩)] (.panicking ({ v := .iface 70 (.int .i64 v), recovered := false } :: older)) w fun e u' w' =>
      e = .returned (.tuple #[]) ∧ u' = .panicking ({ v := .iface 70 (.int .i64 v), recovered := true } :: older) ∧ BkS 24 w' b2 [.slice none 0 0, .int .i64 0, .int .i64 0, .int .i64 0] ∧ BkS 28 w' b [.int .i64 v] ∧ ∃ w1, TnS b2 w w1 ∧ TnS b w1 w' := by
  obtain ⟨l0, l1, l2, l3, rfl⟩ : ∃ a b c d, l = [a, b, c, d] := by
    match l, hl with
    | [a, b, c, d], _ => exact ⟨a, b, c, d, rfl⟩
  clear hl
  have c0 : w.cell? ⟨b, 0, none⟩ = some (.int .i64 x) := hB.cell 0
  have f0 := hB.free 0
  have p0 := hP.cell 0
  have p1 := hP.cell 1
  have p2 := hP.cell 2
  have p3 := hP.cell 3
  have q0 := hP.free 0
  have q1 := hP.free 1
  have q2 := hP.free 2
  have q3 := hP.free 3
  have hn := iface_some 70 (.int .i64 v)
  have HT := Lib.hid (fun W => mtold v W)
  have HP := Lib.hid hP
  have HB := Lib.hid hB
  clear hB hP
  refine callsD_of_wpS Tryz.func24 rfl fun c₀ cs hu => ?_
  apply wpS_seq
  apply wpS_region
  simp [wpOpsS, go_sem, recoverD, hu, Tryz.ntmps24, Exit.thenS]
  refine wpS_of_wp ?_
  simp only [Array.replicate_succ, Array.replicate_zero, List.push_toArray, List.append_toArray, List.nil_append, List.cons_append, List.setIfInBounds_toArray, List.set_cons_zero, List.set_cons_succ]
  go_wp2_with (go_at_call 25; refine (HT.out _).mono ?_; rintro e w2 ⟨rfl, rfl⟩)
  simp [bodyPostS, results, Tryz.results24]
  have h4 := (((HP.out.set 0 (.slice none 0 0)).set 1 (.int .i64 0)).set 2 (.int .i64 0)).set 3 (.int .i64 0)
  have hb := (((HB.out.other (i := 0) hbb (.slice none 0 0)).other (i := 1) hbb (.int .i64 0)).other (i := 2) hbb (.int .i64 0)).other (i := 3) hbb (.int .i64 0)
  exact ⟨h4.other hbb.symm (.int .i64 v), hb.set 0 (.int .i64 v), _, (((TnS.setCell b2 0 w _).trans (TnS.setCell b2 1 _ _)).trans (TnS.setCell b2 2 _ _)).trans (TnS.setCell b2 3 _ _), TnS.setCell b 0 _ _⟩
set_option maxRecDepth 100000 in
theorem midle_decode (p q : Value) (w : World) :
    CallsD Tryz.prog 24 #[p, q] .returning w fun e u' w' => e = .returned (.tuple #[]) ∧ u' = .returning ∧ w' = w := by
  have hn := iface_none
  refine callsD_of_wpS Tryz.func24 rfl fun c₀ cs hu => ?_
  apply wpS_seq
  apply wpS_region
  simp [wpOpsS, go_sem, recoverD, hu, Tryz.ntmps24, Exit.thenS]
  refine wpS_of_wp ?_
  simp only [Array.replicate_succ, Array.replicate_zero, List.push_toArray, List.append_toArray, List.nil_append, List.cons_append, List.setIfInBounds_toArray, List.set_cons_zero, List.set_cons_succ]
  go_wp2_with fail
  cases c₀
  simp_all [bodyPostS, results, Tryz.results24]
end Go.Proofs.YthhegcngkpfcoaaGreatDoor
namespace Go.Proofs.YthhegcngkpfcoaaGreatDoor
open Go Go.RowKit Go.Shelf Go.Lib

def DecPost (d : Pg × Int) (w : World) (e : Ending) (w' : World) : Prop := ∃ cv, e = .returned (.tuple #[pgV cv d.1, .int .i64 d.2]) ∧ CopyO w.heap.size w' cv d.1.1 ∧ Adds w w'
theorem copyO_lower {n m : Nat} {w : World} {v : Value} {fs : List Fu} (h : CopyO n w v fs) (hm : m ≤ n) : CopyO m w v fs := by
  obtain ⟨r, hR, hl, hi⟩ := h
  refine ⟨r, ?_, hl, fun i hlt => ⟨(hi i hlt).1, (hi i hlt).2.lower hm⟩⟩
  obtain ⟨h1, h2⟩ := hR
  refine ⟨h1, ?_⟩
  rcases h2 with h2 | ⟨g, cap, cur, hv, hg, q⟩
  · exact Or.inl h2
  · exact Or.inr ⟨g, cap, cur, hv, Nat.le_trans hm hg, q⟩
theorem res_dec (tmps : Array Value) (w : World) (g2 g3 : Nat) (cs : Array Value) (er : Int) (h2 : tmps.getD 2 undef = .pointer (some ⟨g2, 0, none⟩)) (h3 : tmps.getD 3 undef = .pointer (some ⟨g3, 0, none⟩))
    (hg : w.heap[g2]? = some (.cells cs 24 (0, 0))) (hs : cs.size = 4) (hc : w.cell? ⟨g3, 0, none⟩ = some (.int .i64 er)) : (results Tryz.f12 tmps).run Tryz.prog w = .ok (.tuple #[.agg cs, .int .i64 er]) w := by
  have h2' : tmps[2]?.getD undef = .pointer (some ⟨g2, 0, none⟩) := by simpa using h2
  have h3' : tmps[3]?.getD undef = .pointer (some ⟨g3, 0, none⟩) := by simpa using h3
  have hi : (Tryz.prog.info? 24).map (·.size) = some 4 := by kernel_rfl
  have hr := run_loadVar_row (P := Tryz.prog) w g2 24 24 cs (0, 0) _ hg Tryz.underlying24 rfl (by rw [hi, hs])
  have hu := Tryz.underlying28
  have hr3 : (loadVar 28 ⟨g3, 0, none⟩).run Tryz.prog w = .ok (.int .i64 er) w := by simp [loadVar, isAgg, run_underlying hu, hc]
  simp [results, Tryz.results12, h2', h3', asAddr, hr, hr3]
set_option maxRecDepth 100000 in
set_option maxHeartbeats 4000000 in
theorem mdecode {n : Nat} (v : Value) (l : List UInt8) (w : World) (hv : Bytes n w v l) (hw : MVars w) : Calls Tryz.prog 12 #[v] w (DecPost (decI l) w) := by
  have hmf : ∀ (fn : Fn) (first cap : Array Value) (w : World), (Instr.makeFunc fn first cap).run Tryz.prog w = .ok (.func fn first cap) w := fun _ _ _ _ => rfl
  obtain ⟨ao, cap, rfl, hv1, hv2, _⟩ := id hv
  unfold maxLen at hv2
  have hlI : (l.length : Int) ≤ 9223372036854775807 := by omega
  clear hv1 hv2
  obtain ⟨w1, hw1⟩ : ∃ w1, ((w.alloc (.cells #[.slice none 0 0, .int .i64 0, .int .i64 0, .int .i64 0] 24)).alloc (.cells #[.int .i64 0] 28)).alloc (.cells #[.slice ao l.length cap, .int .i64 0] 68) = w1 := ⟨_, rfl⟩
  have HA1 := Lib.hid (show Adds w w1 by rw [← hw1]; exact (((Gr.new _ _).alloc _).alloc _).adds)
  have HB2 := Lib.hid (show BkS 24 w1 w.heap.size [.slice none 0 0, .int .i64 0, .int .i64 0, .int .i64 0] by rw [← hw1]; exact (BkS.new 24 w [.slice none 0 0, .int .i64 0, .int .i64 0, .int .i64 0]).adds ((Gr.new _ _).alloc _).adds)
  have HB3 := Lib.hid (show BkS 28 w1 (w.heap.size + 1) [.int .i64 0] by
    rw [← hw1]
    have h : BkS 28 ((w.alloc (.cells #[.slice none 0 0, .int .i64 0, .int .i64 0, .int .i64 0] 24)).alloc (.cells #[.int .i64 0] 28)) (w.heap.size + 1) [.int .i64 0] := heap_new1 _ _ _
    exact h.adds (Gr.new _ _).adds)
  have HB4 := Lib.hid (show BkS 68 w1 (w.heap.size + 1 + 1) (rdC (.slice ao l.length cap) 0) by
    rw [← hw1]
    unfold BkS; exact heap_new2 _ _ _ _)
  have e1 : w1.cell? ⟨w.heap.size + 1 + 1, 1, none⟩ = some (.int .i64 0) := HB4.out.cell 1
  have e2 := HB4.out.free 1
  have hgl := hw.lt
  obtain ⟨w0, hw0⟩ : ∃ w0, w1.setCell ⟨w.heap.size + 1 + 1, 1, none⟩ (.int .i64 0) = w0 := ⟨_, rfl⟩
  have HA0 := Lib.hid (show Adds w w0 by rw [← hw0]; exact Adds.set HA1.out (by omega) 1 _)
  have HB20 := Lib.hid (show BkS 24 w0 w.heap.size [.slice none 0 0, .int .i64 0, .int .i64 0, .int .i64 0] by rw [← hw0]; exact HB2.out.other (by omega) _)
  have HB30 := Lib.hid (show BkS 28 w0 (w.heap.size + 1) [.int .i64 0] by rw [← hw0]; exact HB3.out.other (by omega) _)
  have HB40 := Lib.hid (show BkS 68 w0 (w.heap.size + 1 + 1) (rdC (.slice ao l.length cap) 0) by rw [← hw0]; exact HB4.out.set 1 (.int .i64 0))
  have HR := Lib.hid (mimage (n := w.heap.size) (w.heap.size + 1 + 1) (.slice ao l.length cap) l 0 w0 ⟨by omega, hgl.1, hv.here.below HA0.out, hw.wid.adds HA0.out, HB40.out, Nat.zero_le _⟩ (hw.beg.adds HA0.out) hgl.2)
  clear hv hw hgl HB2 HB3 HB4 HA1
  unfold decI
  rcases hrr : imgK l 0 with ⟨p, k⟩ | er
  · rw [hrr] at HR
    have hkl := (imgK_in (Nat.zero_le _) hrr).2.1
    obtain ⟨fs, x1, x2, x3⟩ := p
    have HC := Lib.hid (show Calls Tryz.prog 26 #[.pointer (some ⟨w.heap.size + 1 + 1, 0, none⟩)] w0 fun e w' => ∃ cv, e = .returned (pgV cv (fs, x1, x2, x3)) ∧ CopyO w0.heap.size w' cv fs ∧ BkS 68 w' (w.heap.size + 1 + 1) (rdC (.slice ao l.length cap) k) ∧ TnS (w.heap.size + 1 + 1) w0 w' from HR.out.mono fun e w' ⟨⟨cv, h1, h2⟩, h3, h4⟩ => ⟨cv, h1, h2, h3, h4⟩)
    have HSz := Lib.hid (show w.heap.size + 1 + 1 < w0.heap.size from HB40.out.lt)
    clear HR hrr
    obtain ⟨dd, hdd⟩ : ∃ dd : Pg × Int, (if k < l.length then (emP, 200) else ((fs, x1, x2, x3), 0)) = dd := ⟨_, rfl⟩
    have HDd := Lib.hid hdd
    simp only [hdd]
    clear hdd
    by_cases hk : k < l.length
    · have hkI : (k : Int) < (l.length : Int) := by omega
      have hdd := HDd.out
      rw [if_pos hk] at hdd
      subst hdd
      clear hkl hk
      go_enter_defers Tryz.func12, Tryz.ntmps12
      go_wp2_with (go_at_call 26; refine HC.out.mono ?_; rintro e w2 ⟨cv, rfl, o2, r2, t2⟩; obtain ⟨aoc, cpc, hcv⟩ := o2.form; generalize fs.length = fl at hcv; subst hcv; have HO := Lib.hid o2; have HT := Lib.hid t2; have HRr := Lib.hid r2; have h2 := HB20.out.tn t2 (by omega); have h3 := HB30.out.tn t2 (by omega); have z0 := h2.cell 0; have z1 := h2.cell 1; have z2 := h2.cell 2; have z3 := h2.cell 3; have y0 := h2.free 0; have y1 := h2.free 1; have y2 := h2.free 2; have y3 := h2.free 3; have q1 : w2.cell? ⟨w.heap.size + 1 + 1, 1, none⟩ = some (.int .i64 (k : Int)) := r2.cell 1; have H2 := Lib.hid h2; have H3 := Lib.hid h3; clear o2 r2 t2 h2 h3)
      obtain ⟨w3, hw3⟩ : ∃ w3, (((w2.setCell ⟨w.heap.size, 0, none⟩ (.slice aoc fl cpc)).setCell ⟨w.heap.size, 1, none⟩ (.int .i64 x1)).setCell ⟨w.heap.size, 2, none⟩ (.int .i64 x2)).setCell ⟨w.heap.size, 3, none⟩ (.int .i64 x3) = w3 := ⟨_, rfl⟩
      have hT3 : TnS w.heap.size w2 w3 := by rw [← hw3]; exact (((TnS.setCell _ 0 _ _).trans (TnS.setCell _ 1 _ _)).trans (TnS.setCell _ 2 _ _)).trans (TnS.setCell _ 3 _ _)
      have b2 : BkS 24 w3 w.heap.size [.slice aoc fl cpc, .int .i64 x1, .int .i64 x2, .int .i64 x3] := by rw [← hw3]; exact (((H2.out.set 0 _).set 1 _).set 2 _).set 3 _
      have b3 := H3.out.tn hT3 (by omega)
      refine leaves_cons (f := 24) (args := #[.pointer (some ⟨w.heap.size, 0, none⟩), .pointer (some ⟨w.heap.size + 1, 0, none⟩)]) (by simp) (by simp [go_sem]) ?_
      try simp only [hw3]
      refine (mcatch_decode (w.heap.size + 1) w.heap.size 0 200 _ rfl (by omega) [] w3 b2 b3).mono ?_
      rintro e u' w'' ⟨rfl, rfl, c2, c3, wm, t1, t2⟩
      have hA := (TnS.own HA0.out (by omega) HT.out : Adds w w2)
      have hA2 := TnS.own (TnS.own (TnS.own hA (Nat.le_refl _) hT3) (by omega) t1) (by omega) t2
      simp only [settle]
      exact ⟨_, res_dec _ _ w.heap.size (w.heap.size + 1) _ 200 rfl rfl c2 rfl (c3.cell 0), ⟨_, rfl, CopyO.nil _ _, hA2⟩⟩
    · have hkI : ¬ (k : Int) < (l.length : Int) := by omega
      have hdd := HDd.out
      rw [if_neg hk] at hdd
      subst hdd
      clear hkl hk
      go_enter_defers Tryz.func12, Tryz.ntmps12
      go_wp2_with (go_at_call 26; refine HC.out.mono ?_; rintro e w2 ⟨cv, rfl, o2, r2, t2⟩; obtain ⟨aoc, cpc, hcv⟩ := o2.form; generalize fs.length = fl at hcv; subst hcv; have HO := Lib.hid o2; have HT := Lib.hid t2; have HRr := Lib.hid r2; have h2 := HB20.out.tn t2 (by omega); have h3 := HB30.out.tn t2 (by omega); have z0 := h2.cell 0; have z1 := h2.cell 1; have z2 := h2.cell 2; have z3 := h2.cell 3; have y0 := h2.free 0; have y1 := h2.free 1; have y2 := h2.free 2; have y3 := h2.free 3; have q1 : w2.cell? ⟨w.heap.size + 1 + 1, 1, none⟩ = some (.int .i64 (k : Int)) := r2.cell 1; have j0 := h3.cell 0; have j1 := h3.free 0; have H2 := Lib.hid h2; have H3 := Lib.hid h3; clear o2 r2 t2 h2 h3)
      obtain ⟨w3, hw3⟩ : ∃ w3, ((((((((w2.setCell ⟨w.heap.size, 0, none⟩ (.slice aoc fl cpc)).setCell ⟨w.heap.size, 1, none⟩ (.int .i64 x1)).setCell ⟨w.heap.size, 2, none⟩ (.int .i64 x2)).setCell ⟨w.heap.size, 3, none⟩ (.int .i64 x3)).setCell ⟨w.heap.size, 0, none⟩ (.slice aoc fl cpc)).setCell ⟨w.heap.size, 1, none⟩ (.int .i64 x1)).setCell ⟨w.heap.size, 2, none⟩ (.int .i64 x2)).setCell ⟨w.heap.size, 3, none⟩ (.int .i64 x3)) = w3 := ⟨_, rfl⟩
      have hT3 : TnS w.heap.size w2 w3 := by rw [← hw3]; exact (((((((TnS.setCell _ 0 _ _).trans (TnS.setCell _ 1 _ _)).trans (TnS.setCell _ 2 _ _)).trans (TnS.setCell _ 3 _ _)).trans (TnS.setCell _ 0 _ _)).trans (TnS.setCell _ 1 _ _)).trans (TnS.setCell _ 2 _ _)).trans (TnS.setCell _ 3 _ _)
      have b2 : BkS 24 w3 w.heap.size [.slice aoc fl cpc, .int .i64 x1, .int .i64 x2, .int .i64 x3] := by rw [← hw3]; exact (((((((H2.out.set 0 _).set 1 _).set 2 _).set 3 _).set 0 _).set 1 _).set 2 _).set 3 _
      have b3 := (H3.out.tn hT3 (by omega)).set 0 (.int .i64 0)
      have b4 := b2.other (c := w.heap.size + 1) (i := 0) (by omega) (.int .i64 0)
      have o4 := (HO.out.blk H2.out (by decide) (by decide) hT3).blk (H3.out.tn hT3 (by omega)) (by decide) (by decide) (TnS.setCell (w.heap.size + 1) 0 w3 (.int .i64 0))
      have hA := (TnS.own HA0.out (by omega) HT.out : Adds w w2)
      have hA2 := TnS.own (TnS.own hA (Nat.le_refl _) hT3) (by omega) (TnS.setCell (w.heap.size + 1) 0 w3 (.int .i64 0))
      refine leaves_cons (f := 24) (args := #[.pointer (some ⟨w.heap.size, 0, none⟩), .pointer (some ⟨w.heap.size + 1, 0, none⟩)]) (by simp) (by simp [go_sem]) ?_
      refine (midle_decode _ _ _).mono ?_
      rintro e u' w'' ⟨rfl, rfl, rfl⟩
      simp only [Leaves, settle]
      try simp only [hw3]
      exact ⟨_, res_dec _ _ w.heap.size (w.heap.size + 1) _ 0 rfl rfl b4 rfl (b3.cell 0), ⟨_, rfl, copyO_lower o4 HA0.out.size, hA2⟩⟩
  · rw [hrr] at HR
    have HC := Lib.hid (show Calls Tryz.prog 26 #[.pointer (some ⟨w.heap.size + 1 + 1, 0, none⟩)] w0 fun e w' => e = .panicked [{ v := .iface 70 (.int .i64 er), recovered := false }] ∧ TnS (w.heap.size + 1 + 1) w0 w' from HR.out.mono fun e w' h => h)
    clear HR hrr
    go_enter_defers Tryz.func12, Tryz.ntmps12
    go_wp2_with (go_at_call 26; refine HC.out.mono ?_; rintro e w2 ⟨rfl, q⟩; have HT := Lib.hid q; clear q)
    have b2 := HB20.out.tn HT.out (by omega)
    have b3 := HB30.out.tn HT.out (by omega)
    refine leaves_cons (f := 24) (args := #[.pointer (some ⟨w.heap.size, 0, none⟩), .pointer (some ⟨w.heap.size + 1, 0, none⟩)]) (by simp) (by simp [go_sem]) ?_
    refine (mcatch_decode (w.heap.size + 1) w.heap.size 0 er [.slice none 0 0, .int .i64 0, .int .i64 0, .int .i64 0] rfl (by omega) [] w2 b2 b3).mono ?_
    rintro e u' w'' ⟨rfl, rfl, c2, c3, wm, t1, t2⟩
    have hA := (TnS.own HA0.out (by omega) HT.out : Adds w w2)
    have hA2 := TnS.own (TnS.own hA (by omega) t1) (by omega) t2
    simp only [settle]
    exact ⟨_, res_dec _ _ w.heap.size (w.heap.size + 1) _ er rfl rfl c2 rfl (c3.cell 0), ⟨_, rfl, CopyO.nil _ _, hA2⟩⟩
end Go.Proofs.YthhegcngkpfcoaaGreatDoor
