/- Read: an instruction, and how many bytes it takes, or an error: contract. -/
import Derived.Test.YtfclclckcjjnkaaGreatDoorIR4
namespace Go.Proofs.YtfclclckcjjnkaaGreatDoor
open Go Go.RowKit Go.Shelf Go.Lib

set_option maxRecDepth 100000 in
theorem catch_read (b : Nat) (x v : Int) (older : List PanicEntry) (w : World) (hB : BkS 28 w b [.int .i64 x]) :
    CallsD Tryz.prog 209 #[.pointer (some ⟨b, 0, none⟩)] (.panicking ({ v := .iface 278 (.int .i64 v), recovered := false } :: older)) w fun e u' w' =>
      e = .returned (.tuple #[]) ∧ u' = .panicking ({ v := .iface 278 (.int .i64 v), recovered := true } :: older) ∧ w' = w.setCell ⟨b, 0, none⟩ (.int .i64 v) := by
  have c0 : w.cell? ⟨b, 0, none⟩ = some (.int .i64 x) := hB.cell 0
  have f0 := hB.free 0
  have hn := iface_some 278 (.int .i64 v)
  have HT := Lib.hid (told8 v w)
  clear hB
  refine callsD_of_wpS Tryz.func209 rfl fun c₀ cs hu => ?_
  apply wpS_seq
  apply wpS_region
  simp [wpOpsS, go_sem, recoverD, hu, Tryz.ntmps209, Exit.thenS]
  refine wpS_of_wp ?_
  simp only [Array.replicate_succ, Array.replicate_zero, List.push_toArray, List.append_toArray, List.nil_append, List.cons_append, List.setIfInBounds_toArray, List.set_cons_zero, List.set_cons_succ]
  go_wp2_with (go_at_call 178; refine HT.out.mono ?_; rintro e w2 ⟨rfl, rfl⟩)
  simp [bodyPostS, results, Tryz.results209]
set_option maxRecDepth 100000 in
theorem idle_read (p : Value) (w : World) :
    CallsD Tryz.prog 209 #[p] .returning w fun e u' w' => e = .returned (.tuple #[]) ∧ u' = .returning ∧ w' = w := by
  have hn := iface_none
  refine callsD_of_wpS Tryz.func209 rfl fun c₀ cs hu => ?_
  apply wpS_seq
  apply wpS_region
  simp [wpOpsS, go_sem, recoverD, hu, Tryz.ntmps209, Exit.thenS]
  refine wpS_of_wp ?_
  simp only [Array.replicate_succ, Array.replicate_zero, List.push_toArray, List.append_toArray, List.nil_append, List.cons_append, List.setIfInBounds_toArray, List.set_cons_zero, List.set_cons_succ]
  go_wp2_with fail
  cases c₀
  simp_all [bodyPostS, results, Tryz.results209]

theorem heap_new2 (w : World) (o o' o'' : Obj) : (((w.alloc o).alloc o').alloc o'').heap[w.heap.size + 1 + 1]? = some o'' := by have := heap_new ((w.alloc o).alloc o') o''; simpa using this
theorem res_read (tmps : Array Value) (w : World) (g4 g2 : Nat) (cs : Array Value) (er : Int) (h2 : tmps.getD 2 undef = .pointer (some ⟨g2, 0, none⟩)) (h4 : tmps.getD 4 undef = .pointer (some ⟨g4, 0, none⟩))
    (hg : w.heap[g2]? = some (.cells cs 82 (0, 0))) (hs : cs.size = 5) (hc : w.cell? ⟨g4, 0, none⟩ = some (.int .i64 er)) : (results Tryz.f168 tmps).run Tryz.prog w = .ok (.tuple #[.agg cs, tmps.getD 3 undef, .int .i64 er]) w := by
  have h2' : tmps[2]?.getD undef = .pointer (some ⟨g2, 0, none⟩) := by simpa using h2
  have h4' : tmps[4]?.getD undef = .pointer (some ⟨g4, 0, none⟩) := by simpa using h4
  have hi : (Tryz.prog.info? 82).map (·.size) = some 5 := by kernel_rfl
  have hr := run_loadVar_row (P := Tryz.prog) w g2 82 82 cs (0, 0) _ hg Tryz.underlying82 rfl (by rw [hi, hs])
  have hu := Tryz.underlying28
  have hr4 : (loadVar 28 ⟨g4, 0, none⟩).run Tryz.prog w = .ok (.int .i64 er) w := by simp [loadVar, isAgg, run_underlying hu, hc]
  simp [results, Tryz.results168, h2', h4', asAddr, hr, hr4]
/-- What Read answers. -/
def readI (l : List UInt8) : In × Nat × Int := match readR l 0 with | .inl (x, j) => (x, j, 0) | .inr er => ((0, 0, 0, 0, 0), 0, er)
set_option maxRecDepth 100000 in
set_option maxHeartbeats 4000000 in
theorem read8 {n : Nat} (v : Value) (l : List UInt8) (w : World) (hv : Bytes n w v l) (hw : Widths w) :
    Calls Tryz.prog 168 #[v] w fun e w' => e = .returned (.tuple #[insV (readI l).1, .int .i64 ((readI l).2.1 : Nat), .int .i64 (readI l).2.2]) ∧ Adds w w' := by
  have hmf : ∀ (fn : Fn) (first cap : Array Value) (w : World), (Instr.makeFunc fn first cap).run Tryz.prog w = .ok (.func fn first cap) w := fun _ _ _ _ => rfl
  obtain ⟨ao, cap, rfl, hv1, hv2, _⟩ := id hv
  clear hv1 hv2
  have hgl := World.block_lt_of_cell? w _ hw.c0
  obtain ⟨w1, hw1⟩ : ∃ w1, ((w.alloc (.cells #[.int .i64 0, .int .i64 0, .int .i64 0, .int .i64 0, .int .u32 0] 82)).alloc (.cells #[.int .i64 0] 28)).alloc (.cells #[.slice ao l.length cap, .int .i64 0] 256) = w1 := ⟨_, rfl⟩
  have HA1 := Lib.hid (show Adds w w1 by rw [← hw1]; exact (((Gr.new _ _).alloc _).alloc _).adds)
  have HB2 := Lib.hid (show BkS 82 w1 w.heap.size (insC (0, 0, 0, 0, 0)) by rw [← hw1]; exact (BkS.new 82 w (insC (0, 0, 0, 0, 0))).adds ((Gr.new _ _).alloc _).adds)
  have HB4 := Lib.hid (show BkS 28 w1 (w.heap.size + 1) [.int .i64 0] by
    rw [← hw1]
    have h : BkS 28 ((w.alloc (.cells #[.int .i64 0, .int .i64 0, .int .i64 0, .int .i64 0, .int .u32 0] 82)).alloc (.cells #[.int .i64 0] 28)) (w.heap.size + 1) [.int .i64 0] := heap_new1 _ _ _
    exact h.adds (Gr.new _ _).adds)
  have HB5 := Lib.hid (show BkS 256 w1 (w.heap.size + 1 + 1) (rdC (.slice ao l.length cap) 0) by
    rw [← hw1]
    unfold BkS; exact heap_new2 _ _ _ _)
  have e1 : w1.cell? ⟨w.heap.size + 1 + 1, 1, none⟩ = some (.int .i64 0) := HB5.out.cell 1
  have e2 := HB5.out.free 1
  obtain ⟨w0, hw0⟩ : ∃ w0, w1.setCell ⟨w.heap.size + 1 + 1, 1, none⟩ (.int .i64 0) = w0 := ⟨_, rfl⟩
  have HA0 := Lib.hid (show Adds w w0 by rw [← hw0]; exact Adds.set HA1.out (by omega) 1 _)
  have HB20 := Lib.hid (show BkS 82 w0 w.heap.size (insC (0, 0, 0, 0, 0)) by rw [← hw0]; exact HB2.out.other (by omega) _)
  have HB40 := Lib.hid (show BkS 28 w0 (w.heap.size + 1) [.int .i64 0] by rw [← hw0]; exact HB4.out.other (by omega) _)
  have HB50 := Lib.hid (show BkS 256 w0 (w.heap.size + 1 + 1) (rdC (.slice ao l.length cap) 0) by rw [← hw0]; exact HB5.out.set 1 (.int .i64 0))
  have HR := Lib.hid (bytesR8 (w.heap.size + 1 + 1) (by omega) hgl (.slice ao l.length cap) l 0 (Nat.zero_le _) w0 HA0.out.size (hv.here.below HA0.out) (hw.adds HA0.out) HB50.out)
  clear HB2 HB4 HB5 HA1
  unfold readI
  clear hv hw hgl
  rcases hrr : readR l 0 with ⟨x, j⟩ | er
  · rw [hrr] at HR
    have HC := Lib.hid (show Calls Tryz.prog 210 #[.pointer (some ⟨w.heap.size + 1 + 1, 0, none⟩)] w0 fun e w' => e = .returned (insV x) ∧ BkS 256 w' (w.heap.size + 1 + 1) (rdC (.slice ao l.length cap) j) ∧ TnS (w.heap.size + 1 + 1) w0 w' from HR.out.mono fun e w' ⟨h1, h2, h3⟩ => ⟨h2, h3, h1⟩)
    clear HR hrr
    go_enter_defers Tryz.func168, Tryz.ntmps168
    go_wp2_with (go_at_call 210; refine HC.out.mono ?_; rintro e w2 ⟨rfl, q1, q2⟩; have HQ := Lib.hid (And.intro q1 q2); clear q1 q2)
    obtain ⟨xo, xa, xb, xc, xi⟩ := x
    have b4 := HB40.out.tn HQ.out.2 (by omega)
    have b2 := HB20.out.tn HQ.out.2 (by omega)
    obtain ⟨w6, hw6⟩ : ∃ w6, w2.alloc (.cells #[.int .i64 xo, .int .i64 xa, .int .i64 xb, .int .i64 xc, .int .u32 xi] 82) = w6 := ⟨_, rfl⟩
    have a6 : Adds w2 w6 := by rw [← hw6]; exact (Gr.new _ _).adds
    have HB6 := Lib.hid (show BkS 82 w6 w2.heap.size (insC (xo, xa, xb, xc, xi)) by rw [← hw6]; exact BkS.new _ _ _)
    have HA6 := Lib.hid (Adds.trans (TnS.own HA0.out (by omega) HQ.out.2 : Adds w w2) a6)
    have H2 := Lib.hid (b2.adds a6); have H4 := Lib.hid (b4.adds a6); have H5 := Lib.hid (HQ.out.1.adds a6)
    obtain ⟨n2, hn2⟩ : ∃ n, w.heap.size = n := ⟨_, rfl⟩
    obtain ⟨n4, hn4⟩ : ∃ n, n2 + 1 = n := ⟨_, rfl⟩
    obtain ⟨n5, hn5⟩ : ∃ n, n4 + 1 = n := ⟨_, rfl⟩
    obtain ⟨n6, hn6⟩ : ∃ n, w2.heap.size = n := ⟨_, rfl⟩
    have HNs := Lib.hid (show n2 = w.heap.size ∧ n4 = n2 + 1 ∧ n5 = n4 + 1 ∧ n5 < n6 from ⟨hn2.symm, hn4.symm, hn5.symm, by have := HQ.out.1.lt; omega⟩)
    try simp only at hw6
    rw [hw6]
    rw [hn2, hn4, hn5] at H5
    rw [hn2, hn4] at H4
    rw [hn2] at H2
    rw [hn6] at HB6
    rw [hn2, hn4, hn5, hn6]
    have hmo : Tryz.prog.follows .mixedOrders = true := by kernel_rfl
    clear hw6 hn2 hn4 hn5 hn6 b4 b2 a6 HQ HC HB20 HB40 HB50
    refine (wpIn_wide (n := 6)).1 ?_
    refine wpIn_region_inv (fun L b' w3 => b' = ({ tmps := #[Value.slice ao l.length cap, undef, Value.pointer (some { block := n2, off := 0 }), sel8 (L 4) (Value.int IntKind.i64 ((j : Nat) : Int)) (Value.int IntKind.i64 0), Value.pointer (some { block := n4, off := 0 }), Value.pointer (some { block := n5, off := 0 }), Value.pointer (some { block := n6, off := 0 }), Value.func (Fn.func 209) #[] #[Value.pointer (some { block := n4, off := 0 })], Value.slice ao l.length cap, Value.agg #[Value.slice ao l.length cap, Value.int IntKind.i64 0], insV (xo, xa, xb, xc, xi), sel8 (L 0) (Value.agg #[Value.int IntKind.i64 xo, Value.int IntKind.i64 xa, Value.int IntKind.i64 xb, Value.int IntKind.i64 xc, Value.int IntKind.u32 xi]) (undef), sel8 (L 1) (Value.pointer (some { block := n5, off := 1 })) (undef), sel8 (L 2) (Value.int IntKind.i64 ((j : Nat) : Int)) (undef)], defers := [{ target := Target.fn (Fn.func 209) #[Value.pointer (some { block := n4, off := 0 })], args := #[] }] } : Act) ∧ BkS 82 w3 n2 (cond (L 3) (insC (xo, xa, xb, xc, xi)) (insC (0, 0, 0, 0, 0))) ∧ BkS 28 w3 n4 [.int .i64 0] ∧ BkS 82 w3 n6 (insC (xo, xa, xb, xc, xi)) ∧ BkS 256 w3 n5 (rdC (.slice ao l.length cap) j) ∧ Adds w w3) hmo (by kernel_rfl) ?inv0 ?step ?fin
    case inv0 => exact ⟨rfl, H2.out.adds (Adds.drew _), H4.out.adds (Adds.drew _), HB6.out.adds (Adds.drew _), H5.out.adds (Adds.drew _), Adds.trans HA6.out (Adds.drew _)⟩
    case step =>
      rintro L b' w3 i o ho hL hC he ⟨rfl, hP⟩
      clear hC
      have HP := Lib.hid hP
      have i0 : w3.cell? ⟨n6, 0, none⟩ = some (.int .i64 xo) := hP.2.2.1.cell 0
      have i1 : w3.cell? ⟨n6, 1, none⟩ = some (.int .i64 xa) := hP.2.2.1.cell 1
      have i2 : w3.cell? ⟨n6, 2, none⟩ = some (.int .i64 xb) := hP.2.2.1.cell 2
      have i3 : w3.cell? ⟨n6, 3, none⟩ = some (.int .i64 xc) := hP.2.2.1.cell 3
      have i4 : w3.cell? ⟨n6, 4, none⟩ = some (.int .u32 xi) := hP.2.2.1.cell 4
      have r1 : w3.cell? ⟨n5, 1, none⟩ = some (.int .i64 (j : Int)) := hP.2.2.2.1.cell 1
      clear hP
      rcases i with _ | _ | _ | _ | _ | _ | i
      · simp only [List.getElem?_cons_zero, Option.some.injEq] at ho
        subst ho
        try simp [Region.binds] at he
        try simp only []
        gi_wp2
        refine ⟨by simp [sel8, *], (by first | exact HP.out | simpa [he] using HP.out)⟩
      · simp only [List.getElem?_cons_zero, List.getElem?_cons_succ, Option.some.injEq] at ho
        subst ho
        try simp [Region.binds] at he
        try simp only []
        gi_wp2
        refine ⟨by simp [sel8, *], (by first | exact HP.out | simpa [he] using HP.out)⟩
      · simp only [List.getElem?_cons_zero, List.getElem?_cons_succ, Option.some.injEq] at ho
        subst ho
        try simp [Region.binds] at he
        try simp only [he, sel8_t]
        gi_wp2
        refine ⟨by simp [sel8, *], (by first | exact HP.out | simpa [he] using HP.out)⟩
      · simp only [List.getElem?_cons_zero, List.getElem?_cons_succ, Option.some.injEq] at ho
        subst ho
        try simp [Region.binds] at he
        simp only [he, sel8_t]
        have hz := HP.out.1
        rw [hL] at hz
        have HZ := Lib.hid (show BkS 82 w3 n2 (insC (0, 0, 0, 0, 0)) from hz)
        have x0 : w3.cell? ⟨n2, 0, none⟩ = some (.int .i64 0) := HZ.out.cell 0
        have x1 : w3.cell? ⟨n2, 1, none⟩ = some (.int .i64 0) := HZ.out.cell 1
        have x2 : w3.cell? ⟨n2, 2, none⟩ = some (.int .i64 0) := HZ.out.cell 2
        have x3 : w3.cell? ⟨n2, 3, none⟩ = some (.int .i64 0) := HZ.out.cell 3
        have x4 : w3.cell? ⟨n2, 4, none⟩ = some (.int .u32 0) := HZ.out.cell 4
        have y0 := HZ.out.free 0
        have y1 := HZ.out.free 1
        have y2 := HZ.out.free 2
        have y3 := HZ.out.free 3
        have y4 := HZ.out.free 4
        clear hz
        gi_wp2
        have hT := (((((TnS.setCell n2 0 w3 (.int .i64 xo)).trans (TnS.setCell n2 1 _ (.int .i64 xa))).trans (TnS.setCell n2 2 _ (.int .i64 xb))).trans (TnS.setCell n2 3 _ (.int .i64 xc))).trans (TnS.setCell n2 4 _ (.int .u32 xi)))
        have hb := (((((HZ.out.set 0 (.int .i64 xo)).set 1 (.int .i64 xa)).set 2 (.int .i64 xb)).set 3 (.int .i64 xc)).set 4 (.int .u32 xi))
        refine ⟨by simp [sel8, *], ?_⟩
        have h4 := HP.out.2.1.tn hT (by have := HNs.out; omega)
        have h6 := HP.out.2.2.1.tn hT (by have := HNs.out; omega)
        have h5 := HP.out.2.2.2.1.tn hT (by have := HNs.out; omega)
        have hA := TnS.own HP.out.2.2.2.2 (by have := HNs.out; omega) hT
        exact ⟨by simpa using hb, h4, h6, h5, hA⟩
      · simp only [List.getElem?_cons_zero, List.getElem?_cons_succ, Option.some.injEq] at ho
        subst ho
        try simp [Region.binds] at he
        try simp only [he, sel8_t]
        gi_wp2
        refine ⟨by simp [sel8, *], (by first | exact HP.out | simpa [he] using HP.out)⟩
      · simp only [List.getElem?_cons_zero, List.getElem?_cons_succ, Option.some.injEq] at ho
        subst ho
        try simp [Region.binds] at he
        try simp only [he, sel8_t]
        have z0 : w3.cell? ⟨n4, 0, none⟩ = some (.int .i64 0) := HP.out.2.1.cell 0
        have z1 := HP.out.2.1.free 0
        gi_wp2
        have hT := TnS.setCell n4 0 w3 (.int .i64 0)
        refine ⟨by simp [sel8, *], ?_⟩
        have h2 := HP.out.1.tn hT (by have := HNs.out; omega)
        have h4 := HP.out.2.1.set 0 (.int .i64 0)
        have h6 := HP.out.2.2.1.tn hT (by have := HNs.out; omega)
        have h5 := HP.out.2.2.2.1.tn hT (by have := HNs.out; omega)
        have hA := TnS.own HP.out.2.2.2.2 (by have := HNs.out; omega) hT
        exact ⟨by simpa [he] using h2, h4, h6, h5, hA⟩
      · simp at ho
    case fin =>
      rintro b' w7 ⟨rfl, h2, h4, h6, h5, hA⟩
      simp only [List.length_cons, List.length_nil, Nat.reduceAdd, Nat.reduceLT, decide_true, sel8_t, cond_true] at h2 ⊢
      have HF := Lib.hid (And.intro h2 (And.intro h4 hA))
      clear h2 h4 h6 h5 hA
      go_wp2_with fail
      refine leaves_cons (f := 209) (args := #[.pointer (some ⟨n4, 0, none⟩)]) (by simp) (by simp [go_sem]) ?_
      refine (idle_read _ _).mono ?_
      rintro e u' w'' ⟨rfl, rfl, rfl⟩
      simp only [Leaves, settle]
      exact ⟨_, res_read _ _ n4 n2 _ 0 rfl rfl HF.out.1 rfl (HF.out.2.1.cell 0), rfl, HF.out.2.2⟩
  · rw [hrr] at HR
    have HC := Lib.hid (show Calls Tryz.prog 210 #[.pointer (some ⟨w.heap.size + 1 + 1, 0, none⟩)] w0 fun e w' => e = .panicked [{ v := .iface 278 (.int .i64 er), recovered := false }] ∧ TnS (w.heap.size + 1 + 1) w0 w' from HR.out.mono fun e w' ⟨h1, h2⟩ => ⟨h2, h1⟩)
    clear HR hrr
    go_enter_defers Tryz.func168, Tryz.ntmps168
    go_wp2_with (go_at_call 210; refine HC.out.mono ?_; rintro e w2 ⟨rfl, q⟩; have HT := Lib.hid q; clear q)
    have b4 := HB40.out.tn HT.out (by omega)
    have b2 := HB20.out.tn HT.out (by omega)
    refine leaves_cons (f := 209) (args := #[.pointer (some ⟨w.heap.size + 1, 0, none⟩)]) (by simp) (by simp [go_sem]) ?_
    refine (catch_read (w.heap.size + 1) 0 er [] w2 b4).mono ?_
    rintro e u' w'' ⟨rfl, rfl, rfl⟩
    have hA := (TnS.own HA0.out (by omega) HT.out : Adds w w2)
    have hA2 := Adds.set hA (b := w.heap.size + 1) (by omega) 0 (.int .i64 er)
    have d4 := (b4.set 0 (.int .i64 er)).cell 0
    have d2 := b2.other (c := w.heap.size + 1) (i := 0) (by omega) (.int .i64 er)
    simp only [settle]
    exact ⟨_, res_read _ _ (w.heap.size + 1) w.heap.size _ er rfl rfl d2 rfl d4, rfl, hA2⟩
end Go.Proofs.YtfclclckcjjnkaaGreatDoor
