/- Merged: IR5, IStr, IG1. -/
import Derived.Test.YthhegcngkpfcoaaGreatDoorF19
import Derived.Lib.ConvBytes
import Derived.Test.YthhegcngkpfcoaaGreatDoorF7
namespace Go.Proofs.YthhegcngkpfcoaaGreatDoor
open Go Go.RowKit Go.Shelf Go.Lib

set_option maxRecDepth 100000 in
theorem catch_read (b : Nat) (x v : Int) (older : List PanicEntry) (w : World) (hB : BkS 28 w b [.int .i64 x]) :
    CallsD Tryz.prog 129 #[.pointer (some ⟨b, 0, none⟩)] (.panicking ({ v := .iface 187 (.int .i64 v), recovered := false } :: older)) w fun e u' w' =>
      e = .returned (.tuple #[]) ∧ u' = .panicking ({ v := .iface 187 (.int .i64 v), recovered := true } :: older) ∧ w' = w.setCell ⟨b, 0, none⟩ (.int .i64 v) := by
  have c0 : w.cell? ⟨b, 0, none⟩ = some (.int .i64 x) := hB.cell 0
  have f0 := hB.free 0
  have hn := iface_some 187 (.int .i64 v)
  have HT := Lib.hid (told8 v w)
  clear hB
  refine callsD_of_wpS Tryz.func129 rfl fun c₀ cs hu => ?_
  apply wpS_seq
  apply wpS_region
  simp [wpOpsS, go_sem, recoverD, hu, Tryz.ntmps129, Exit.thenS]
  refine wpS_of_wp ?_
  simp only [Array.replicate_succ, Array.replicate_zero, List.push_toArray, List.append_toArray, List.nil_append, List.cons_append, List.setIfInBounds_toArray, List.set_cons_zero, List.set_cons_succ]
  go_wp2_with (go_at_call 101; refine HT.out.mono ?_; rintro e w2 ⟨rfl, rfl⟩)
  simp [bodyPostS, results, Tryz.results129]
set_option maxRecDepth 100000 in
theorem idle_read (p : Value) (w : World) :
    CallsD Tryz.prog 129 #[p] .returning w fun e u' w' => e = .returned (.tuple #[]) ∧ u' = .returning ∧ w' = w := by
  have hn := iface_none
  refine callsD_of_wpS Tryz.func129 rfl fun c₀ cs hu => ?_
  apply wpS_seq
  apply wpS_region
  simp [wpOpsS, go_sem, recoverD, hu, Tryz.ntmps129, Exit.thenS]
  refine wpS_of_wp ?_
  simp only [Array.replicate_succ, Array.replicate_zero, List.push_toArray, List.append_toArray, List.nil_append, List.cons_append, List.setIfInBounds_toArray, List.set_cons_zero, List.set_cons_succ]
  go_wp2_with fail
  cases c₀
  simp_all [bodyPostS, results, Tryz.results129]

theorem heap_new2 (w : World) (o o' o'' : Obj) : (((w.alloc o).alloc o').alloc o'').heap[w.heap.size + 1 + 1]? = some o'' := by have := heap_new ((w.alloc o).alloc o') o''; simpa using this
theorem res_read (tmps : Array Value) (w : World) (g4 g2 : Nat) (cs : Array Value) (er : Int) (h2 : tmps.getD 2 undef = .pointer (some ⟨g2, 0, none⟩)) (h4 : tmps.getD 4 undef = .pointer (some ⟨g4, 0, none⟩))
    (hg : w.heap[g2]? = some (.cells cs 59 (0, 0))) (hs : cs.size = 5) (hc : w.cell? ⟨g4, 0, none⟩ = some (.int .i64 er)) : (results Tryz.f98 tmps).run Tryz.prog w = .ok (.tuple #[.agg cs, tmps.getD 3 undef, .int .i64 er]) w := by
  have h2' : tmps[2]?.getD undef = .pointer (some ⟨g2, 0, none⟩) := by simpa using h2
  have h4' : tmps[4]?.getD undef = .pointer (some ⟨g4, 0, none⟩) := by simpa using h4
  have hi : (Tryz.prog.info? 59).map (·.size) = some 5 := by kernel_rfl
  have hr := run_loadVar_row (P := Tryz.prog) w g2 59 59 cs (0, 0) _ hg Tryz.underlying59 rfl (by rw [hi, hs])
  have hu := Tryz.underlying28
  have hr4 : (loadVar 28 ⟨g4, 0, none⟩).run Tryz.prog w = .ok (.int .i64 er) w := by simp [loadVar, isAgg, run_underlying hu, hc]
  simp [results, Tryz.results98, h2', h4', asAddr, hr, hr4]
/-- What Read answers. -/
def readI (l : List UInt8) : In × Nat × Int := match readR l 0 with | .inl (x, j) => (x, j, 0) | .inr er => ((0, 0, 0, 0, 0), 0, er)
set_option maxRecDepth 100000 in
set_option maxHeartbeats 4000000 in
theorem read8 {n : Nat} (v : Value) (l : List UInt8) (w : World) (hv : Bytes n w v l) (hw : Widths w) :
    Calls Tryz.prog 98 #[v] w fun e w' => e = .returned (.tuple #[insV (readI l).1, .int .i64 ((readI l).2.1 : Nat), .int .i64 (readI l).2.2]) ∧ Adds w w' := by
  have hmf : ∀ (fn : Fn) (first cap : Array Value) (w : World), (Instr.makeFunc fn first cap).run Tryz.prog w = .ok (.func fn first cap) w := fun _ _ _ _ => rfl
  obtain ⟨ao, cap, rfl, hv1, hv2, _⟩ := id hv
  clear hv1 hv2
  have hgl := World.block_lt_of_cell? w _ hw.c0
  obtain ⟨w1, hw1⟩ : ∃ w1, ((w.alloc (.cells #[.int .i64 0, .int .i64 0, .int .i64 0, .int .i64 0, .int .u32 0] 59)).alloc (.cells #[.int .i64 0] 28)).alloc (.cells #[.slice ao l.length cap, .int .i64 0] 186) = w1 := ⟨_, rfl⟩
  have HA1 := Lib.hid (show Adds w w1 by rw [← hw1]; exact (((Gr.new _ _).alloc _).alloc _).adds)
  have HB2 := Lib.hid (show BkS 59 w1 w.heap.size (insC (0, 0, 0, 0, 0)) by rw [← hw1]; exact (BkS.new 59 w (insC (0, 0, 0, 0, 0))).adds ((Gr.new _ _).alloc _).adds)
  have HB4 := Lib.hid (show BkS 28 w1 (w.heap.size + 1) [.int .i64 0] by
    rw [← hw1]
    have h : BkS 28 ((w.alloc (.cells #[.int .i64 0, .int .i64 0, .int .i64 0, .int .i64 0, .int .u32 0] 59)).alloc (.cells #[.int .i64 0] 28)) (w.heap.size + 1) [.int .i64 0] := heap_new1 _ _ _
    exact h.adds (Gr.new _ _).adds)
  have HB5 := Lib.hid (show BkS 186 w1 (w.heap.size + 1 + 1) (rdC (.slice ao l.length cap) 0) by
    rw [← hw1]
    unfold BkS; exact heap_new2 _ _ _ _)
  have e1 : w1.cell? ⟨w.heap.size + 1 + 1, 1, none⟩ = some (.int .i64 0) := HB5.out.cell 1
  have e2 := HB5.out.free 1
  obtain ⟨w0, hw0⟩ : ∃ w0, w1.setCell ⟨w.heap.size + 1 + 1, 1, none⟩ (.int .i64 0) = w0 := ⟨_, rfl⟩
  have HA0 := Lib.hid (show Adds w w0 by rw [← hw0]; exact Adds.set HA1.out (by omega) 1 _)
  have HB20 := Lib.hid (show BkS 59 w0 w.heap.size (insC (0, 0, 0, 0, 0)) by rw [← hw0]; exact HB2.out.other (by omega) _)
  have HB40 := Lib.hid (show BkS 28 w0 (w.heap.size + 1) [.int .i64 0] by rw [← hw0]; exact HB4.out.other (by omega) _)
  have HB50 := Lib.hid (show BkS 186 w0 (w.heap.size + 1 + 1) (rdC (.slice ao l.length cap) 0) by rw [← hw0]; exact HB5.out.set 1 (.int .i64 0))
  have HR := Lib.hid (bytesR8 (w.heap.size + 1 + 1) (by omega) hgl (.slice ao l.length cap) l 0 (Nat.zero_le _) w0 HA0.out.size (hv.here.below HA0.out) (hw.adds HA0.out) HB50.out)
  clear HB2 HB4 HB5 HA1
  unfold readI
  clear hv hw hgl
  rcases hrr : readR l 0 with ⟨x, j⟩ | er
  · rw [hrr] at HR
    have HC := Lib.hid (show Calls Tryz.prog 130 #[.pointer (some ⟨w.heap.size + 1 + 1, 0, none⟩)] w0 fun e w' => e = .returned (insV x) ∧ BkS 186 w' (w.heap.size + 1 + 1) (rdC (.slice ao l.length cap) j) ∧ TnS (w.heap.size + 1 + 1) w0 w' from HR.out.mono fun e w' ⟨h1, h2, h3⟩ => ⟨h2, h3, h1⟩)
    clear HR hrr
    go_enter_defers Tryz.func98, Tryz.ntmps98
    go_wp2_with (go_at_call 130; refine HC.out.mono ?_; rintro e w2 ⟨rfl, q1, q2⟩; have HQ := Lib.hid (And.intro q1 q2); clear q1 q2)
    obtain ⟨xo, xa, xb, xc, xi⟩ := x
    have b4 := HB40.out.tn HQ.out.2 (by omega)
    have b2 := HB20.out.tn HQ.out.2 (by omega)
    obtain ⟨w6, hw6⟩ : ∃ w6, w2.alloc (.cells #[.int .i64 xo, .int .i64 xa, .int .i64 xb, .int .i64 xc, .int .u32 xi] 59) = w6 := ⟨_, rfl⟩
    have a6 : Adds w2 w6 := by rw [← hw6]; exact (Gr.new _ _).adds
    have HB6 := Lib.hid (show BkS 59 w6 w2.heap.size (insC (xo, xa, xb, xc, xi)) by rw [← hw6]; exact BkS.new _ _ _)
    have HA6 := Lib.hid (Adds.trans (TnS.own HA0.out (by omega) HQ.out.2 : Adds w w2) a6)
    have H2 := Lib.hid (b2.adds a6); have H4 := Lib.hid (b4.adds a6); have H5 := Lib.hid (HQ.out.1.adds a6)
    obtain ⟨n2, hn2⟩ : ∃ n, w.heap.size = n := ⟨_, rfl⟩
    obtain ⟨n4, hn4⟩ : ∃ n, n2 + 1 = n := ⟨_, rfl⟩
    obtain ⟨n5, hn5⟩ : ∃ n, n4 + 1 = n := ⟨_, rfl⟩
    obtain ⟨n6, hn6⟩ : ∃ n, w2.heap.size = n := ⟨_, rfl⟩
    have HNs := Lib.hid (show n2 = w.heap.size ∧ n4 = n2 + 1 ∧ n5 = n4 + 1 ∧ n5 < n6 from ⟨hn2.symm, hn4.symm, hn5.symm, by have := HQ.out.1.lt; omega⟩)
    try simp only at hw6
    rw [hw6]
    rw [hn2, hn4, hn5] at H5
    rw [hn2, hn4] at H4
    rw [hn2] at H2
    rw [hn6] at HB6
    rw [hn2, hn4, hn5, hn6]
    have hmo : Tryz.prog.follows .mixedOrders = true := by kernel_rfl
    clear hw6 hn2 hn4 hn5 hn6 b4 b2 a6 HQ HC HB20 HB40 HB50
    refine (wpIn_wide (n := 6)).1 ?_
    refine wpIn_region_inv (fun L b' w3 => b' = ({ tmps := #[Value.slice ao l.length cap, undef, Value.pointer (some { block := n2, off := 0 }), sel8 (L 4) (Value.int IntKind.i64 ((j : Nat) : Int)) (Value.int IntKind.i64 0), Value.pointer (some { block := n4, off := 0 }), Value.pointer (some { block := n5, off := 0 }), Value.pointer (some { block := n6, off := 0 }), Value.func (Fn.func 129) #[] #[Value.pointer (some { block := n4, off := 0 })], Value.slice ao l.length cap, Value.agg #[Value.slice ao l.length cap, Value.int IntKind.i64 0], insV (xo, xa, xb, xc, xi), sel8 (L 0) (Value.agg #[Value.int IntKind.i64 xo, Value.int IntKind.i64 xa, Value.int IntKind.i64 xb, Value.int IntKind.i64 xc, Value.int IntKind.u32 xi]) (undef), sel8 (L 1) (Value.pointer (some { block := n5, off := 1 })) (undef), sel8 (L 2) (Value.int IntKind.i64 ((j : Nat) : Int)) (undef)], defers := [{ target := Target.fn (Fn.func 129) #[Value.pointer (some { block := n4, off := 0 })], args := #[] }] } : Act) ∧ BkS 59 w3 n2 (cond (L 3) (insC (xo, xa, xb, xc, xi)) (insC (0, 0, 0, 0, 0))) ∧ BkS 28 w3 n4 [.int .i64 0] ∧ BkS 59 w3 n6 (insC (xo, xa, xb, xc, xi)) ∧ BkS 186 w3 n5 (rdC (.slice ao l.length cap) j) ∧ Adds w w3) hmo (by kernel_rfl) ?inv0 ?step ?fin
    case inv0 => exact ⟨rfl, H2.out.adds (Adds.drew _), H4.out.adds (Adds.drew _), HB6.out.adds (Adds.drew _), H5.out.adds (Adds.drew _), Adds.trans HA6.out (Adds.drew _)⟩
    case step =>
      rintro L b' w3 i o ho hL hC he ⟨rfl, hP⟩
      clear hC
      have HP := Lib.hid hP
      have i0 : w3.cell? ⟨n6, 0, none⟩ = some (.int .i64 xo) := hP.2.2.1.cell 0
      have i1 : w3.cell? ⟨n6, 1, none⟩ = some (.int .i64 xa) := hP.2.2.1.cell 1
      have i2 : w3.cell? ⟨n6, 2, none⟩ = some (.int .i64 xb) := hP.2.2.1.cell 2
      have i3 : w3.cell? ⟨n6, 3, none⟩ = some (.int .i64 xc) := hP.2.2.1.cell 3
      have i4 : w3.cell? ⟨n6, 4, none⟩ = some (.int .u32 xi) := hP.2.2.1.cell 4
      have r1 : w3.cell? ⟨n5, 1, none⟩ = some (.int .i64 (j : Int)) := hP.2.2.2.1.cell 1
      clear hP
      rcases i with _ | _ | _ | _ | _ | _ | i
      · simp only [List.getElem?_cons_zero, Option.some.injEq] at ho
        subst ho
        try simp [Region.binds] at he
        try simp only []
        gi_wp2
        refine ⟨by simp [sel8, *], (by first | exact HP.out | simpa [he] using HP.out)⟩
      · simp only [List.getElem?_cons_zero, List.getElem?_cons_succ, Option.some.injEq] at ho
        subst ho
        try simp [Region.binds] at he
        try simp only []
        gi_wp2
        refine ⟨by simp [sel8, *], (by first | exact HP.out | simpa [he] using HP.out)⟩
      · simp only [List.getElem?_cons_zero, List.getElem?_cons_succ, Option.some.injEq] at ho
        subst ho
        try simp [Region.binds] at he
        try simp only [he, sel8_t]
        gi_wp2
        refine ⟨by simp [sel8, *], (by first | exact HP.out | simpa [he] using HP.out)⟩
      · simp only [List.getElem?_cons_zero, List.getElem?_cons_succ, Option.some.injEq] at ho
        subst ho
        try simp [Region.binds] at he
        simp only [he, sel8_t]
        have hz := HP.out.1
        rw [hL] at hz
        have HZ := Lib.hid (show BkS 59 w3 n2 (insC (0, 0, 0, 0, 0)) from hz)
        have x0 : w3.cell? ⟨n2, 0, none⟩ = some (.int .i64 0) := HZ.out.cell 0
        have x1 : w3.cell? ⟨n2, 1, none⟩ = some (.int .i64 0) := HZ.out.cell 1
        have x2 : w3.cell? ⟨n2, 2, none⟩ = some (.int .i64 0) := HZ.out.cell 2
        have x3 : w3.cell? ⟨n2, 3, none⟩ = some (.int .i64 0) := HZ.out.cell 3
        have x4 : w3.cell? ⟨n2, 4, none⟩ = some (.int .u32 0) := HZ.out.cell 4
        have y0 := HZ.out.free 0
        have y1 := HZ.out.free 1
        have y2 := HZ.out.free 2
        have y3 := HZ.out.free 3
        have y4 := HZ.out.free 4
        clear hz
        gi_wp2
        have hT := (((((TnS.setCell n2 0 w3 (.int .i64 xo)).trans (TnS.setCell n2 1 _ (.int .i64 xa))).trans (TnS.setCell n2 2 _ (.int .i64 xb))).trans (TnS.setCell n2 3 _ (.int .i64 xc))).trans (TnS.setCell n2 4 _ (.int .u32 xi)))
        have hb := (((((HZ.out.set 0 (.int .i64 xo)).set 1 (.int .i64 xa)).set 2 (.int .i64 xb)).set 3 (.int .i64 xc)).set 4 (.int .u32 xi))
        refine ⟨by simp [sel8, *], ?_⟩
        have h4 := HP.out.2.1.tn hT (by have := HNs.out; omega)
        have h6 := HP.out.2.2.1.tn hT (by have := HNs.out; omega)
        have h5 := HP.out.2.2.2.1.tn hT (by have := HNs.out; omega)
        have hA := TnS.own HP.out.2.2.2.2 (by have := HNs.out; omega) hT
        exact ⟨by simpa using hb, h4, h6, h5, hA⟩
      · simp only [List.getElem?_cons_zero, List.getElem?_cons_succ, Option.some.injEq] at ho
        subst ho
        try simp [Region.binds] at he
        try simp only [he, sel8_t]
        gi_wp2
        refine ⟨by simp [sel8, *], (by first | exact HP.out | simpa [he] using HP.out)⟩
      · simp only [List.getElem?_cons_zero, List.getElem?_cons_succ, Option.some.injEq] at ho
        subst ho
        try simp [Region.binds] at he
        try simp only [he, sel8_t]
        have z0 : w3.cell? ⟨n4, 0, none⟩ = some (.int .i64 0) := HP.out.2.1.cell 0
        have z1 := HP.out.2.1.free 0
        gi_wp2
        have hT := TnS.setCell n4 0 w3 (.int .i64 0)
        refine ⟨by simp [sel8, *], ?_⟩
        have h2 := HP.out.1.tn hT (by have := HNs.out; omega)
        have h4 := HP.out.2.1.set 0 (.int .i64 0)
        have h6 := HP.out.2.2.1.tn hT (by have := HNs.out; omega)
        have h5 := HP.out.2.2.2.1.tn hT (by have := HNs.out; omega)
        have hA := TnS.own HP.out.2.2.2.2 (by have := HNs.out; omega) hT
        exact ⟨by simpa [he] using h2, h4, h6, h5, hA⟩
      · simp at ho
    case fin =>
      rintro b' w7 ⟨rfl, h2, h4, h6, h5, hA⟩
      simp only [List.length_cons, List.length_nil, Nat.reduceAdd, Nat.reduceLT, decide_true, sel8_t, cond_true] at h2 ⊢
      have HF := Lib.hid (And.intro h2 (And.intro h4 hA))
      clear h2 h4 h6 h5 hA
      go_wp2_with fail
      refine leaves_cons (f := 129) (args := #[.pointer (some ⟨n4, 0, none⟩)]) (by simp) (by simp [go_sem]) ?_
      refine (idle_read _ _).mono ?_
      rintro e u' w'' ⟨rfl, rfl, rfl⟩
      simp only [Leaves, settle]
      exact ⟨_, res_read _ _ n4 n2 _ 0 rfl rfl HF.out.1 rfl (HF.out.2.1.cell 0), rfl, HF.out.2.2⟩
  · rw [hrr] at HR
    have HC := Lib.hid (show Calls Tryz.prog 130 #[.pointer (some ⟨w.heap.size + 1 + 1, 0, none⟩)] w0 fun e w' => e = .panicked [{ v := .iface 187 (.int .i64 er), recovered := false }] ∧ TnS (w.heap.size + 1 + 1) w0 w' from HR.out.mono fun e w' ⟨h1, h2⟩ => ⟨h2, h1⟩)
    clear HR hrr
    go_enter_defers Tryz.func98, Tryz.ntmps98
    go_wp2_with (go_at_call 130; refine HC.out.mono ?_; rintro e w2 ⟨rfl, q⟩; have HT := Lib.hid q; clear q)
    have b4 := HB40.out.tn HT.out (by omega)
    have b2 := HB20.out.tn HT.out (by omega)
    refine leaves_cons (f := 129) (args := #[.pointer (some ⟨w.heap.size + 1, 0, none⟩)]) (by simp) (by simp [go_sem]) ?_
    refine (catch_read (w.heap.size + 1) 0 er [] w2 b4).mono ?_
    rintro e u' w'' ⟨rfl, rfl, rfl⟩
    have hA := (TnS.own HA0.out (by omega) HT.out : Adds w w2)
    have hA2 := Adds.set hA (b := w.heap.size + 1) (by omega) 0 (.int .i64 er)
    have d4 := (b4.set 0 (.int .i64 er)).cell 0
    have d2 := b2.other (c := w.heap.size + 1) (i := 0) (by omega) (.int .i64 er)
    simp only [settle]
    exact ⟨_, res_read _ _ (w.heap.size + 1) w.heap.size _ er rfl rfl d2 rfl d4, rfl, hA2⟩
end Go.Proofs.YthhegcngkpfcoaaGreatDoor
namespace Go.Proofs.YthhegcngkpfcoaaGreatDoor
open Go Go.RowKit Go.Shelf

theorem str_size8 (l : List UInt8) : (str l).size = l.length := by simp [str, ByteArray.size]
theorem str_bytes8 (w : World) (s : ByteArray) (hs : s.size ≤ 65536) : Bytes (Lib.bytesWorld w 5 s).heap.size (Lib.bytesWorld w 5 s) (.slice (some ⟨w.heap.size, 0, none⟩) s.size (grownCap w s.size 0 5)) s.data.toList := by
  have hb : w.heap.size < (Lib.bytesWorld w 5 s).heap.size := by rw [Lib.bytesWorld_size]; exact Nat.lt_succ_self _
  have hl : s.data.toList.length = s.size := by show s.data.toList.length = s.data.size; exact Array.length_toList
  refine ⟨some ⟨w.heap.size, 0, none⟩, grownCap w s.size 0 5, by rw [hl], by rw [hl]; exact grownCap_ge w s.size 0 5, grownCap_le_maxLen w s.size 0 5 (by unfold maxLen; omega), fun _ => ⟨w.heap.size, 0, rfl, hb, fun i hi => ?_⟩⟩
  rw [hl] at hi
  rw [Nat.zero_add]
  exact Lib.bytesWorld_cell w _ s i hi
theorem str_adds8 (w : World) (s : ByteArray) : Adds w (Lib.bytesWorld w 5 s) :=
  ⟨rfl, rfl, rfl, by rw [Lib.bytesWorld_size]; omega, fun k hk => Lib.bytesWorld_at_old w _ s k hk⟩
theorem run_str8 (s : ByteArray) (w : World) : (convert 9 27 (.string s)).run Tryz.prog w = .ok (.slice (some ⟨w.heap.size, 0, none⟩) s.size (grownCap w s.size 0 5)) (Lib.bytesWorld w 5 s) :=
  Lib.run_convert_string_bytes w _ _ _ s Tryz.underlying9 Tryz.underlying27 Tryz.underlying5
end Go.Proofs.YthhegcngkpfcoaaGreatDoor
namespace Go.Proofs.YthhegcngkpfcoaaGreatDoor
open Go Go.RowKit Go.Shelf

/-- What an Op names, by letters. -/
def lettN : Nat → List UInt8
  | 1 => [97, 105] | 2 => [97, 98] | 3 => [97, 98, 99, 107] | 4 => [105] | 5 => [97, 105] | 6 => [97, 98] | 7 => [97, 98] | 8 => [97, 98, 110, 102] | 9 => [97] | 10 => [98, 110, 102]
  | 11 => [97] | 12 => [97] | 13 => [97] | 14 => [97] | 15 => [97] | 16 => [97] | 17 => [97, 98] | 18 => [97] | 19 => [] | _ => [45]
theorem lett_cell (w : World) (k : Nat) (h : k < 19) : (w.alloc (.cells #[.string ⟨#[97, 105]⟩, .string ⟨#[97, 98]⟩, .string ⟨#[97, 98, 99, 107]⟩, .string ⟨#[105]⟩, .string ⟨#[97, 105]⟩, .string ⟨#[97, 98]⟩, .string ⟨#[97, 98]⟩, .string ⟨#[97, 98, 110, 102]⟩, .string ⟨#[97]⟩, .string ⟨#[98, 110, 102]⟩, .string ⟨#[97]⟩, .string ⟨#[97]⟩, .string ⟨#[97]⟩, .string ⟨#[97]⟩, .string ⟨#[97]⟩, .string ⟨#[97]⟩, .string ⟨#[97, 98]⟩, .string ⟨#[97]⟩, .string ⟨#[]⟩] 9)).cell? ⟨w.heap.size, k, none⟩ = some (.string (str (lettN (k + 1)))) := by
  rw [cell_of_row _ w.heap.size k _ _ _ (heap_new w _)]
  match k, h with
  | 0, _ | 1, _ | 2, _ | 3, _ | 4, _ | 5, _ | 6, _ | 7, _ | 8, _ | 9, _ | 10, _ | 11, _ | 12, _ | 13, _ | 14, _ | 15, _ | 16, _ | 17, _ | 18, _ => rfl
  | k + 19, h => exact absurd h (by omega)
set_option maxRecDepth 100000 in
set_option maxHeartbeats 4000000 in
theorem refNamesI_any (op : Nat) (h1 : 1 ≤ op) (h2 : op ≤ 19) (w : World) : Calls Tryz.prog 95 #[.int .i64 op] w fun e w' => e = .returned (.string (str (lettN op))) ∧ Adds w w' := by
  obtain ⟨k, rfl⟩ : ∃ k, op = k + 1 := ⟨op - 1, by omega⟩
  obtain ⟨w1, hw1⟩ : ∃ w1, w.alloc (.cells #[.string ⟨#[97, 105]⟩, .string ⟨#[97, 98]⟩, .string ⟨#[97, 98, 99, 107]⟩, .string ⟨#[105]⟩, .string ⟨#[97, 105]⟩, .string ⟨#[97, 98]⟩, .string ⟨#[97, 98]⟩, .string ⟨#[97, 98, 110, 102]⟩, .string ⟨#[97]⟩, .string ⟨#[98, 110, 102]⟩, .string ⟨#[97]⟩, .string ⟨#[97]⟩, .string ⟨#[97]⟩, .string ⟨#[97]⟩, .string ⟨#[97]⟩, .string ⟨#[97]⟩, .string ⟨#[97, 98]⟩, .string ⟨#[97]⟩, .string ⟨#[]⟩] 9) = w1 := ⟨_, rfl⟩
  have c := lett_cell w k (by omega)
  rw [hw1] at c
  have HA := Lib.hid (show Adds w w1 by rw [← hw1]; exact Adds.new _ _)
  obtain ⟨s, hs⟩ : ∃ s, str (lettN (k + 1)) = s := ⟨_, rfl⟩
  rw [hs] at c ⊢
  have e : ((k + 1 : Nat) : Int) - 1 = (k : Int) := by omega
  have l1 : ¬ ((k + 1 : Nat) : Int) < 1 := by omega
  have l2 : ¬ (19 : Int) < ((k + 1 : Nat) : Int) := by omega
  have l3 : (k : Int) < 19 := by omega
  clear h1 h2 hs
  go_enter Tryz.func95, Tryz.ntmps95
  go_wp2
  go_ret
  exact ⟨rfl, HA.out⟩
theorem str_at (l : List UInt8) (j : Nat) (_hj : j < l.length) (h : j < (str l).size) : (str l)[j]'h = l[j] := by
  rfl
theorem has_take {l : List UInt8} {b c : UInt8} {j : Nat} (hj : l[j]? = some b) (h : (l.take j).contains c = false) (hne : b ≠ c) : (l.take (j + 1)).contains c = false := by
  rw [List.take_add_one, hj]
  show (l.take j ++ [b]).contains c = false
  simp only [List.contains_eq_mem, List.mem_append, List.mem_singleton, decide_eq_false_iff_not] at h ⊢
  rintro (h2 | h2)
  · exact h h2
  · exact hne h2.symm
set_option maxRecDepth 100000 in
set_option maxHeartbeats 4000000 in
theorem refIn_any (op : Nat) (h1 : 1 ≤ op) (h2 : op ≤ 19) (c : UInt8) (w : World) : Calls Tryz.prog 67 #[.int .i64 op, .int .u8 c.toNat] w fun e w' => e = .returned (.bool ((lettN op).contains c)) ∧ Adds w w' := by
  have HN := Lib.hid (refNamesI_any op h1 h2 w)
  have hlen : (lettN op).length ≤ 4 := by
    have h : ∀ k : Fin 20, (lettN k.val).length ≤ 4 := by decide
    exact h ⟨op, by omega⟩
  generalize lettN op = l at HN hlen ⊢
  obtain ⟨s, hs⟩ : ∃ s, str l = s := ⟨_, rfl⟩
  rw [hs] at HN
  have hsz : (s.size : Int) = (l.length : Nat) := by rw [← hs, str_size8]
  have HSt := Lib.hid hs
  have HLen := Lib.hid hlen
  clear h1 h2 hs hlen
  go_enter Tryz.func67, Tryz.ntmps67
  go_wp2_with (go_at_call 95; refine HN.out.mono ?_; rintro e w1 ⟨rfl, q⟩; have HA := Lib.hid q; clear q)
  go_loopw [6] (fun i wr => ∃ j : Nat, i = .int .i64 j ∧ j ≤ l.length ∧ wr = w1 ∧ Hid ((l.take j).contains c = false)) (fun i _ => l.length + 1 - (intOf i).toNat)
  case atStart => exact ⟨0, rfl, Nat.zero_le _, rfl, Lib.hid (by simp)⟩
  case round =>
    obtain ⟨j, rfl, hj, rfl, HT⟩ := hrel
    have hj4 : (j : Int) ≤ 4 := by have := HLen.out; omega
    by_cases hlt : j < l.length
    · have hltI : (j : Int) < (l.length : Nat) := by omega
      have hb : ∀ h : j < s.size, s[j]'h = l[j] := fun h => by
        have := HSt.out
        subst this
        exact str_at l j hlt h
      obtain ⟨b, hbb⟩ : ∃ b, l[j] = b := ⟨_, rfl⟩
      rw [hbb] at hb
      have HB := Lib.hid (show l[j]? = some b by rw [← hbb]; exact List.getElem?_eq_getElem hlt)
      have HLt := Lib.hid hlt
      have hj2 : j < s.size := by omega
      have hbx : (s[j]'hj2).toNat = b.toNat := by rw [hb]
      by_cases he : b = c
      · subst he
        have HR := Lib.hid (show l.contains b = true by have := List.mem_of_getElem? HB.out; simpa using this)
        clear hbb hlt hb
        go_wp2
        go_ret
        rw [HR.out]
        exact ⟨rfl, HA.out⟩
      · have hne : ((b.toNat : Int) == (c.toNat : Int)) = false := by
          rw [beq_eq_false_iff_ne]
          intro h
          exact he (UInt8.toNat_inj.1 (by omega))
        have HT2 := Lib.hid (has_take HB.out HT.out he)
        clear hbb hlt hb he
        go_wp2
        go_roundw
        case rel => exact ⟨j + 1, by go_num, HLt.out, (by first | rfl | trivial), HT2⟩
        case measure => simp [intOf]; have := HLt.out; omega
    · have HR := Lib.hid (show l.contains c = false by have := HT.out; rwa [List.take_of_length_le (by omega)] at this)
      have hjn : (j : Int) = (l.length : Nat) := by omega
      clear hlt
      go_wp2
      go_ret
      rw [HR.out]
      exact ⟨rfl, HA.out⟩
set_option maxRecDepth 100000 in
theorem refReg_any (n : Int) (z : Bool) (w : World) : Calls Tryz.prog 126 #[.int .i64 n, .bool z] w fun e w' => e = .returned (.bool (decide (n = 0) || (z && decide (0 ≤ n ∧ n ≤ 15)))) ∧ w = w' := by
  by_cases h0 : n = 0
  · subst h0
    cases z <;> (
      go_enter Tryz.func126, Tryz.ntmps126
      go_wp2
      go_ret
      exact ⟨by simp, rfl⟩)
  · have hz : (n == 0) = false := beq_eq_false_iff_ne.2 h0
    cases z
    · go_enter Tryz.func126, Tryz.ntmps126
      go_wp2
      go_ret
      exact ⟨by simp [h0], rfl⟩
    · by_cases h1 : 0 ≤ n
      · by_cases h2 : n ≤ 15
        · go_enter Tryz.func126, Tryz.ntmps126
          go_wp2
          go_ret
          exact ⟨by simp [h0, h1, h2], rfl⟩
        · go_enter Tryz.func126, Tryz.ntmps126
          go_wp2
          go_ret
          exact ⟨by simp []; omega, rfl⟩
      · go_enter Tryz.func126, Tryz.ntmps126
        go_wp2
        go_ret
        exact ⟨by simp []; omega, rfl⟩
end Go.Proofs.YthhegcngkpfcoaaGreatDoor
