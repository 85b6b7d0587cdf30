/- Parse: the instruction of a text, or an error: contract. -/
import Derived.Test.YtkodjmdghjcndaaGreatDoorIX2
namespace Go.Proofs.YtkodjmdghjcndaaGreatDoor
open Go Go.RowKit Go.Shelf Go.Lib

set_option maxRecDepth 100000 in
theorem catch_parse (b : Nat) (x v : Int) (older : List PanicEntry) (w : World) (hB : BkS 27 w b [.int .i64 x]) :
    CallsD Tryz.prog 37 #[.pointer (some ⟨b, 0, none⟩)] (.panicking ({ v := .iface 140 (.int .i64 v), recovered := false } :: older)) w fun e u' w' =>
      e = .returned (.tuple #[]) ∧ u' = .panicking ({ v := .iface 140 (.int .i64 v), recovered := true } :: older) ∧ w' = w.setCell ⟨b, 0, none⟩ (.int .i64 v) := by
  have c0 : w.cell? ⟨b, 0, none⟩ = some (.int .i64 x) := hB.cell 0
  have f0 := hB.free 0
  have hn := iface_some 140 (.int .i64 v)
  have HT := Lib.hid (told8 v w)
  clear hB
  refine callsD_of_wpS Tryz.func37 rfl fun c₀ cs hu => ?_
  apply wpS_seq
  apply wpS_region
  simp [wpOpsS, go_sem, recoverD, hu, Tryz.ntmps37, Exit.thenS]
  refine wpS_of_wp ?_
  simp only [Array.replicate_succ, Array.replicate_zero, List.push_toArray, List.append_toArray, List.nil_append, List.cons_append, List.setIfInBounds_toArray, List.set_cons_zero, List.set_cons_succ]
  go_wp2_with (go_at_call 38; refine HT.out.mono ?_; rintro e w2 ⟨rfl, rfl⟩)
  simp [bodyPostS, results, Tryz.results37]
set_option maxRecDepth 100000 in
theorem idle_parse (p : Value) (w : World) :
    CallsD Tryz.prog 37 #[p] .returning w fun e u' w' => e = .returned (.tuple #[]) ∧ u' = .returning ∧ w' = w := by
  have hn := iface_none
  refine callsD_of_wpS Tryz.func37 rfl fun c₀ cs hu => ?_
  apply wpS_seq
  apply wpS_region
  simp [wpOpsS, go_sem, recoverD, hu, Tryz.ntmps37, Exit.thenS]
  refine wpS_of_wp ?_
  simp only [Array.replicate_succ, Array.replicate_zero, List.push_toArray, List.append_toArray, List.nil_append, List.cons_append, List.setIfInBounds_toArray, List.set_cons_zero, List.set_cons_succ]
  go_wp2_with fail
  cases c₀
  simp_all [bodyPostS, results, Tryz.results37]

theorem res_parse (tmps : Array Value) (w : World) (g3 g2 : Nat) (cs : Array Value) (er : Int) (h2 : tmps.getD 2 undef = .pointer (some ⟨g2, 0, none⟩)) (h3 : tmps.getD 3 undef = .pointer (some ⟨g3, 0, none⟩))
    (hg : w.heap[g2]? = some (.cells cs 25 (0, 0))) (hs : cs.size = 5) (hc : w.cell? ⟨g3, 0, none⟩ = some (.int .i64 er)) : (results Tryz.f10 tmps).run Tryz.prog w = .ok (.tuple #[.agg cs, .int .i64 er]) w := by
  have h2' : tmps[2]?.getD undef = .pointer (some ⟨g2, 0, none⟩) := by simpa using h2
  have h3' : tmps[3]?.getD undef = .pointer (some ⟨g3, 0, none⟩) := by simpa using h3
  have hr := run_loadVar_row (P := Tryz.prog) w g2 25 25 cs (0, 0) _ hg Tryz.underlying25 rfl (by rw [hs]; kernel_rfl)
  have hu := Tryz.underlying27
  have hr4 : (loadVar 27 ⟨g3, 0, none⟩).run Tryz.prog w = .ok (.int .i64 er) w := by simp [loadVar, isAgg, run_underlying hu, hc]
  simp [results, Tryz.results10, h2', h3', asAddr, hr, hr4]
theorem run_raw8 (s : ByteArray) (w : World) : (convert 9 89 (.string s)).run Tryz.prog w = .ok (.slice (some ⟨w.heap.size, 0, none⟩) s.size (grownCap w s.size 0 5)) (Lib.bytesWorld w 5 s) :=
  Lib.run_convert_string_bytes w _ _ _ s Tryz.underlying9 Tryz.underlying89 Tryz.underlying5
theorem bytes_size8 (w : World) (s : ByteArray) : (Lib.bytesWorld w 5 s).heap.size = w.heap.size + 1 := by
  simp [Lib.bytesWorld, World.freeze]
/-- The text of an instruction, of whatever. -/
def txtI (x : In) : List UInt8 := if mayI x then textI x else []
theorem text8 (x : In) (hx : OkIn x) (w : World) (hv : IVars w) : Calls Tryz.prog 9 #[insV x] w fun e w' => e = .returned (.tuple #[.string (str (txtI x)), .int .i64 (errI x)]) ∧ Adds w w' := by
  unfold txtI errI
  cases hm : mayI x
  · exact text8_no x hx hm w
  · exact text8_yes x hx hm w hv
theorem textPl_ok : ∀ (P : List (Nat × Nat)) (l : List UInt8) (k : Nat) (x y : In), textPl P l k x = some y → okT x → okT y ∧ y.1 = x.1
  | [], _, _, x, y, h, hx => by
    obtain rfl : x = y := Option.some.inj h
    exact ⟨hx, rfl⟩
  | p :: t, l, k, x, y, h, hx => by
    rw [textPl] at h
    split at h
    · exact textPl_ok t l k x y h hx
    · split at h
      · obtain ⟨h1, h2⟩ := textPl_ok t _ _ _ y h (okT_put _ _ _ (wU_lt _ _) hx)
        refine ⟨h1, h2.trans ?_⟩
        unfold putP; split <;> rfl
      · cases h
theorem textR_ok {l : List UInt8} {x : In} (h : textR l = some x) : OkIn x := by
  unfold textR at h
  split at h
  · rename_i h0
    obtain ⟨⟨op, e, h1, h2⟩, hok⟩ := begun_op h0
    obtain ⟨h3, h4⟩ := textPl_ok _ _ _ _ _ h hok
    refine ⟨?_, h3.2⟩
    rw [h4, e]
    exact wf_u8 op (by omega)
  · cases h
/-- What Parse answers. -/
def parseO (l : List UInt8) (r : Option In) : In × Int := match r with | some x => if txtI x = l then (x, 0) else ((0, 0, 0, 0, 0), 180) | none => ((0, 0, 0, 0, 0), 180)
def parseI (l : List UInt8) : In × Int := parseO l (textR l)
theorem parseI_is (l : List UInt8) : parseI l = parseO l (textR l) := by unfold parseI; with_reducible rfl
theorem parseO_none (l : List UInt8) : parseO l none = ((0, 0, 0, 0, 0), 180) := rfl
theorem parseO_yes {l : List UInt8} {x : In} (h : txtI x = l) : parseO l (some x) = (x, 0) := by unfold parseO; exact if_pos h
theorem parseO_no {l : List UInt8} {x : In} (h : ¬ txtI x = l) : parseO l (some x) = ((0, 0, 0, 0, 0), 180) := by unfold parseO; exact if_neg h
set_option maxRecDepth 100000 in
set_option maxHeartbeats 4000000 in
theorem parse8 (s : ByteArray) (hs : s.size ≤ 65536) (w : World) (hw : IVars w) :
    Calls Tryz.prog 10 #[.string s] w fun e w' => e = .returned (.tuple #[insV (parseI s.data.toList).1, .int .i64 (parseI s.data.toList).2]) ∧ Adds w w' := by
  have hmf : ∀ (fn : Fn) (first cap : Array Value) (w : World), (Instr.makeFunc fn first cap).run Tryz.prog w = .ok (.func fn first cap) w := fun _ _ _ _ => rfl
  have hrs := run_raw8 s
  have HW := Lib.hid hw
  have HSs := Lib.hid hs
  clear hw hs
  obtain ⟨l, hl⟩ : ∃ l, s.data.toList = l := ⟨_, rfl⟩
  have HSl := Lib.hid (show s = str l by rw [← hl]; rfl)
  have HLs := Lib.hid hl
  go_enter_defers Tryz.func10, Tryz.ntmps10
  go_wp2_with fail
  obtain ⟨wa, hwa⟩ : ∃ wa, (w.alloc (.cells #[.int .i64 0, .int .i64 0, .int .i64 0, .int .i64 0, .int .u32 0] 25)).alloc (.cells #[.int .i64 0] 27) = wa := ⟨_, rfl⟩
  have HAa := Lib.hid (show Adds w wa by rw [← hwa]; exact ((Gr.new _ _).alloc _).adds)
  have HSa := Lib.hid (show wa.heap.size = w.heap.size + 1 + 1 by rw [← hwa]; simp)
  have HB2 := Lib.hid (show BkS 25 wa w.heap.size (insC (0, 0, 0, 0, 0)) by rw [← hwa]; exact (BkS.new 25 w (insC (0, 0, 0, 0, 0))).adds (Gr.new _ _).adds)
  have HB3 := Lib.hid (show BkS 27 wa (w.heap.size + 1) [.int .i64 0] by
    rw [← hwa]
    exact heap_new1 _ _ _)
  rw [hwa]
  clear hwa
  have hbb := str_bytes8 wa s HSs.out
  rw [HSa.out, hl] at hbb
  obtain ⟨wB, hwB⟩ : ∃ wB, Lib.bytesWorld wa 5 s = wB := ⟨_, rfl⟩
  have HAB := Lib.hid (show Adds wa wB by rw [← hwB]; exact str_adds8 _ _)
  obtain ⟨gc, hgc⟩ : ∃ gc, grownCap wa s.size 0 5 = gc := ⟨_, rfl⟩
  obtain ⟨br, hbr⟩ : ∃ br, wB.heap.size = br := ⟨_, rfl⟩
  rw [hwB, hbr, hgc, show s.size = l.length by rw [HSl.out, str_size8]] at hbb
  have HVb := Lib.hid hbb
  rw [hwB, hbr, hgc]
  rw [show s.size = l.length by rw [HSl.out, str_size8]]
  obtain ⟨n2, hn2⟩ : ∃ n, w.heap.size = n := ⟨_, rfl⟩
  obtain ⟨n3, hn3⟩ : ∃ n, n2 + 1 = n := ⟨_, rfl⟩
  obtain ⟨n4, hn4⟩ : ∃ n, n3 + 1 = n := ⟨_, rfl⟩
  have hbs : wB.heap.size = w.heap.size + 1 + 1 + 1 := by rw [← hwB, bytes_size8 wa s, HSa.out]
  have HNs := Lib.hid (show n2 = w.heap.size ∧ n3 = n2 + 1 ∧ n4 = n3 + 1 ∧ n4 < br from ⟨hn2.symm, hn3.symm, hn4.symm, by omega⟩)
  clear hbs
  obtain ⟨w1, hw1⟩ : ∃ w1, wB.alloc (.cells #[.slice (some ⟨n4, 0, none⟩) l.length gc, .int .i64 0] 91) = w1 := ⟨_, rfl⟩
  rw [hn2, hn3] at HB3
  rw [hn2] at HB2
  rw [hn2, hn3, hn4] at HVb
  rw [hn2, hn3, hn4, hw1]
  clear hn2 hn3 hn4
  have HR1 := Lib.hid (show BkS 91 w1 br (rdC (.slice (some ⟨n4, 0, none⟩) l.length gc) 0) by rw [← hw1, ← hbr]; exact BkS.new _ _ _)
  have HA1 := Lib.hid (show Adds wB w1 by rw [← hw1]; exact (Gr.new _ _).adds)
  have HC := Lib.hid (textRd8 br wB ⟨n4, 0, none⟩ gc l (by have h := HSs.out; rw [HSl.out, str_size8] at h; exact h) HVb.out (Nat.le_of_eq hbr.symm) (HW.out.adds (Adds.trans HAa.out HAB.out)) (Nat.le_of_eq hbr) w1 (HA1.out) HR1.out)
  unfold TxInPost at HC
  have HPI := Lib.hid (parseI_is l)
  have HA01 := Lib.hid (Adds.trans HAa.out (Adds.trans HAB.out HA1.out))
  have HB21 := Lib.hid (HB2.out.adds (Adds.trans HAB.out HA1.out))
  have HB31 := Lib.hid (HB3.out.adds (Adds.trans HAB.out HA1.out))
  have hok := @textR_ok l
  obtain ⟨tr, htr⟩ : ∃ tr, textR l = tr := ⟨_, rfl⟩
  rw [htr] at HC HPI hok
  clear htr hw1 hwB hgc hbb hbr hl hrs
  cases tr with
  | none =>
    simp only [] at HC
    rw [parseO_none] at HPI
    have HC1 := Lib.hid (show Calls Tryz.prog 39 #[.pointer (some ⟨br, 0, none⟩)] w1 fun e w' => e = .panicked [{ v := .iface 140 (.int .i64 180), recovered := false }] ∧ TnS br w1 w' from HC.out.mono fun e w' h => ⟨h.2, h.1⟩)
    clear hok
    go_wp2_with (go_at_call 39; refine HC1.out.mono ?_; rintro e w2 ⟨rfl, q⟩; have HT := Lib.hid q; clear q)
    have b3 := HB31.out.tn HT.out (by have := HNs.out; omega)
    have b2 := HB21.out.tn HT.out (by have := HNs.out; omega)
    try simp only [Exit.then]
    refine leaves_cons (f := 37) (args := #[.pointer (some ⟨n3, 0, none⟩)]) (by simp) (by simp [go_sem]) ?_
    refine (catch_parse n3 0 180 [] w2 b3).mono ?_
    rintro e u' w'' ⟨rfl, rfl, rfl⟩
    have hA := (TnS.own HA01.out (by have := HNs.out; omega) HT.out : Adds w w2)
    have hA2 := Adds.set hA (b := n3) (by have := HNs.out; omega) 0 (.int .i64 180)
    have d3 := (b3.set 0 (.int .i64 180)).cell 0
    have d2 := b2.other (c := n3) (i := 0) (by have := HNs.out; omega) (.int .i64 180)
    simp only [settle]
    refine ⟨_, res_parse _ _ n3 n2 _ 180 rfl rfl d2 rfl d3, ?_, hA2⟩
    rw [HLs.out, HPI.out]
  | some x =>
    simp only [] at HC
    have HC1 := Lib.hid (show Calls Tryz.prog 39 #[.pointer (some ⟨br, 0, none⟩)] w1 fun e w' => e = .returned (insV x) ∧ TnS br w1 w' from HC.out.mono fun e w' h => ⟨h.2, h.1⟩)
    have HTx := Lib.hid (fun W (h : Adds w W) => text8 x (hok rfl) W (HW.out.adds h))
    clear hok
    generalize errI x = er0 at HTx
    obtain ⟨tx, htx⟩ : ∃ tx, txtI x = tx := ⟨_, rfl⟩
    rw [htx] at HTx
    obtain ⟨xo, xa, xb, xc, xi⟩ := x
    have HTe := Lib.hid htx
    clear htx
    go_wp2_with (go_at_call 39; refine HC1.out.mono ?_; rintro e w2 ⟨rfl, q⟩; have HT := Lib.hid q; clear q)
    obtain ⟨n5, hn5⟩ : ∃ n, w2.heap.size = n := ⟨_, rfl⟩
    obtain ⟨w6, hw6⟩ : ∃ w6, w2.alloc (.cells #[.int .i64 xo, .int .i64 xa, .int .i64 xb, .int .i64 xc, .int .u32 xi] 25) = w6 := ⟨_, rfl⟩
    have HA6 := Lib.hid (show Adds w w6 by rw [← hw6]; exact Adds.trans (TnS.own HA01.out (by have := HNs.out; omega) HT.out : Adds w w2) (Gr.new _ _).adds)
    have HI6 := Lib.hid (show BkS 25 w6 n5 (insC (xo, xa, xb, xc, xi)) by rw [← hw6, ← hn5]; exact BkS.new _ _ _)
    have HB26 := Lib.hid (show BkS 25 w6 n2 (insC (0, 0, 0, 0, 0)) by rw [← hw6]; exact (HB21.out.tn HT.out (by have := HNs.out; omega)).adds (Gr.new _ _).adds)
    have HB36 := Lib.hid (show BkS 27 w6 n3 [.int .i64 0] by rw [← hw6]; exact (HB31.out.tn HT.out (by have := HNs.out; omega)).adds (Gr.new _ _).adds)
    rw [hn5, hw6]
    clear hn5 hw6
    have i0 : w6.cell? ⟨n5, 0, none⟩ = some (.int .i64 xo) := HI6.out.cell 0
    have i1 : w6.cell? ⟨n5, 1, none⟩ = some (.int .i64 xa) := HI6.out.cell 1
    have i2 : w6.cell? ⟨n5, 2, none⟩ = some (.int .i64 xb) := HI6.out.cell 2
    have i3 : w6.cell? ⟨n5, 3, none⟩ = some (.int .i64 xc) := HI6.out.cell 3
    have i4 : w6.cell? ⟨n5, 4, none⟩ = some (.int .u32 xi) := HI6.out.cell 4
    have hne : n2 ≠ n3 := by have := HNs.out; omega
    by_cases he : tx = l
    · have hq : ((str tx).toList == s.toList) = true := by rw [he, ← HSl.out]; simp
      have HPI := Lib.hid (show parseI l = ((xo, xa, xb, xc, xi), 0) by rw [HPI.out, parseO_yes (HTe.out.trans he)])
      clear he
      go_wp2_with (go_at_call 9; refine (HTx.out w6 HA6.out).mono ?_; rintro e w8 ⟨rfl, q⟩; have HF2 := Lib.hid (HB26.out.adds q); have HF3 := Lib.hid (HB36.out.adds q); have HFi := HI6.out.adds q; have HF4 := Lib.hid (Adds.trans HA6.out q); have k0 : w8.cell? ⟨n5, 0, none⟩ = some (.int .i64 xo) := HFi.cell 0; have k1 : w8.cell? ⟨n5, 1, none⟩ = some (.int .i64 xa) := HFi.cell 1; have k2 : w8.cell? ⟨n5, 2, none⟩ = some (.int .i64 xb) := HFi.cell 2; have k3 : w8.cell? ⟨n5, 3, none⟩ = some (.int .i64 xc) := HFi.cell 3; have k4 : w8.cell? ⟨n5, 4, none⟩ = some (.int .u32 xi) := HFi.cell 4; have z0 : w8.cell? ⟨n2, 0, none⟩ = some (.int .i64 0) := HF2.out.cell 0; have z1 : w8.cell? ⟨n2, 1, none⟩ = some (.int .i64 0) := HF2.out.cell 1; have z2 : w8.cell? ⟨n2, 2, none⟩ = some (.int .i64 0) := HF2.out.cell 2; have z3 : w8.cell? ⟨n2, 3, none⟩ = some (.int .i64 0) := HF2.out.cell 3; have z4 : w8.cell? ⟨n2, 4, none⟩ = some (.int .u32 0) := HF2.out.cell 4; have y0 := HF2.out.free 0; have y1 := HF2.out.free 1; have y2 := HF2.out.free 2; have y3 := HF2.out.free 3; have y4 := HF2.out.free 4; have x0 : w8.cell? ⟨n3, 0, none⟩ = some (.int .i64 0) := HF3.out.cell 0; have x1 := HF3.out.free 0; clear q HFi)
      have hb2 := (((((HF2.out.set 0 (.int .i64 xo)).set 1 (.int .i64 xa)).set 2 (.int .i64 xb)).set 3 (.int .i64 xc)).set 4 (.int .u32 xi))
      have hb3 := (((((HF3.out.other (c := n2) (i := 0) (by omega) (.int .i64 xo)).other (c := n2) (i := 1) (by omega) (.int .i64 xa)).other (c := n2) (i := 2) (by omega) (.int .i64 xb)).other (c := n2) (i := 3) (by omega) (.int .i64 xc)).other (c := n2) (i := 4) (by omega) (.int .u32 xi))
      have hc2 := hb2.other (c := n3) (i := 0) (by omega) (.int .i64 0)
      have hc3 := hb3.set 0 (.int .i64 0)
      have hA8 := Adds.set (TnS.own HF4.out (by have := HNs.out; omega) (((((TnS.setCell n2 0 w8 (.int .i64 xo)).trans (TnS.setCell n2 1 _ (.int .i64 xa))).trans (TnS.setCell n2 2 _ (.int .i64 xb))).trans (TnS.setCell n2 3 _ (.int .i64 xc))).trans (TnS.setCell n2 4 _ (.int .u32 xi))) : Adds w _) (b := n3) (by have := HNs.out; omega) 0 (.int .i64 0)
      try simp only [Exit.then]
      refine leaves_cons (f := 37) (args := #[.pointer (some ⟨n3, 0, none⟩)]) (by simp) (by simp [go_sem]) ?_
      refine (idle_parse _ _).mono ?_
      rintro e u' w'' ⟨rfl, rfl, rfl⟩
      simp only [Leaves, settle]
      refine ⟨_, res_parse _ _ n3 n2 _ 0 rfl rfl hc2 rfl (hc3.cell 0), ?_, hA8⟩
      rw [HLs.out, HPI.out]
      rfl
    · have hq : ((str tx).toList == s.toList) = false := beq_no (fun h => he (str_inj (h.trans HSl.out)))
      have HPI := Lib.hid (show parseI l = ((0, 0, 0, 0, 0), 180) by rw [HPI.out, parseO_no (fun h => he (HTe.out.symm.trans h))])
      clear he
      go_wp2_with (go_at_call 9; refine (HTx.out w6 HA6.out).mono ?_; rintro e w8 ⟨rfl, q⟩; have HF2 := Lib.hid (HB26.out.adds q); have HF3 := Lib.hid (HB36.out.adds q); have HF4 := Lib.hid (Adds.trans HA6.out q); have z0 : w8.cell? ⟨n2, 0, none⟩ = some (.int .i64 0) := HF2.out.cell 0; have z1 : w8.cell? ⟨n2, 1, none⟩ = some (.int .i64 0) := HF2.out.cell 1; have z2 : w8.cell? ⟨n2, 2, none⟩ = some (.int .i64 0) := HF2.out.cell 2; have z3 : w8.cell? ⟨n2, 3, none⟩ = some (.int .i64 0) := HF2.out.cell 3; have z4 : w8.cell? ⟨n2, 4, none⟩ = some (.int .u32 0) := HF2.out.cell 4; have y0 := HF2.out.free 0; have y1 := HF2.out.free 1; have y2 := HF2.out.free 2; have y3 := HF2.out.free 3; have y4 := HF2.out.free 4; have x0 : w8.cell? ⟨n3, 0, none⟩ = some (.int .i64 0) := HF3.out.cell 0; have x1 := HF3.out.free 0; clear q)
      have hb2 := (((((HF2.out.set 0 (.int .i64 0)).set 1 (.int .i64 0)).set 2 (.int .i64 0)).set 3 (.int .i64 0)).set 4 (.int .u32 0))
      have hb3 := (((((HF3.out.other (c := n2) (i := 0) (by omega) (.int .i64 0)).other (c := n2) (i := 1) (by omega) (.int .i64 0)).other (c := n2) (i := 2) (by omega) (.int .i64 0)).other (c := n2) (i := 3) (by omega) (.int .i64 0)).other (c := n2) (i := 4) (by omega) (.int .u32 0))
      have hc2 := hb2.other (c := n3) (i := 0) (by omega) (.int .i64 180)
      have hc3 := hb3.set 0 (.int .i64 180)
      have hA8 := Adds.set (TnS.own HF4.out (by have := HNs.out; omega) (((((TnS.setCell n2 0 w8 (.int .i64 0)).trans (TnS.setCell n2 1 _ (.int .i64 0))).trans (TnS.setCell n2 2 _ (.int .i64 0))).trans (TnS.setCell n2 3 _ (.int .i64 0))).trans (TnS.setCell n2 4 _ (.int .u32 0))) : Adds w _) (b := n3) (by have := HNs.out; omega) 0 (.int .i64 180)
      try simp only [Exit.then]
      refine leaves_cons (f := 37) (args := #[.pointer (some ⟨n3, 0, none⟩)]) (by simp) (by simp [go_sem]) ?_
      refine (idle_parse _ _).mono ?_
      rintro e u' w'' ⟨rfl, rfl, rfl⟩
      simp only [Leaves, settle]
      refine ⟨_, res_parse _ _ n3 n2 _ 180 rfl rfl hc2 rfl (hc3.cell 0), ?_, hA8⟩
      rw [HLs.out, HPI.out]
      rfl
end Go.Proofs.YtkodjmdghjcndaaGreatDoor
