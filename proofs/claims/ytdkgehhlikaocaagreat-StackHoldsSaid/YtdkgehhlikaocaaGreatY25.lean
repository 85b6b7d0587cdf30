/- Merged: Z16. -/
import Derived.Test.YtdkgehhlikaocaaGreatY24
namespace Go.Proofs.YtdkgehhlikaocaaGreat
open Go Go.RowKit Go.Shelf

theorem ownsRow_lower {n m : Nat} {w : World} {e : TypeId} {size k : Nat} {v : Value} {xs : List Value} (h : w.ownsRow n e size v k xs) (hm : m ≤ n) : w.ownsRow m e size v k xs := by
  obtain ⟨h1, h2⟩ := h
  refine ⟨h1, ?_⟩
  rcases h2 with h2 | ⟨g, cap, cur, h2, hb, hr⟩
  · exact .inl h2
  · exact .inr ⟨g, cap, cur, h2, Nat.le_trans hm hb, hr⟩
theorem FrsO.lower {n m : Nat} {w : World} {v : Value} {R : List (Fr × Value)} (h : FrsO n w v R) (hm : m ≤ n) : FrsO m w v R := ⟨ownsRow_lower h.row hm, fun x hx => ownsRow_lower (h.reg x hx) hm, h.far⟩
theorem CopyO.lower12 {n m : Nat} {w : World} {v : Value} {fs : List Fu} (h : CopyO n w v fs) (hm : m ≤ n) : CopyO m w v fs := by
  obtain ⟨r, hR, hl, hi⟩ := h
  exact ⟨r, ownsRow_lower hR hm, hl, fun i hlt => ⟨(hi i hlt).1, ownsRow_lower (hi i hlt).2 hm⟩⟩
theorem Below.less {n m : Nat} {w w' : World} (h : Below n w w') (hm : m ≤ n) : Below m w w' := ⟨h.os, h.tape, h.output, h.size, fun k hk => h.block k (Nat.lt_of_lt_of_le hk hm)⟩
section
variable {w : World}
set_option maxRecDepth 100000 in
set_option maxHeartbeats 8000000 in
theorem begunS_ok {m : Nat} (u : Value) (p : Pg) (hf : FuncsW m w u p.1) (hck : checkP p = 0) (hok : ∀ f ∈ p.1, ∀ i ∈ f.2, OkIn i) (hl1 : p.1.length ≤ 32) (hl2 : ∀ f ∈ p.1, f.2.length ≤ 512) (f : Nat) (hfl : f < p.1.length) (r : Nat) (hr : (p.1.getD f zF).1 = (r : Int)) (hr2 : r ≤ 65536) (wv : Value) (ws : List UInt32) (hw : Cells32 m w wv ws) (hwl : ws.length ≤ r) :
    Calls Tryz.prog 25 #[pgV u p, .int .i64 (f : Int), wv] w fun e w' => ∃ fv lv rv, e = .returned (.agg #[fv, .int .i64 p.2.1, .int .i64 p.2.2.1, .int .i64 p.2.2.2, lv, .int .u32 0]) ∧ CopyO w.heap.size w' fv p.1 ∧ FrsO w.heap.size w' lv [((f, 0, 0, newR ws r), rv)] ∧ Adds w w' := by
  have HCk := Lib.hid (fun (W : World) (ha : Adds w W) => checkP_any u p W (hf.adds ha))
  simp only [hck] at HCk
  have HCp := Lib.hid (fun (W : World) (ha : Adds w W) => copy_any u p W (hf.adds ha) ha.size (by omega) (fun f hf => Nat.le_trans (hl2 f hf) (by decide)))
  have HEn := Lib.hid (fun (n : Nat) (W : World) (b : Nat) (fv : Value) (ha : Adds w W) (hP : PileO 70 n W b p fv (.slice none 0 0) [] 0) => enterS_any hP hok f hfl r hr hr2 0 wv ws (cells32_adds hw ha) hwl (by simp) hP.low)
  have hF := hf
  obtain ⟨aof, cf, hfv, hf1, hf2, _⟩ := id hF
  unfold maxLen at hf2
  rw [hfv] at hF
  obtain ⟨g1, off, rfl, _, hat⟩ := hF.at hfl
  have k1 := hat.1
  rw [hr] at k1
  have HK1 := Lib.hid (fun (W : World) (ha : Adds w W) => ha.cellAt k1)
  obtain ⟨wao, wcap, rfl, hv1, hv2, _⟩ := id hw
  unfold maxLen at hv2
  obtain ⟨fs, x1, x2, x3⟩ := p
  simp only at hf hfv hf1 hfl hl1 HCk HCp HEn ⊢
  subst hfv
  have HH1 := Lib.hid (fun (W : World) => hold_bd 0 ((fs.length : Int) - 1) f W)
  rw [show inBd 0 ((fs.length : Int) - 1) f = true by unfold inBd; exact decide_eq_true (by omega)] at HH1
  have HH2 := Lib.hid (fun (W : World) => hold_bd 0 (r : Int) (ws.length : Int) W)
  rw [show inBd 0 (r : Int) (ws.length : Int) = true by unfold inBd; exact decide_eq_true (by omega)] at HH2
  have HWr := Lib.hid (show wrap64 ((fs.length : Int) - 1) = (fs.length : Int) - 1 by unfold wrap64; omega)
  have HNm := Lib.hid (show (f : Int) < (fs.length : Int) ∧ (fs.length : Int) ≤ 9223372036854775807 ∧ (ws.length : Int) ≤ 9223372036854775807 by omega)
  obtain ⟨w1, hw1⟩ : ∃ w1, (w.alloc (.cells #[.slice (some ⟨g1, off, none⟩) fs.length cf, .int .i64 x1, .int .i64 x2, .int .i64 x3] 24)).alloc (.cells #[.slice none 0 0, .int .i64 0, .int .i64 0, .int .i64 0, .slice none 0 0, .int .u32 0] 70) = w1 := ⟨_, rfl⟩
  have A1 := Lib.hid (show Adds w w1 by rw [← hw1]; exact Adds.trans (Adds.new _ _) (Adds.new _ _))
  have B1 := Lib.hid (show BkS 24 w1 w.heap.size [.slice (some ⟨g1, off, none⟩) fs.length cf, .int .i64 x1, .int .i64 x2, .int .i64 x3] by rw [← hw1]; exact (BkS.new _ _ _).adds (Adds.new _ _))
  have B2 := Lib.hid (show BkS 70 w1 (w.heap.size + 1) [.slice none 0 0, .int .i64 0, .int .i64 0, .int .i64 0, .slice none 0 0, .int .u32 0] by rw [← hw1]; have h := BkS.new 70 (w.alloc (.cells #[.slice (some ⟨g1, off, none⟩) fs.length cf, .int .i64 x1, .int .i64 x2, .int .i64 x3] 24)) [.slice none 0 0, .int .i64 0, .int .i64 0, .int .i64 0, .slice none 0 0, .int .u32 0]; simpa using h)
  have HQ := Lib.hid (fun (W : World) (ha : Adds w1 W) => And.intro ((B1.out.adds ha).cell 0) (And.intro ((B1.out.adds ha).cell 1) (And.intro ((B1.out.adds ha).cell 2) ((B1.out.adds ha).cell 3))))
  obtain ⟨q0, q1, q2, q3⟩ := HQ.out _ (Adds.refl _)
  obtain ⟨fl, hfl2⟩ : ∃ fl, fs.length = fl := ⟨_, rfl⟩
  have HFl := Lib.hid hfl2
  obtain ⟨wl, hwl2⟩ : ∃ wl, ws.length = wl := ⟨_, rfl⟩
  have HWl := Lib.hid hwl2
  simp only [hfl2, hwl2] at HCk HCp HEn HH1 HH2 HWr HNm HQ q0 hw1 ⊢
  obtain ⟨nm1, nm2, nm3⟩ := HNm.out
  have hwr := HWr.out
  clear hf hF hck hok hl1 hl2 hfl hr hr2 hw hwl hf1 hf2 hat k1 hv1 hv2 hfl2 hwl2
  go_enter Tryz.func25, Tryz.ntmps25
  go_wp2_with (first
    | (go_at_call 47; refine (HCk.out _ A1.out).mono ?_; rintro e w2 ⟨rfl, a2⟩; have A2 := Lib.hid a2; obtain ⟨q0, q1, q2, q3⟩ := HQ.out _ a2; have c1 := HK1.out _ (Adds.trans A1.out a2); clear a2)
    | (go_at_call 45; refine (HH1.out _).mono ?_; rintro e w3 ⟨rfl, a3⟩; have A3 := Lib.hid (Adds.trans A2.out a3); obtain ⟨q0, q1, q2, q3⟩ := HQ.out _ A3.out; have c1 := HK1.out _ (Adds.trans A1.out A3.out); clear a3 HH1)
    | (go_at_call 45; refine (HH2.out _).mono ?_; rintro e w4 ⟨rfl, a4⟩; have A4 := Lib.hid (Adds.trans A3.out a4); obtain ⟨q0, q1, q2, q3⟩ := HQ.out _ A4.out; clear a4)
    | (go_at_call 37; with_reducible refine (must_yes _ _).mono ?_; rintro e w5 ⟨rfl, rfl⟩)
    | (go_at_call 48; refine (HCp.out _ (Adds.trans A1.out A4.out)).mono ?_; rintro e w6 ⟨fv', rfl, hc6, a6⟩; have A6 := Lib.hid (Adds.trans A4.out a6); have HC6 := Lib.hid hc6; have HS6 := Lib.hid a6.size; obtain ⟨aov, capv, efv, _, _⟩ := hc6.form12; simp only [HFl.out] at efv; subst efv; clear hc6 a6))
  obtain ⟨w7, hw7⟩ : ∃ w7, w6.alloc (Obj.cells #[Value.slice aov fl capv, Value.int IntKind.i64 x1, Value.int IntKind.i64 x2, Value.int IntKind.i64 x3, Value.slice none 0 0, Value.int IntKind.u32 0] 70) = w7 := ⟨_, rfl⟩
  rw [hw7]
  have A67 := Lib.hid (show Adds w6 w7 by rw [← hw7]; exact Adds.new _ _)
  have HP7 := Lib.hid (show PileO 70 w4.heap.size w7 w6.heap.size (fs, x1, x2, x3) (.slice aov fl capv) (.slice none 0 0) [] 0 from ⟨.inl rfl, by rw [← hw7]; exact BkS.new _ _ _, HC6.out.adds A67.out, FrsO.nil _ _, HS6.out⟩)
  have B27 := Lib.hid (B2.out.adds (Adds.trans A6.out A67.out))
  have HNn := Lib.hid (show w.heap.size + 1 < w4.heap.size from (B2.out.adds A4.out).lt)
  clear hw7
  refine (HEn.out _ w7 _ _ (Adds.trans A1.out (Adds.trans A6.out A67.out)) HP7.out).mono ?_
  rintro e w8 ⟨rfl, ⟨lv', rv, hp⟩, hb⟩
  have HP8 := Lib.hid hp
  have HB8 := Lib.hid hb
  have b28 : BkS 70 w8 (w.heap.size + 1) _ := (hb.b.block _ HNn.out).trans B27.out
  have B28 := Lib.hid b28
  obtain ⟨aol, capl, rfl, _, _⟩ := hp.lo.form
  simp only [List.nil_append, List.length_singleton] at HP8
  have HX := Lib.hid HP8.out.bx
  have z0 := HX.out.cell 0
  have z1 := HX.out.cell 1
  have z2 := HX.out.cell 2
  have z3 := HX.out.cell 3
  have z4 := HX.out.cell 4
  have z5 := HX.out.cell 5
  have y0 := B28.out.cell 0
  have y1 := B28.out.cell 1
  have y2 := B28.out.cell 2
  have y3 := B28.out.cell 3
  have y4 := B28.out.cell 4
  have y5 := B28.out.cell 5
  have f0 := B28.out.free 0
  have f1 := B28.out.free 1
  have f2 := B28.out.free 2
  have f3 := B28.out.free 3
  have f4 := B28.out.free 4
  have f5 := B28.out.free 5
  clear hp hb b28
  go_wp2
  obtain ⟨w9, hw9⟩ : ∃ w9, (((((w8.setCell ⟨w.heap.size + 1, 0, none⟩ (.slice aov fl capv)).setCell ⟨w.heap.size + 1, 1, none⟩ (.int .i64 x1)).setCell ⟨w.heap.size + 1, 2, none⟩ (.int .i64 x2)).setCell ⟨w.heap.size + 1, 3, none⟩ (.int .i64 x3)).setCell ⟨w.heap.size + 1, 4, none⟩ (.slice aol 1 capl)).setCell ⟨w.heap.size + 1, 5, none⟩ (.int .u32 0) = w9 := ⟨_, rfl⟩
  have hT : TnS (w.heap.size + 1) w8 w9 := by rw [← hw9]; exact (((((TnS.setCell _ _ _ _).trans (TnS.setCell _ _ _ _)).trans (TnS.setCell _ _ _ _)).trans (TnS.setCell _ _ _ _)).trans (TnS.setCell _ _ _ _)).trans (TnS.setCell _ _ _ _)
  have hD : BkS 70 w9 (w.heap.size + 1) [.slice aov fl capv, .int .i64 x1, .int .i64 x2, .int .i64 x3, .slice aol 1 capl, .int .u32 0] := by rw [← hw9]; exact (((((B28.out.set 0 _).set 1 _).set 2 _).set 3 _).set 4 _).set 5 _
  have hle : w.heap.size ≤ w4.heap.size := by have := HNn.out; omega
  have hA8 : Adds w w8 := Below.trans (Adds.trans A1.out (Adds.trans A6.out A67.out)) (Below.less HB8.out.b hle)
  rw [hw9]
  (try simp only [Exit.inBlock, Exit.then])
  refine bodyPost_ret (res_box1 rfl _ _ _ _ _ _ _ rfl hD Tryz.underlying70 rfl (by kernel_rfl)) rfl ?_
  exact ⟨_, _, _, rfl, (HP8.out.fo.blk B28.out (by decide) (by decide) hT).lower12 hle, (HP8.out.lo.blk B28.out (by decide) (by decide) hT).lower hle, TnS.own hA8 (by omega) hT⟩
set_option maxRecDepth 100000 in
set_option maxHeartbeats 4000000 in
theorem NewS_ok {m : Nat} (u : Value) (p : Pg) (hf : FuncsW m w u p.1) (hck : checkP p = 0) (hok : ∀ f ∈ p.1, ∀ i ∈ f.2, OkIn i) (hl1 : p.1.length ≤ 32) (hl2 : ∀ f ∈ p.1, f.2.length ≤ 512) (f : Nat) (hfl : f < p.1.length) (r : Nat) (hr : (p.1.getD f zF).1 = (r : Int)) (hr2 : r ≤ 65536) (wv : Value) (ws : List UInt32) (hw : Cells32 m w wv ws) (hwl : ws.length ≤ r) :
    Calls Tryz.prog 7 #[pgV u p, .int .i64 (f : Int), wv] w fun e w' => ∃ b, e = .returned (.tuple #[.pointer (some ⟨b, 0, none⟩), .int .i64 0]) ∧ PileP 73 w.heap.size w' b p [(f, 0, 0, newR ws r)] 0 ∧ Adds w w' := by
  have hmf : ∀ (fn : Fn) (first cap : Array Value) (w : World), (Instr.makeFunc fn first cap).run Tryz.prog w = .ok (.func fn first cap) w := fun _ _ _ _ => rfl
  have HBg := Lib.hid (fun (W : World) (ha : Adds w W) => begunS_ok u p (hf.adds ha) hck hok hl1 hl2 f hfl r hr hr2 wv ws (hw.here.below ha) hwl)
  obtain ⟨aof, cf, rfl, _, _, _⟩ := id hf
  obtain ⟨fs, x1, x2, x3⟩ := p
  simp only at HBg ⊢
  obtain ⟨w1, hw1⟩ : ∃ w1, (w.alloc (.cells #[.slice aof fs.length cf, .int .i64 x1, .int .i64 x2, .int .i64 x3] 24)).alloc (.cells #[.int .i64 0] 32) = w1 := ⟨_, rfl⟩
  have A1 := Lib.hid (show Adds w w1 by rw [← hw1]; exact Adds.trans (Adds.new _ _) (Adds.new _ _))
  have B1 := Lib.hid (show BkS 24 w1 w.heap.size [.slice aof fs.length cf, .int .i64 x1, .int .i64 x2, .int .i64 x3] by rw [← hw1]; exact (BkS.new _ _ _).adds (Adds.new _ _))
  have B2 := Lib.hid (show BkS 32 w1 (w.heap.size + 1) [.int .i64 0] by rw [← hw1]; have h := BkS.new 32 (w.alloc (.cells #[.slice aof fs.length cf, .int .i64 x1, .int .i64 x2, .int .i64 x3] 24)) [.int .i64 0]; simpa using h)
  have q0 := B1.out.cell 0
  have q1 := B1.out.cell 1
  have q2 := B1.out.cell 2
  have q3 := B1.out.cell 3
  obtain ⟨fl, hfl2⟩ : ∃ fl, fs.length = fl := ⟨_, rfl⟩
  simp only [hfl2] at HBg q0 hw1 ⊢
  clear hf hck hok hl1 hl2 hfl hr hr2 hw hwl hfl2
  go_enter_defers Tryz.func7, Tryz.ntmps7
  go_wp2_with (go_at_call 25; refine (HBg.out _ A1.out).mono ?_; rintro e w2 ⟨fv, lv, rv, rfl, hc, hl, a2⟩; have A2 := Lib.hid (Adds.trans A1.out a2); have HC := Lib.hid hc; have HL := Lib.hid hl; have B22 := Lib.hid (B2.out.adds a2); have e0 := (fun o => (BkS.adds B22.out (Adds.new w2 o)).cell 0 : ∀ o, (w2.alloc o).cell? ⟨w.heap.size + 1, 0, none⟩ = some (.int .i64 0)); have e1 := (fun o => (BkS.adds B22.out (Adds.new w2 o)).free 0 : ∀ o, (w2.alloc o).frozen? ⟨w.heap.size + 1, 0, none⟩ = false); obtain ⟨ao, cp, rfl, _, _⟩ := hc.form12; obtain ⟨ao2, cp2, rfl, _, _⟩ := hl.form; clear hc hl a2)
  obtain ⟨w3, hw3⟩ : ∃ w3, w2.alloc (Obj.cells #[Value.slice ao fs.length cp, Value.int IntKind.i64 x1, Value.int IntKind.i64 x2, Value.int IntKind.i64 x3, Value.slice ao2 1 cp2, Value.int IntKind.u32 0] 73) = w3 := ⟨_, rfl⟩
  have A23 := Lib.hid (show Adds w2 w3 by rw [← hw3]; exact Adds.new _ _)
  have hP : PileP 73 w.heap.size w3 w2.heap.size (fs, x1, x2, x3) [(f, 0, 0, newR ws r)] 0 := ⟨_, _, [((f, 0, 0, newR ws r), rv)], ⟨.inr rfl, by rw [← hw3]; exact BkS.new _ _ _, (HC.out.lower12 A1.out.size).adds A23.out, (HL.out.lower A1.out.size).adds A23.out, A2.out.size⟩, rfl⟩
  have b23 := B22.out.adds A23.out
  have d0 := b23.cell 0
  have hP2 := hP.other (i := 0) b23 noErr (by decide) (by decide) (.int .i64 0)
  have hA := Adds.set (Adds.trans A2.out A23.out) (b := w.heap.size + 1) (by omega) 0 (.int .i64 0)
  rw [hw3]
  clear e0 e1 hw3
  refine leaves_cons (f := 23) (args := #[.pointer (some ⟨w.heap.size + 1, 0, none⟩)]) (by simp) (by simp [go_sem]) ?_
  refine (idle_new _ _).mono ?_
  rintro e u' w'' ⟨rfl, rfl, rfl⟩
  simp [Leaves, settle, results, Tryz.results7, go_sem, d0]
  exact ⟨hP2, hA⟩
end
end Go.Proofs.YtdkgehhlikaocaaGreat
