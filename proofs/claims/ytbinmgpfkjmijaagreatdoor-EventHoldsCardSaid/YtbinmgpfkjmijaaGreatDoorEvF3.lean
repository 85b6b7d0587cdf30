/- Which events may be, where the goroutine and the site may be: contract. (genF3.py wrote this.) -/
import Derived.Test.YtbinmgpfkjmijaaGreatDoorBC
import Derived.Test.YtbinmgpfkjmijaaGreatDoorEvF2
namespace Go.Proofs.YtbinmgpfkjmijaaGreatDoor
open Go Go.RowKit Go.Shelf Go.Lib

set_option maxRecDepth 100000 in
set_option maxHeartbeats 4000000 in
theorem holds_yes (l : List Nat) (hl : okL l) (v : Value) (x : Ev) (hx : OkE x) (hg : mayQ 0 x = true) (hs : rightS (x.f, x.p) = true) (w : World) (hv : PartsAt w v l) : Calls Tryz.prog 62 #[evV x, v] w fun e w' => e = .returned (.bool (holdsE l x)) ∧ Adds w w' := by
  obtain ⟨r, hr⟩ : ∃ r, holdsE l x = r := ⟨_, rfl⟩
  rw [hr]
  have HR := Lib.hid hr
  have HGS := Lib.hid (And.intro hg hs)
  have HX := Lib.hid hx
  have HV := Lib.hid hv
  have HL := Lib.hid hl
  clear hr hx hv hl
  obtain ⟨w1, hw1⟩ : ∃ w1, w.alloc (.cells (evC x).toArray 28) = w1 := ⟨_, rfl⟩
  have HA1 := Lib.hid (show Adds w w1 by rw [← hw1]; exact (Gr.new _ _).adds)
  have HB1 := Lib.hid (show BkS 28 w1 w.heap.size (evC x) by rw [← hw1]; exact BkS.new _ _ _)
  have HSz := Lib.hid (show w1.heap.size = w.heap.size + 1 by rw [← hw1]; simp)
  have HG := Lib.hid mkG
  have HM := Lib.hid (fun W => (may_goroutine x W).mono fun _ _ h => (⟨h.1, h.2.adds⟩ : _ ∧ Adds W _))
  have HK := Lib.hid (fun W => (check_any (x.f, x.p) W).mono fun _ _ h => (⟨h.1, h.2.adds⟩ : _ ∧ Adds W _))
  rw [show chkE (x.f, x.p) = 0 by unfold chkE; rw [hs]; rfl] at HK
  rw [hg] at HM
  clear hs hg
  obtain ⟨g, k, f, p, a, c, o, n, t⟩ := x
  have HFl := Lib.hid (fun w' : World => (show (Instr.field 70 (.agg #[.int .i64 2, .func (.func 66) #[] #[], .func (.func 67) #[] #[], .func (.func 68) #[] #[], .func (.func 69) #[] #[]]) 3).run Tryz.prog w' = .ok (.func (.func 68) #[] #[]) w' by kernel_rfl))
  go_enter Tryz.func62, Tryz.ntmps62
  go_wp2_with fail
  obtain ⟨n1, hn1⟩ : ∃ n1, w.heap.size = n1 := ⟨_, rfl⟩
  have HN1 := Lib.hid hn1
  rw [hn1] at HB1 ⊢
  clear hn1 hw1
  refine wp_region_loose [] (fun _ _ _ => True) Adds (by kernel_rfl) (by kernel_rfl) (by simp []) Adds.refl (fun _ _ _ h k => Adds.trans h k) (fun _ _ _ _ _ _ => trivial) ?_
  (repeat (refine wpL_step (fun K hK => ?_); first
  | (refine stepL_skip rfl rfl rfl ?_; go_simp; refine hK _ ?_; clear hK K)
  | (refine stepL_call (v := .agg #[.int .i64 2, .func (.func 66) #[] #[], .func (.func 67) #[] #[], .func (.func 68) #[] #[], .func (.func 69) #[] #[]]) (f := 35) (args := #[]) rfl rfl rfl ?_ (fun w' hw' => HG.out w') ?_; (· (intro w'; clear hK; go_simp)); go_simp; refine hK _ ?_; clear hK K)
  | (refine stepL_ex (v := .func (.func 68) #[] #[]) rfl rfl rfl Adds.refl ?_ ?_; (· (intro w' hw'; clear hK; have hf := HFl.out w'; go_simp)); go_simp; refine hK _ ?_; clear hK K)
  | (refine stepL_ex (v := .bool true) rfl rfl rfl Adds.refl ?_ ?_; (· (intro w' hw'; clear hK; skip; go_simp)); go_simp; refine hK _ ?_; clear hK K)
  | (refine stepL_ex (v := .bool false) rfl rfl rfl Adds.refl ?_ ?_; (· (intro w' hw'; clear hK; skip; go_simp)); go_simp; refine hK _ ?_; clear hK K)
  | (refine stepL_ex rfl rfl rfl Adds.refl (fun w' hw' => rfl) ?_; go_simp; refine hK _ ?_; clear hK K)
  | (refine stepL_ex (v := .agg #[.int .i64 g, .int .i64 k, .int .i64 f, .int .i64 p, .int .u32 a, .int .i64 c, .int .i64 o, .int .i64 n, .int .i64 t]) rfl rfl rfl Adds.refl ?_ ?_; (· (intro w' hw'; clear hK; have HBq := HB1.out.adds (Adds.trans (Adds.drew _) hw'); have c0 : w'.cell? ⟨n1, 0, none⟩ = some (.int .i64 g) := HBq.cell 0; have c1 : w'.cell? ⟨n1, 1, none⟩ = some (.int .i64 k) := HBq.cell 1; have c2 : w'.cell? ⟨n1, 2, none⟩ = some (.int .i64 f) := HBq.cell 2; have c3 : w'.cell? ⟨n1, 3, none⟩ = some (.int .i64 p) := HBq.cell 3; have c4 : w'.cell? ⟨n1, 4, none⟩ = some (.int .u32 a) := HBq.cell 4; have c5 : w'.cell? ⟨n1, 5, none⟩ = some (.int .i64 c) := HBq.cell 5; have c6 : w'.cell? ⟨n1, 6, none⟩ = some (.int .i64 o) := HBq.cell 6; have c7 : w'.cell? ⟨n1, 7, none⟩ = some (.int .i64 n) := HBq.cell 7; have c8 : w'.cell? ⟨n1, 8, none⟩ = some (.int .i64 t) := HBq.cell 8; go_simp)); go_simp; refine hK _ ?_; clear hK K)
  | (refine stepL_call (v := .bool true) (f := 68) (args := #[.agg #[.int .i64 g, .int .i64 k, .int .i64 f, .int .i64 p, .int .u32 a, .int .i64 c, .int .i64 o, .int .i64 n, .int .i64 t]]) rfl rfl rfl ?_ (fun w' hw' => HM.out w') ?_; (· (intro w'; clear hK; go_simp)); go_simp; refine hK _ ?_; clear hK K)
  | (refine stepL_ex (v := .pointer (some ⟨n1, 2, none⟩)) rfl rfl rfl Adds.refl ?_ ?_; (· (intro w' hw'; clear hK; have hl := (HB1.out.adds (Adds.trans (Adds.drew _) hw')).lt; go_simp)); go_simp; refine hK _ ?_; clear hK K)
  | (refine stepL_ex (v := .agg #[.int .i64 f, .int .i64 p]) rfl rfl rfl Adds.refl ?_ ?_; (· (intro w' hw'; clear hK; have HBq := HB1.out.adds (Adds.trans (Adds.drew _) hw'); have c2 : w'.cell? ⟨n1, 2, none⟩ = some (.int .i64 f) := HBq.cell 2; have c3 : w'.cell? ⟨n1, 3, none⟩ = some (.int .i64 p) := HBq.cell 3; go_simp)); go_simp; refine hK _ ?_; clear hK K)
  | (refine stepL_call (v := .int .i64 0) (f := 63) (args := #[.agg #[.int .i64 f, .int .i64 p]]) rfl rfl rfl ?_ (fun w' hw' => HK.out w') ?_; (· (intro w'; clear hK; go_simp)); go_simp; refine hK _ ?_; clear hK K)))
  refine wpL_nil ?_
  intro w7 a7
  simp only [forL]
  have A7 := Lib.hid (Adds.trans HA1.out (Adds.trans (Adds.drew _) a7))
  have B7 := Lib.hid (HB1.out.adds (Adds.trans (Adds.drew _) a7))
  have V7 := Lib.hid (HV.out.adds A7.out)
  clear a7
  have c0 : w7.cell? ⟨n1, 0, none⟩ = some (.int .i64 g) := B7.out.cell 0; have c1 : w7.cell? ⟨n1, 1, none⟩ = some (.int .i64 k) := B7.out.cell 1; have c2 : w7.cell? ⟨n1, 2, none⟩ = some (.int .i64 f) := B7.out.cell 2; have c3 : w7.cell? ⟨n1, 3, none⟩ = some (.int .i64 p) := B7.out.cell 3; have c4 : w7.cell? ⟨n1, 4, none⟩ = some (.int .u32 a) := B7.out.cell 4; have c5 : w7.cell? ⟨n1, 5, none⟩ = some (.int .i64 c) := B7.out.cell 5; have c6 : w7.cell? ⟨n1, 6, none⟩ = some (.int .i64 o) := B7.out.cell 6; have c7 : w7.cell? ⟨n1, 7, none⟩ = some (.int .i64 n) := B7.out.cell 7; have c8 : w7.cell? ⟨n1, 8, none⟩ = some (.int .i64 t) := B7.out.cell 8
  obtain ⟨n5, hn5⟩ : ∃ n5, w7.heap.size = n5 := ⟨_, rfl⟩
  obtain ⟨w8, hw8⟩ : ∃ w8, w7.alloc (.cells (evC ⟨g, k, f, p, a, c, o, n, t⟩).toArray 28) = w8 := ⟨_, rfl⟩
  have A8 := Lib.hid (show Adds w7 w8 by rw [← hw8]; exact (Gr.new _ _).adds)
  have B8 := Lib.hid (show BkS 28 w8 n5 (evC ⟨g, k, f, p, a, c, o, n, t⟩) by rw [← hw8, ← hn5]; exact BkS.new _ _ _)
  have N5 := Lib.hid hn5
  have K8 := Lib.hid (B7.out.adds A8.out)
  obtain ⟨ao, c0, hvv, hrow⟩ : ∃ ao c0, v = .slice ao l.length c0 ∧ (∀ i, i < l.length → ∃ gg, ao = some ⟨gg, 0, none⟩ ∧ RowQ w7 gg l) := by
    rcases V7.out with ⟨rfl, rfl⟩ | ⟨gg, cc, rfl, h1, h2, h3, h4⟩
    · exact ⟨none, 0, rfl, fun i hi => absurd hi (by simp)⟩
    · exact ⟨_, cc, rfl, fun i hi => ⟨gg, rfl, h4⟩⟩
  subst hvv
  have HRow := Lib.hid hrow
  have HLen := Lib.hid (show l.length ≤ 2 from HL.out.2)
  clear hrow
  go_wp2_with fail
  go_loopw [22] (fun i wr => ∃ q : Nat, i = .int .i64 q ∧ q ≤ l.length ∧ Hid (∀ j, j < q → mayQ (l.getD j 0) ⟨g, k, f, p, a, c, o, n, t⟩ = true) ∧ Hid (BkS 28 wr n5 (evC (bareE (l.take q) ⟨g, k, f, p, a, c, o, n, t⟩))) ∧ Hid (TnS n5 w8 wr)) (fun i _ => l.length + 1 - (RowKit.intOf i).toNat)
  case atStart => exact ⟨0, rfl, Nat.zero_le _, Lib.hid (fun j hj => by omega), B8, Lib.hid (TnS.refl _ _)⟩
  case round =>
    obtain ⟨q, rfl, hk, HNo, HBk, HT⟩ := hrel
    have hkI : (q : Int) ≤ 2 := by have := HLen.out; omega
    have HAll := Lib.hid (show Adds w wr from TnS.own (Adds.trans A7.out A8.out) (by have := N5.out; have := A7.out.size; omega) HT.out)
    have b3 : BkS 28 wr n1 (evC ⟨g, k, f, p, a, c, o, n, t⟩) := (HT.out.block n1 K8.out.lt (fun e => by have h1 := N5.out; have h2 := B7.out.lt; cases e; omega)).trans K8.out
    have c0 : wr.cell? ⟨n1, 0, none⟩ = some (.int .i64 g) := b3.cell 0; have c1 : wr.cell? ⟨n1, 1, none⟩ = some (.int .i64 k) := b3.cell 1; have c2 : wr.cell? ⟨n1, 2, none⟩ = some (.int .i64 f) := b3.cell 2; have c3 : wr.cell? ⟨n1, 3, none⟩ = some (.int .i64 p) := b3.cell 3; have c4 : wr.cell? ⟨n1, 4, none⟩ = some (.int .u32 a) := b3.cell 4; have c5 : wr.cell? ⟨n1, 5, none⟩ = some (.int .i64 c) := b3.cell 5; have c6 : wr.cell? ⟨n1, 6, none⟩ = some (.int .i64 o) := b3.cell 6; have c7 : wr.cell? ⟨n1, 7, none⟩ = some (.int .i64 n) := b3.cell 7; have c8 : wr.cell? ⟨n1, 8, none⟩ = some (.int .i64 t) := b3.cell 8
    have ln1 : n1 < wr.heap.size := b3.lt
    have ln5 : n5 < wr.heap.size := HBk.out.lt
    by_cases hlt : q < l.length
    · have hltI : (q : Int) < (l.length : Int) := by omega
      obtain ⟨gg, hgg, hrw⟩ := HRow.out q hlt
      subst hgg
      have hrow := ((hrw.adds A8.out).turn (fun e => by have h1 := hrw.1; have h2 := N5.out; omega) HT.out).2 q hlt
      have d0 := hrow 0 (by omega); have d1 := hrow 1 (by omega); have d2 := hrow 2 (by omega); have d3 := hrow 3 (by omega); have d4 := hrow 4 (by omega)
      have HP6 := Lib.hid (HL.out.1 _ (memQ hlt))
      have HTk := Lib.hid (bareE_take (x := ⟨g, k, f, p, a, c, o, n, t⟩) hlt)
      have HLt := Lib.hid hlt
      clear hrow hrw b3 hlt hk
      obtain ⟨pp, hp⟩ : ∃ pp, l.getD q 0 = pp := ⟨_, rfl⟩
      have HPk := Lib.hid hp
      rw [hp] at d0 d1 d2 d3 d4 HP6 HTk
      clear hp
      simp only [ptE, List.getElem?_cons_zero, List.getElem?_cons_succ, Nat.add_zero, fnE] at d0 d1 d2 d3 d4
      have HH := Lib.hid (fun W => (mayQ_any pp HP6.out ⟨g, k, f, p, a, c, o, n, t⟩ W).mono fun _ _ h => (⟨h.1, h.2.adds⟩ : _ ∧ Adds W _))
      have HPut := Lib.hid (fun W (h : BkS 28 W n5 (evC (bareE (l.take q) ⟨g, k, f, p, a, c, o, n, t⟩))) => putQ_any pp HP6.out n5 _ 0 W h)
      have em := fun v => enter_mayQ pp HP6.out v
      have ep := fun v u => enter_putQ pp HP6.out v u
      generalize getF pp = fg at d1
      generalize putF pp = fp at d2 HPut ep
      generalize mayF pp = fm at d3 HH em
      generalize wordF pp = fw at d4
      generalize widE pp = wd at d0
      cases hz : mayQ pp ⟨g, k, f, p, a, c, o, n, t⟩
      · rw [hz] at HH
        have HZ := Lib.hid hz
        clear hz ep
        go_wp2_with (go_at_fn fm; refine (HH.out _).mono ?_; rintro e w5 ⟨rfl, q5⟩; have A5 := Lib.hid (Adds.trans HAll.out (Adds.trans (Gr.new wr _).adds q5)); clear q5)
        go_ret
        exact ⟨by rw [← HR.out, holdsE_no HLt.out (by rw [HPk.out]; exact HZ.out)]; rfl, A5.out⟩
      · rw [hz] at HH
        have HZ := Lib.hid hz
        clear hz
        go_wp2_with (first
          | (go_at_fn fm; refine (HH.out _).mono ?_; rintro e w5 ⟨rfl, q5⟩; have A5 := Lib.hid (Adds.trans (Gr.new wr _).adds q5); have e2 : w5.cell? ⟨wr.heap.size, 2, none⟩ = some (.func (.func fp) #[] #[]) := ((BkS.new 70 wr [.int .i64 wd, .func (.func fg) #[] #[], .func (.func fp) #[] #[], .func (.func fm) #[] #[], .func (.func fw) #[] #[]]).adds q5).cell 2; clear q5 em HH)
          | (go_at_fn fp; refine (HPut.out _ (HBk.out.adds A5.out)).mono ?_; rintro e w6 ⟨rfl, q1, q2⟩; have HQ := Lib.hid (And.intro q1 q2); clear q1 q2))
        go_roundw
        case rel => exact ⟨q + 1, rfl, HLt.out, Lib.hid (mayQ_take HNo.out (by rw [HPk.out]; exact HZ.out)), Lib.hid (by rw [HTk.out]; exact HQ.out.1), Lib.hid (HT.out.trans ((TnS.of_adds _ A5.out).trans HQ.out.2))⟩
        case measure => simp [RowKit.intOf]; have := HLt.out; omega
    · obtain rfl : q = l.length := by omega
      have hbk := HBk.out
      rw [List.take_length] at hbk
      have hq := ev_eql (bareE l ⟨g, k, f, p, a, c, o, n, t⟩) (coreE ⟨g, k, f, p, a, c, o, n, t⟩)
      have HEnd := Lib.hid (show eqE (bareE l ⟨g, k, f, p, a, c, o, n, t⟩) (coreE ⟨g, k, f, p, a, c, o, n, t⟩) = r by
        rw [← HR.out]
        unfold holdsE
        rw [allQ_iff.2 HNo.out, HGS.out.1, HGS.out.2]
        rfl)
      rw [HEnd.out] at hq
      obtain ⟨⟨y1, y2, y3, y4, y5, y6, y7, y8, y9⟩, hy⟩ : ∃ y, bareE l ⟨g, k, f, p, a, c, o, n, t⟩ = y := ⟨_, rfl⟩
      rw [hy] at hq hbk
      simp only [evV, evC, coreE] at hq
      have e0 : wr.cell? ⟨n5, 0, none⟩ = some (.int .i64 y1) := hbk.cell 0
      have e1 : wr.cell? ⟨n5, 1, none⟩ = some (.int .i64 y2) := hbk.cell 1
      have e2 : wr.cell? ⟨n5, 2, none⟩ = some (.int .i64 y3) := hbk.cell 2
      have e3 : wr.cell? ⟨n5, 3, none⟩ = some (.int .i64 y4) := hbk.cell 3
      have e4 : wr.cell? ⟨n5, 4, none⟩ = some (.int .u32 y5) := hbk.cell 4
      have e5 : wr.cell? ⟨n5, 5, none⟩ = some (.int .i64 y6) := hbk.cell 5
      have e6 : wr.cell? ⟨n5, 6, none⟩ = some (.int .i64 y7) := hbk.cell 6
      have e7 : wr.cell? ⟨n5, 7, none⟩ = some (.int .i64 y8) := hbk.cell 7
      have e8 : wr.cell? ⟨n5, 8, none⟩ = some (.int .i64 y9) := hbk.cell 8
      clear hy hbk b3 hlt hk
      go_wp2_with fail
      go_ret
      exact ⟨rfl, HAll.out⟩
end Go.Proofs.YtbinmgpfkjmijaaGreatDoor
