/- Merged: Z17, Z29, Z31. -/
import Derived.Test.YtdkgehhlikaocaaGreatY25
import Derived.Test.YtdkgehhlikaocaaGreatY11
import Derived.Test.YtdkgehhlikaocaaGreatY24
import Derived.Test.YtdkgehhlikaocaaGreatY26
namespace Go.Proofs.YtdkgehhlikaocaaGreat
open Go Go.RowKit Go.Shelf

section
variable {w : World}
variable {t t' : TypeId} {n m b c : Nat} {p q : Pg} {fv fv' lv lv' : Value} {R R' : List (Fr × Value)} {res : UInt32}
end
end Go.Proofs.YtdkgehhlikaocaaGreat
namespace Go.Proofs.YtdkgehhlikaocaaGreat
open Go Go.RowKit Go.Shelf

set_option maxRecDepth 100000 in
set_option maxHeartbeats 4000000 in
theorem eqRegs_yes {n m g g' ca cb : Nat} {w : World} {rs : List UInt32} (h : RegO n w (.slice (some ⟨g, 0, none⟩) rs.length ca) rs) (h' : RegO m w (.slice (some ⟨g', 0, none⟩) rs.length cb) rs) (hl : rs.length ≤ 65536) :
    Calls Tryz.prog 60 #[.slice (some ⟨g, 0, none⟩) rs.length ca, .slice (some ⟨g', 0, none⟩) rs.length cb] w fun e w' => e = .returned (.bool true) ∧ Adds w w' := by
  have HC := Lib.hid (fun W (hW : Adds w W) i (hi : i < rs.length) => And.intro ((h.adds hW).cell hi) ((h'.adds hW).cell hi))
  obtain ⟨nl, hnl⟩ : ∃ nl, rs.length = nl := ⟨_, rfl⟩
  have hnI : (nl : Int) ≤ 65536 := by omega
  rw [hnl] at HC
  rw [hnl]
  clear hnl hl h h'
  go_enter Tryz.func60, Tryz.ntmps60
  go_wp2
  go_loopw [13] (fun i wr => ∃ k : Nat, i = .int .i64 k ∧ k ≤ nl ∧ Hid (Adds w wr)) (fun i _ => nl + 1 - (intOf i).toNat)
  case atStart => exact ⟨0, rfl, Nat.zero_le _, Lib.hid (Adds.refl _)⟩
  case round =>
    obtain ⟨k, rfl, hk, HA⟩ := hrel
    by_cases hlt : k < nl
    · obtain ⟨i0, j0⟩ := HC.out _ HA.out k hlt
      unfold cellV at i0 j0
      obtain ⟨u, hu⟩ : ∃ u, (rs.getD k 0).toNat = u := ⟨_, rfl⟩
      rw [hu] at i0 j0
      have hltI : (k : Int) < (nl : Int) := by omega
      have HLt := Lib.hid hlt
      clear hlt hk hu
      go_wp2
      go_region
      go_wp2
      go_roundw
      case rel => exact ⟨k + 1, by go_num, HLt.out, Lib.hid (Adds.trans HA.out (Adds.drew _))⟩
      case measure => simp [intOf]; have := HLt.out; omega
    · have hge : ¬ (k : Int) < (nl : Int) := by omega
      clear hlt hk
      go_wp2
      go_ret
      exact ⟨rfl, HA.out⟩
set_option maxRecDepth 100000 in
set_option maxHeartbeats 4000000 in
theorem sameFr_yes {n m : Nat} {w : World} {x : Fr} {v v' : Value} (h : RegO n w v x.2.2.2) (h' : RegO m w v' x.2.2.2) (h0 : x.2.2.2 ≠ []) (hl : x.2.2.2.length ≤ 65536) :
    Calls Tryz.prog 59 #[.agg #[.int .i64 (x.1 : Int), .int .i64 (x.2.1 : Int), .int .i64 x.2.2.1, v], .agg #[.int .i64 (x.1 : Int), .int .i64 (x.2.1 : Int), .int .i64 x.2.2.1, v']] w fun e w' => e = .returned (.bool true) ∧ Adds w w' := by
  obtain ⟨f, pc, d, rs⟩ := x
  simp only at h h' h0 hl ⊢
  obtain ⟨g, ca, rfl, _, _, _, _, _⟩ := h.form h0
  obtain ⟨g', cb, rfl, _, _, _, _, _⟩ := h'.form h0
  have HE := Lib.hid (fun W (hW : Adds w W) => eqRegs_yes (h.adds hW) (h'.adds hW) hl)
  generalize rs.length = nl at *
  obtain ⟨w1, hw1⟩ : ∃ w1, w.alloc (.cells #[.int .i64 (f : Int), .int .i64 (pc : Int), .int .i64 d, .slice (some ⟨g, 0, none⟩) nl ca] 76) = w1 := ⟨_, rfl⟩
  have A1 := Lib.hid (show Adds w w1 by rw [← hw1]; exact (Gr.new _ _).adds)
  have B1 := Lib.hid (show BkS 76 w1 w.heap.size [.int .i64 (f : Int), .int .i64 (pc : Int), .int .i64 d, .slice (some ⟨g, 0, none⟩) nl ca] by rw [← hw1]; exact BkS.new _ _ _)
  obtain ⟨w2, hw2⟩ : ∃ w2, w1.alloc (.cells #[.int .i64 (f : Int), .int .i64 (pc : Int), .int .i64 d, .slice (some ⟨g', 0, none⟩) nl cb] 76) = w2 := ⟨_, rfl⟩
  have A2 := Lib.hid (show Adds w1 w2 by rw [← hw2]; exact (Gr.new _ _).adds)
  have B2 := Lib.hid (show BkS 76 w2 w1.heap.size [.int .i64 (f : Int), .int .i64 (pc : Int), .int .i64 d, .slice (some ⟨g', 0, none⟩) nl cb] by rw [← hw2]; exact BkS.new _ _ _)
  have A12 := Lib.hid (Adds.trans A1.out A2.out)
  have p1 := B1.out.adds A2.out
  have b0 := p1.cell 0
  have b1 := p1.cell 1
  have b2 := p1.cell 2
  have b3 := p1.cell 3
  have c0 := B2.out.cell 0
  have c1 := B2.out.cell 1
  have c2 := B2.out.cell 2
  have c3 := B2.out.cell 3
  clear p1 h h' h0 hl
  go_enter Tryz.func59, Tryz.ntmps59
  go_wp2_with (go_at_call 60; refine (HE.out _ A12.out).mono ?_; rintro e w3 ⟨rfl, q⟩; have A3 := Lib.hid q; clear q)
  go_ret
  exact ⟨rfl, Adds.trans A12.out A3.out⟩
set_option maxRecDepth 100000 in
set_option maxHeartbeats 4000000 in
theorem equalFr_yes {n m : Nat} {ao bo : Option Addr} {ca cb : Nat} {w : World} {R C : List (Fr × Value)} (h : FrsO n w (.slice ao R.length ca) R) (h' : FrsO m w (.slice bo R.length cb) C) (hRC : C.map Prod.fst = R.map Prod.fst) (hr : ∀ x ∈ R, x.1.2.2.2 ≠ [] ∧ x.1.2.2.2.length ≤ 65536) (hl : R.length ≤ 1000000) :
    Calls Tryz.prog 58 #[.slice ao R.length ca, .slice bo R.length cb, .func (.func 59) #[] #[]] w fun e w' => e = .returned (.bool true) ∧ Adds w w' := by
  have HC := Lib.hid h
  have HD := Lib.hid h'
  have HM := Lib.hid hRC
  have HR := Lib.hid hr
  obtain ⟨cl, hcl⟩ : ∃ cl, R.length = cl := ⟨_, rfl⟩
  have HCl := Lib.hid hcl
  have hcI : (cl : Int) ≤ 1000000 := by omega
  rw [hcl] at HC HD
  rw [hcl]
  clear hcl hl h h' hr hRC
  go_enter Tryz.func58, Tryz.ntmps58
  go_wp2
  go_loopw [17] (fun i wr => ∃ k : Nat, i = .int .i64 k ∧ k ≤ cl ∧ Hid (Adds w wr)) (fun i _ => cl + 1 - (intOf i).toNat)
  case atStart => exact ⟨0, rfl, Nat.zero_le _, Lib.hid (Adds.refl _)⟩
  case round =>
    obtain ⟨k, rfl, hk, HA⟩ := hrel
    by_cases hlt : k < cl
    · have hkR : k < R.length := by rw [HCl.out]; exact hlt
      have hkC : k < C.length := by have := congrArg List.length HM.out; simp at this; omega
      obtain ⟨⟨⟨f, pc, d, rs⟩, rv⟩, hx⟩ : ∃ x, R[k]? = some x := ⟨_, List.getElem?_eq_getElem hkR⟩
      obtain ⟨⟨y, sv⟩, hy⟩ : ∃ x, C[k]? = some x := ⟨_, List.getElem?_eq_getElem hkC⟩
      obtain rfl : y = (f, pc, d, rs) := by
        have h1 := congrArg (fun l => l[k]?) HM.out
        simp only [List.getElem?_map, hx, hy, Option.map_some, Option.some.injEq] at h1
        exact h1
      obtain ⟨g, rfl⟩ := HC.out.open hkR
      obtain ⟨g', rfl⟩ := HD.out.open hkC
      obtain ⟨i0, i1, i2, i3⟩ := (HC.out.adds HA.out).at hx
      obtain ⟨j0, j1, j2, j3⟩ := (HD.out.adds HA.out).at hy
      obtain ⟨hr1, hr2⟩ := HR.out _ (List.mem_of_getElem? hx)
      have hg1 := HC.out.reg _ (List.mem_of_getElem? hx)
      have hg2 := HD.out.reg _ (List.mem_of_getElem? hy)
      simp only at i0 i1 i2 i3 j0 j1 j2 j3 hr1 hr2 hg1 hg2
      obtain ⟨gr, cr, rfl, _, _, _, _, _⟩ := hg1.form hr1
      obtain ⟨gs, cs, rfl, _, _, _, _, _⟩ := hg2.form hr1
      have HS := Lib.hid (fun W (hW : Adds wr W) => sameFr_yes (x := (f, pc, d, rs)) ((hg1.adds HA.out).adds hW) ((hg2.adds HA.out).adds hW) hr1 hr2)
      simp only at HS
      generalize rs.length = lr at *
      have HLt := Lib.hid hlt
      have hltI : (k : Int) < (cl : Int) := by omega
      obtain ⟨wz, hwz⟩ : ∃ wz, wr.alloc (.cells #[.int .i64 (f : Int), .int .i64 (pc : Int), .int .i64 d, .slice (some ⟨gr, 0, none⟩) lr cr] 76) = wz := ⟨_, rfl⟩
      have AZ := Lib.hid (show Adds wr wz by rw [← hwz]; exact (Gr.new _ _).adds)
      have BZ := Lib.hid (show BkS 76 wz wr.heap.size [.int .i64 (f : Int), .int .i64 (pc : Int), .int .i64 d, .slice (some ⟨gr, 0, none⟩) lr cr] by rw [← hwz]; exact BkS.new _ _ _)
      have l0 : wz.cell? _ = _ := AZ.out.cellAt j0
      have l1 : wz.cell? _ = _ := AZ.out.cellAt j1
      have l2 : wz.cell? _ = _ := AZ.out.cellAt j2
      have l3 : wz.cell? _ = _ := AZ.out.cellAt j3
      obtain ⟨wy, hwy⟩ : ∃ wy, wz.alloc (.cells #[.int .i64 (f : Int), .int .i64 (pc : Int), .int .i64 d, .slice (some ⟨gs, 0, none⟩) lr cs] 76) = wy := ⟨_, rfl⟩
      have AY := Lib.hid (show Adds wz wy by rw [← hwy]; exact (Gr.new _ _).adds)
      have BY := Lib.hid (show BkS 76 wy wz.heap.size [.int .i64 (f : Int), .int .i64 (pc : Int), .int .i64 d, .slice (some ⟨gs, 0, none⟩) lr cs] by rw [← hwy]; exact BkS.new _ _ _)
      have BZ2 := BZ.out.adds AY.out
      have m0 := BZ2.cell 0
      have m1 := BZ2.cell 1
      have m2 := BZ2.cell 2
      have m3 := BZ2.cell 3
      have n0 := BY.out.cell 0
      have n1 := BY.out.cell 1
      have n2 := BY.out.cell 2
      have n3 := BY.out.cell 3
      clear hg1 hg2 hr1 hr2 hx hy hlt hk hkR hkC BZ2 j0 j1 j2 j3
      go_wp2_with (go_at_call 59; refine (HS.out _ (Adds.trans AZ.out AY.out)).mono ?_; rintro e w3 ⟨rfl, qa⟩; have A3 := Lib.hid (Adds.trans (Adds.trans AZ.out AY.out) qa); clear qa)
      go_roundw
      case rel => exact ⟨k + 1, by go_num, HLt.out, Lib.hid (Adds.trans HA.out A3.out)⟩
      case measure => simp [intOf]; have := HLt.out; omega
    · have hge : ¬ (k : Int) < (cl : Int) := by omega
      clear hlt hk
      go_wp2
      go_ret
      exact ⟨rfl, HA.out⟩
end Go.Proofs.YtdkgehhlikaocaaGreat
namespace Go.Proofs.YtdkgehhlikaocaaGreat
open Go Go.RowKit Go.Shelf

section
variable {n m : Nat} {w : World} {p : Pg} {L : List Fr} {res : UInt32}
set_option maxRecDepth 100000 in
set_option maxHeartbeats 4000000 in
theorem CopyS_live {b : Nat} (h : PileP 73 n w b p L res) (hM : MayCopy p L) (h0 : p.1.length ≠ 0) (hn : n ≤ w.heap.size) :
    Calls Tryz.prog 12 #[.pointer (some ⟨b, 0, none⟩)] w fun e w' => ∃ b', e = .returned (.pointer (some ⟨b', 0, none⟩)) ∧ PileP 73 w.heap.size w' b' p L res ∧ Adds w w' := by
  have HN := Lib.hid (isNoneS_any (.inr ⟨b, rfl, h⟩) hn)
  rw [decide_eq_false h0] at HN
  have HC := Lib.hid (fun W (hW : Adds w W) => copiedP_any (h.adds hW) hM (Nat.le_trans hn hW.size))
  obtain ⟨u, hu⟩ : ∃ u, res.toNat = u := ⟨_, rfl⟩
  have HU := Lib.hid hu
  obtain ⟨fs, x1, x2, x3⟩ := p
  obtain ⟨fl, hfl⟩ : ∃ fl, fs.length = fl := ⟨_, rfl⟩
  have HFl := Lib.hid hfl
  simp only [hu] at HC ⊢
  clear h hM h0 hn hu hfl
  go_enter Tryz.func12, Tryz.ntmps12
  go_wp2_with (first
    | (go_at_call 33; refine HN.out.mono ?_; clear HN; rintro e w2 ⟨rfl, a2⟩; have A2 := Lib.hid a2; clear a2)
    | (go_at_call 34; refine (HC.out _ A2.out).mono ?_; clear HC; rintro e w3 ⟨fv, lv, C, rfl, hc, hl, hm, a3⟩; have HO := Lib.hid hc; have HL := Lib.hid hl; have HM := Lib.hid hm; have A3 := Lib.hid (Adds.trans A2.out a3); obtain ⟨aof, cf, ef, _, _⟩ := hc.form12; simp only [HFl.out] at ef; subst ef; obtain ⟨aol, cl, el, _, _⟩ := hl.form; subst el; obtain ⟨nl, hnl⟩ : ∃ nl, C.length = nl := ⟨_, rfl⟩; have HNl := Lib.hid hnl; rw [hnl]; clear hc hl hm a3 hnl))
  go_ret
  have h1 := (HO.out.lower12 A2.out.size).adds (Adds.new w3 (.cells #[.slice aof fl cf, .int .i64 x1, .int .i64 x2, .int .i64 x3, .slice aol nl cl, .int .u32 (u : Int)] 73))
  have h2 := (HL.out.lower A2.out.size).adds (Adds.new w3 (.cells #[.slice aof fl cf, .int .i64 x1, .int .i64 x2, .int .i64 x3, .slice aol nl cl, .int .u32 (u : Int)] 73))
  rw [HNl.out] at h2
  refine ⟨_, rfl, ⟨_, _, C, ⟨.inr rfl, ?_, h1, h2, ?_⟩, HM.out⟩, Adds.trans A3.out (Adds.new _ _)⟩
  · rw [HU.out]
    exact BkS.new _ _ _
  · exact A3.out.size
theorem samePg_yes (p : Pg) : samePg p p = true := by unfold samePg; simp; unfold sameFs; simp
set_option maxRecDepth 100000 in
set_option maxHeartbeats 4000000 in
theorem samePile_yes {t t' : TypeId} {b c : Nat} (h : PileP t n w b p L res) (h' : PileP t' m w c p L res) (hM : MayCopy p L) :
    Calls Tryz.prog 41 #[.pointer (some ⟨b, 0, none⟩), .pointer (some ⟨c, 0, none⟩)] w fun e w' => e = .returned (.bool true) ∧ Adds w w' := by
  obtain ⟨fv, lv, R, h, hR⟩ := h
  obtain ⟨fv', lv', R', h', hR'⟩ := h'
  have HS := Lib.hid (fun (W : World) (ha : Adds w W) => same_any fv fv' p p W ((h.fo.adds ha).funcs hM.ok) ((h'.fo.adds ha).funcs hM.ok))
  rw [samePg_yes] at HS
  have hll : R'.length = R.length := by have h1 := congrArg List.length hR; have h2 := congrArg List.length hR'; simp at h1 h2; omega
  obtain ⟨ao, cp, rfl, _, _⟩ := h.fo.form12
  obtain ⟨ao', cp', rfl, _, _⟩ := h'.fo.form12
  obtain ⟨ro, rc, rfl, _, _⟩ := h.lo.form
  obtain ⟨ro', rc', rfl, _, _⟩ := h'.lo.form
  have HE := Lib.hid (fun (W : World) (ha : Adds w W) => equalFr_yes (h.lo.adds ha) (by have h1 := h'.lo.adds ha; rw [hll] at h1; exact h1) (by rw [hR, hR']) (fun x hx => hM.rs x.1 (by rw [← hR]; exact List.mem_map_of_mem hx)) (by have h1 := congrArg List.length hR; simp at h1; have := hM.deep; omega))
  obtain ⟨u, hu⟩ : ∃ u, res.toNat = u := ⟨_, rfl⟩
  have HX := Lib.hid (fun (W : World) (ha : Adds w W) => And.intro ((h.bx.adds ha).cell 0) (And.intro ((h.bx.adds ha).cell 1) (And.intro ((h.bx.adds ha).cell 2) (And.intro ((h.bx.adds ha).cell 3) (And.intro ((h.bx.adds ha).cell 4) ((h.bx.adds ha).cell 5))))))
  have HY := Lib.hid (fun (W : World) (ha : Adds w W) => And.intro ((h'.bx.adds ha).cell 0) (And.intro ((h'.bx.adds ha).cell 1) (And.intro ((h'.bx.adds ha).cell 2) (And.intro ((h'.bx.adds ha).cell 3) (And.intro ((h'.bx.adds ha).cell 4) ((h'.bx.adds ha).cell 5))))))
  obtain ⟨fs, x1, x2, x3⟩ := p
  obtain ⟨fl, hfl⟩ : ∃ fl, fs.length = fl := ⟨_, rfl⟩
  obtain ⟨nl, hnl⟩ : ∃ nl, R.length = nl := ⟨_, rfl⟩
  rw [hll] at HY
  simp only [hu, hfl, hnl] at HX HY HS HE
  clear h h' hM hu hfl hnl hR hR' hll
  go_enter Tryz.func41, Tryz.ntmps41
  go_wp2_with fail
  refine wp_region_loose [] (fun _ _ _ => True) Adds (by kernel_rfl) (by kernel_rfl) (by simp) Adds.refl (fun _ _ _ h k => Adds.trans h k) (fun _ _ _ _ _ _ => trivial) ?_
  repeat (refine wpL_step (fun K hK => ?_); first
    | (refine stepL_ex rfl rfl rfl Adds.refl (fun w' hw' => rfl) ?_; go_simp; refine hK _ ?_; clear hK K)
    | (refine stepL_ex (v := .int .u32 (u : Int)) rfl rfl rfl Adds.refl ?_ ?_; (· (intro w' hw'; clear hK; obtain ⟨a0, a1, a2, a3, a4, a5⟩ := HX.out _ (Adds.trans (Adds.drew _) hw'); obtain ⟨b0, b1, b2, b3, b4, b5⟩ := HY.out _ (Adds.trans (Adds.drew _) hw'); go_simp)); go_simp; refine hK _ ?_; clear hK K)
    | (refine stepL_ex (v := .bool false) rfl rfl rfl Adds.refl ?_ ?_; (· (intro w' hw'; clear hK; go_simp)); go_simp; refine hK _ ?_; clear hK K)
    | (refine stepL_ex (v := pgV (.slice ao fl cp) (fs, x1, x2, x3)) rfl rfl rfl Adds.refl ?_ ?_; (· (intro w' hw'; clear hK; obtain ⟨a0, a1, a2, a3, a4, a5⟩ := HX.out _ (Adds.trans (Adds.drew _) hw'); go_simp)); go_simp; refine hK _ ?_; clear hK K)
    | (refine stepL_ex (v := pgV (.slice ao' fl cp') (fs, x1, x2, x3)) rfl rfl rfl Adds.refl ?_ ?_; (· (intro w' hw'; clear hK; obtain ⟨b0, b1, b2, b3, b4, b5⟩ := HY.out _ (Adds.trans (Adds.drew _) hw'); go_simp)); go_simp; refine hK _ ?_; clear hK K)
    | (refine stepL_call (v := .bool true) (f := 57) (args := #[pgV (.slice ao fl cp) (fs, x1, x2, x3), pgV (.slice ao' fl cp') (fs, x1, x2, x3)]) rfl rfl rfl ?_ (fun w' hw' => HS.out w' (Adds.trans (Adds.drew _) hw')) ?_; (· (intro w'; clear hK; go_simp)); go_simp; refine hK _ ?_; clear hK K)
    | (refine stepL_ex (v := .bool (!true)) rfl rfl rfl Adds.refl ?_ ?_; (· (intro w' hw'; clear hK; go_simp)); go_simp; refine hK _ ?_; clear hK K))
  refine wpL_nil ?_
  intro w3 a3
  simp only [forL]
  have A3 := Lib.hid (Adds.trans (Adds.drew _) a3)
  clear a3
  go_wp2
  refine wp_region_loose [] (fun _ _ _ => True) Adds (by kernel_rfl) (by kernel_rfl) (by simp) Adds.refl (fun _ _ _ h k => Adds.trans h k) (fun _ _ _ _ _ _ => trivial) ?_
  repeat (refine wpL_step (fun K hK => ?_); first
    | (refine stepL_ex rfl rfl rfl Adds.refl (fun w' hw' => rfl) ?_; go_simp; refine hK _ ?_; clear hK K)
    | (refine stepL_ex (v := .slice ro nl rc) rfl rfl rfl Adds.refl ?_ ?_; (· (intro w' hw'; clear hK; obtain ⟨a0, a1, a2, a3, a4, a5⟩ := HX.out _ (Adds.trans A3.out (Adds.trans (Adds.drew _) hw')); go_simp)); go_simp; refine hK _ ?_; clear hK K)
    | (refine stepL_ex (v := .slice ro' nl rc') rfl rfl rfl Adds.refl ?_ ?_; (· (intro w' hw'; clear hK; obtain ⟨b0, b1, b2, b3, b4, b5⟩ := HY.out _ (Adds.trans A3.out (Adds.trans (Adds.drew _) hw')); go_simp)); go_simp; refine hK _ ?_; clear hK K)
    | (refine stepL_call (v := .bool true) (f := 58) (args := #[.slice ro nl rc, .slice ro' nl rc', .func (.func 59) #[] #[]]) rfl rfl rfl ?_ (fun w' hw' => HE.out w' (Adds.trans A3.out (Adds.trans (Adds.drew _) hw'))) ?_; (· (intro w'; clear hK; go_simp)); go_simp; refine hK _ ?_; clear hK K))
  refine wpL_nil ?_
  intro w4 a4
  simp only [forL]
  have A4 := Lib.hid (Adds.trans A3.out (Adds.trans (Adds.drew _) a4))
  clear a4
  go_wp2
  go_ret
  exact ⟨rfl, A4.out⟩
set_option maxRecDepth 100000 in
theorem SameS_yes {b c : Nat} (h : PileP 73 n w b p L res) (h' : PileP 73 m w c p L res) (hn : n ≤ w.heap.size) (hm : m ≤ w.heap.size) (hM : MayCopy p L) :
    Calls Tryz.prog 16 #[.pointer (some ⟨b, 0, none⟩), .pointer (some ⟨c, 0, none⟩)] w fun e w' => e = .returned (.bool true) ∧ Adds w w' := by
  have HI := Lib.hid (inside_any (.inr ⟨b, rfl, h⟩) hn)
  have HI' := Lib.hid (fun (W : World) (ha : Adds w W) => inside_any (.inr ⟨c, rfl, h'.adds ha⟩) (Nat.le_trans hm ha.size))
  have HS := Lib.hid (fun (W : World) (t t' : TypeId) (b c : Nat) (hp : PileP t n W b p L res) (hq : PileP t' m W c p L res) => samePile_yes hp hq hM)
  clear h h' hn hm hM
  go_enter Tryz.func16, Tryz.ntmps16
  have HI2 := HI
  go_wp2_with (first
    | (go_at_call 35; refine HI2.out.mono ?_; rintro e w2 ⟨t, b, rfl, hp, a2⟩; have A2 := Lib.hid a2; have HP := Lib.hid hp; clear hp a2 HI2)
    | (go_at_call 35; refine (HI'.out _ A2.out).mono ?_; rintro e w3 ⟨t', c, rfl, hq, a3⟩; have A3 := Lib.hid (Adds.trans A2.out a3); have HP3 := Lib.hid (HP.out.adds a3); have HQ := Lib.hid hq; clear hq a3)
    | (go_at_call 41; refine (HS.out _ _ _ _ _ HP3.out HQ.out).mono ?_; rintro e w4 ⟨rfl, a4⟩; have A4 := Lib.hid (Adds.trans A3.out a4); clear a4))
  go_ret
  exact ⟨rfl, A4.out⟩
end
end Go.Proofs.YtdkgehhlikaocaaGreat
