/- A round of the law RwlockHolds, by itself. -/
import Derived.Test.YthcdllchkdkikaaWL0
import Derived.Test.YthcdllchkdkikaaWLp
import Derived.Test.YthcdllchkdkikaaWRga
import Derived.Test.YthcdllchkdkikaaWRgb
import Derived.Test.YthcdllchkdkikaaWRgc
namespace Go.Proofs.Ythcdllchkdkikaa
open Go Go.RowKit

set_option maxRecDepth 100000 in
set_option maxHeartbeats 16000000 in
theorem hold_5 {C : Code} (hC : Try.f6.body.bind loopOf = some C) {Q : Exit → Act → World → Prop} {n k al g off cap BR BW : Nat} {ls : List Lk} {w wr : World} {i cc : Int} {v z0 z1 z2 z3 z4 z6 z7 z8 z9 z10 z11 z12 z13 z14 z15 z16 z17 z18 z19 z20 z21 z22 z23 z24 z25 z26 z27 z28 z29 z30 z31 z32 z33 z34 z35 z36 z37 z38 z39 z40 z41 z42 z43 z44 z45 z46 z47 z48 z49 z50 z51 z52 z53 z54 z55 z56 z57 z58 z59 z60 z61 z62 z63 z64 z65 z66 z67 z68 z69 z70 z71 z72 z73 z74 z75 z76 z77 z78 z79 z80 z81 z82 z83 z84 z85 z86 z87 z88 z89 z90 z91 z92 z93 z94 z95 z96 z97 z98 z99 z100 z101 z102 z103 z104 z105 z106 z107 z108 z109 z110 z111 z112 z113 z114 z115 z116 z117 z118 z119 z120 z121 z122 z123 z124 z125 z126 z127 z128 z129 z130 z131 z132 z133 z134 z135 z136 z137 z138 z139 z140 z141 z142 z143 z144 z145 z146 z147 z148 z149 z150 z151 z152 z153 z154 z155 z156 z157 z158 z159 z160 z161 z162 z163 z164 z165 z166 z167 z168 z169 z170 z171 z172 z173 z174 z175 z176 z177 z178 z179 z180 : Value}
    (hH : HoldW k n w wr v BR BW ls) (hn64 : n ≤ 64) (hk : k < al) (h100 : al ≤ 100)
    (c0 : wr.cell? ⟨g, off + k * 3, none⟩ = some (.int .i64 5)) (c1 : wr.cell? ⟨g, off + k * 3 + 1, none⟩ = some (.int .i64 i)) (c2 : wr.cell? ⟨g, off + k * 3 + 2, none⟩ = some (.int .i64 cc)) 
    (e0 : z0 = Value.int .i64 (n : Int)) (e1 : z1 = Value.slice (some ⟨g, off, none⟩) al cap) (e7 : z7 = Value.pointer (some ⟨BR, 0, none⟩)) (e8 : z8 = Value.pointer (some ⟨BW, 0, none⟩)) (e9 : z9 = Value.int .i64 (k : Int))
    (h : ∀ t10 t11 t12 t13 t14 t15 t33 t34 t35 t36 t37 t38 t39 t40 t41 t42 t43 t44 t45 t46 t47 t48 t49 t50 t51 t52 t53 t54 t55 t56 t57 t58 t59 t60 t61 t62 t63 t64 t65 t66 t67 t68 t69 t70 t71 t72 t73 t74 t75 t76 t77 t78 t79 t80 t81 t82 t83 t84 t85 t86 t87 t88 t89 t90 t91 t92 t93 t94 t95 t96 t97 t98 t99 t100 t101 t102 t103 t104 t105 t106 t107 t108 t109 t110 t111 t112 t113 t114 t115 t116 t117 t118 t119 t120 t121 t122 t123 t124 t125 t126 t127 t128 t129 t130 t131 t132 t133 t134 t135 t136 t137 t138 t139 t140 t141 t142 t143 t144 t145 t146 t147 t148 t149 t150 t151 t152 t153 t154 t155 t156 t157 t158 t159 t160 t161 t162 t163 t164 t165 t166 t167 t168 t169 t170 t171 t172 t173 t174 w' ls', HoldW (k + 1) n w w' v BR BW ls' → Q .normal { tmps := #[z0, z1, z2, z3, z4, v, z6, z7, z8, Value.int .i64 ((k : Int) + 1), t10, t11, t12, t13, t14, t15, z16, z17, z18, z19, z20, z21, z22, z23, z24, z25, z26, z27, z28, z29, z30, z31, z32, t33, t34, t35, t36, t37, t38, t39, t40, t41, t42, t43, t44, t45, t46, t47, t48, t49, t50, t51, t52, t53, t54, t55, t56, t57, t58, t59, t60, t61, t62, t63, t64, t65, t66, t67, t68, t69, t70, t71, t72, t73, t74, t75, t76, t77, t78, t79, t80, t81, t82, t83, t84, t85, t86, t87, t88, t89, t90, t91, t92, t93, t94, t95, t96, t97, t98, t99, t100, t101, t102, t103, t104, t105, t106, t107, t108, t109, t110, t111, t112, t113, t114, t115, t116, t117, t118, t119, t120, t121, t122, t123, t124, t125, t126, t127, t128, t129, t130, t131, t132, t133, t134, t135, t136, t137, t138, t139, t140, t141, t142, t143, t144, t145, t146, t147, t148, t149, t150, t151, t152, t153, t154, t155, t156, t157, t158, t159, t160, t161, t162, t163, t164, t165, t166, t167, t168, t169, t170, t171, t172, t173, t174, z175, z176, z177, z178, z179, z180], defers := [] } w') :
    Code.wp Try.prog C Q { tmps := #[z0, z1, z2, z3, z4, v, z6, z7, z8, z9, z10, z11, z12, z13, z14, z15, z16, z17, z18, z19, z20, z21, z22, z23, z24, z25, z26, z27, z28, z29, z30, z31, z32, z33, z34, z35, z36, z37, z38, z39, z40, z41, z42, z43, z44, z45, z46, z47, z48, z49, z50, z51, z52, z53, z54, z55, z56, z57, z58, z59, z60, z61, z62, z63, z64, z65, z66, z67, z68, z69, z70, z71, z72, z73, z74, z75, z76, z77, z78, z79, z80, z81, z82, z83, z84, z85, z86, z87, z88, z89, z90, z91, z92, z93, z94, z95, z96, z97, z98, z99, z100, z101, z102, z103, z104, z105, z106, z107, z108, z109, z110, z111, z112, z113, z114, z115, z116, z117, z118, z119, z120, z121, z122, z123, z124, z125, z126, z127, z128, z129, z130, z131, z132, z133, z134, z135, z136, z137, z138, z139, z140, z141, z142, z143, z144, z145, z146, z147, z148, z149, z150, z151, z152, z153, z154, z155, z156, z157, z158, z159, z160, z161, z162, z163, z164, z165, z166, z167, z168, z169, z170, z171, z172, z173, z174, z175, z176, z177, z178, z179, z180], defers := [] } wr := by
  obtain rfl := Option.some.inj ((show some _ = Try.f6.body.bind loopOf from rfl).trans hC)
  subst e0 e1 e7 e8 e9
  have H := Lib.hid h
  have HNum := Lib.hid num_any
  have HN := Lib.hid (And.intro (show (0 : Int) ≤ 0 by decide) (show (n : Int) ≤ 64 by omega))
  have HG3 := Lib.hid h100
  have hltI : (k : Int) < (al : Int) := by omega
  have h5 : (al : Int) ≤ 100 := by omega
  have HK := Lib.hid (show k + 1 ≤ al from hk)
  have HK6 := Lib.hid (show k ≤ 1000000 by omega)
  obtain ⟨wc, hwc⟩ : ∃ wc, wr.alloc (.cells #[.int .i64 5, .int .i64 i, .int .i64 cc] 37) = wc := ⟨_, rfl⟩
  have haw : Adds wr wc := by rw [← hwc]; exact (Gr.new _ _).adds
  have HX := Lib.hid (show BkS 37 wc wr.heap.size [.int .i64 5, .int .i64 i, .int .i64 cc] by rw [← hwc]; exact BkS.new _ _ _)
  have z0 : wc.cell? ⟨wr.heap.size, 0, none⟩ = some (.int .i64 5) := HX.out.cell 0
  have z1 : wc.cell? ⟨wr.heap.size, 1, none⟩ = some (.int .i64 i) := HX.out.cell 1
  have z2 : wc.cell? ⟨wr.heap.size, 2, none⟩ = some (.int .i64 cc) := HX.out.cell 2
  obtain ⟨c, hc⟩ : ∃ c, wr.heap.size = c := ⟨_, rfl⟩
  rw [hc] at HX z0 z1 z2
  have HH := Lib.hid (hH.adds haw)
  clear h hC hH haw hk h100 hn64
  refine wp_calmW ?_
  have HCall := Lib.hid (live_goes2 HH.out.live fun O ho => writeW_any ho i cc)
  by_cases hE : writeE ls i cc = 0
  · obtain ⟨m, x, y, rfl, hml, hst, hy1, hy2⟩ := step_write hE
    have HST := Lib.hid hst
    obtain ⟨q1, q2, q3⟩ := hst.cells
    rw [hE] at HCall
    skip
    obtain ⟨l2, hl2⟩ : ∃ l2, writeL ls (m : Int) cc = l2 := ⟨_, rfl⟩
    rw [hl2] at HCall HST q3
    have hmI : (m : Int) < (n : Int) := by have := HH.out.len; omega
    have hm64 : (m : Int) < 64 := by have := HN.out.2; omega
    have hm0 : ¬ (m : Int) < 0 := by omega
    have hbr := (HH.out.br.cell m).trans (arrV_at q1)
    have hbw := (HH.out.bw.cell m).trans (arrV_at q2)
    have HQ3 := Lib.hid q3
    have s1 := hst.r
    have s2 := hst.w
    have HY := Lib.hid (And.intro hy1 hy2)
    have t1 := HH.out.live.ok x (List.mem_of_getElem? hst.at_)
    have t2 : 0 ≤ nR x ∧ nR x ≤ 1000000 ∧ 0 ≤ nW x ∧ nW x ≤ 1 := by
      have := t1.2.2.2
      have := HK6.out
      refine ⟨by simp only [nR]; omega, by simp only [nR]; omega, ?_, ?_⟩ <;> (unfold nW; split <;> decide)
    obtain ⟨t3, t4, t5, t6⟩ := t2
    have HF1 := Lib.hid (fun W (hf : FarT wc W) => (hf _ _ _ HX.out (by decide) (by decide) (by decide)))
    have HF2 := Lib.hid (fun W (hf : FarT wc W) => (hf _ _ _ HH.out.br (by decide) (by decide) (by decide)))
    have HF3 := Lib.hid (fun W (hf : FarT wc W) => (hf _ _ _ HH.out.bw (by decide) (by decide) (by decide)))
    clear hst q1 q2 q3 hE hl2 hml t1 hy1 hy2
    generalize hgr : nR x = rx at *
    generalize hgw : nW x = qx at *
    clear hgr hgw
    go_wp2_with (first
      | (go_at_call 22; refine HCall.out.mono ?_; rintro e w3 ⟨rfl, h1, h2⟩; have L3 := Lib.hid h1; have F3 := Lib.hid h2; have x3 := HF1.out _ h2; have y0 : w3.cell? ⟨c, 0, none⟩ = some (.int .i64 _) := x3.cell 0; have y1 : w3.cell? ⟨c, 1, none⟩ = some (.int .i64 (m : Int)) := x3.cell 1; have b3 := HF2.out _ h2; have d3 := HF3.out _ h2; have u0 : w3.cell? ⟨BR, m, none⟩ = some (.int .i64 rx) := (b3.cell m).trans ((HH.out.br.cell m).symm.trans hbr); have u1 : w3.cell? ⟨BW, m, none⟩ = some (.int .i64 qx) := (d3.cell m).trans ((HH.out.bw.cell m).symm.trans hbw); have v0 := b3.free m; have v1 := d3.free m; clear h1 h2)
      | (go_at_call 10; refine (HNum.out _ _).mono ?_; rintro e w' ⟨rfl, rfl⟩))
    have y1d : w3.drew.cell? _ = _ := y1
    have u0d : w3.drew.cell? _ = _ := u0
    have u1d : w3.drew.cell? _ = _ := u1
    have v0d : w3.drew.frozen? _ = _ := v0
    have v1d : w3.drew.frozen? _ = _ := v1
    have hn1 : ¬ BR = BW := HH.out.ne
    have hn2 : ¬ BW = BR := fun e => HH.out.ne e.symm
    have hn3 : ¬ c = BR := bks_ne HX.out HH.out.br (by decide)
    have hn4 : ¬ BR = c := fun e => hn3 e.symm
    have hn5 : ¬ c = BW := bks_ne HX.out HH.out.bw (by decide)
    have hn6 : ¬ BW = c := fun e => hn5 e.symm
    clear z0 z1 z2 c0 c1 c2 y0 hbr hbw
    go_region
    simp only [Exit.then]
    obtain ⟨w5, hw5⟩ : ∃ w5, World.drew ((w3.setCell ⟨BR, m, none⟩ (.int .i64 (nR y))).setCell ⟨BW, m, none⟩ (.int .i64 (nW y))) = w5 := ⟨_, rfl⟩
    have H5 := Lib.hid (show HoldW (k) n w w5 v BR BW l2 by rw [← hw5]; exact (HH.out.step HST.out L3.out F3.out).adds (Adds.drew _))
    have X5 := Lib.hid (show BkS 37 w5 c [.int .i64 5, .int .i64 (m : Int), .int .i64 cc] by rw [← hw5]; exact ((x3.other hn4 _).other hn6 _).adds (Adds.drew _))
    rw [hw5]
    have g1 : w5.cell? ⟨c, 1, none⟩ = some (.int .i64 (m : Int)) := X5.out.cell 1
    have HWr := Lib.hid (writer_live H5.out.live (m : Int))
    rw [HQ3.out] at HWr
    obtain ⟨wq, hwq⟩ : ∃ wq, decide (y.wr ≠ 0) = wq := ⟨_, rfl⟩
    obtain ⟨zq, hzq⟩ : ∃ zq, whoW y.wr = zq := ⟨_, rfl⟩
    rw [hwq, hzq] at HWr
    have HWQ := Lib.hid hwq
    clear hwq hzq
    clear hw5 y1 y1d u0 u1 u0d u1d v0 v1 v0d v1d b3 d3 x3 s1 s2 t3 t4 t5 t6
    go_wp2_with (go_at_call 19; refine HWr.out.mono ?_; clear HWr; rintro e w6 ⟨rfl, h1⟩; have H6 := Lib.hid (H5.out.adds h1); have X6 := Lib.hid (X5.out.adds h1); clear h1)
    obtain ⟨hy1, hy2⟩ := HY.out

    have hwb : wq = true := by rw [← HWQ.out]; exact nW_yes hy2
    subst hwb
    obtain ⟨rd, hrd⟩ : ∃ rd, y.rd = rd := ⟨_, rfl⟩
    obtain ⟨r, hr⟩ : ∃ r : Nat, rd.length = r := ⟨_, rfl⟩
    have hrI : nR y = (r : Int) := by unfold nR; rw [hrd, hr]
    have HXf := Lib.hid (show ∀ W, Adds w6 W → W.cell? ⟨c, 1, none⟩ = some (.int .i64 (m : Int)) ∧ W.cell? ⟨BR, m, none⟩ = some (.int .i64 (r : Int)) ∧ W.cell? ⟨BW, m, none⟩ = some (.int .i64 1) from fun W hW => ⟨(X6.out.adds hW).cell 1, by
        have h := ((H6.out.br.adds hW).cell m).trans (arrV_at (x := nR y) (by rw [HST.out.set, List.map_set]; exact List.getElem?_set_self (by simpa using (List.getElem?_eq_some_iff.1 HST.out.at_).1)))
        rwa [hrI] at h, by
        have h := ((H6.out.bw.adds hW).cell m).trans (arrV_at (x := nW y) (by rw [HST.out.set, List.map_set]; exact List.getElem?_set_self (by simpa using (List.getElem?_eq_some_iff.1 HST.out.at_).1)))
        rwa [hy2] at h⟩)
    have HRd := Lib.hid (show ∀ W, Adds w6 W → Calls Try.prog 13 #[v, .int .i64 (m : Int)] W fun e W' => ∃ u, e = .returned u ∧ (∃ ao cap, u = .slice ao r cap) ∧ Adds W W' from fun W hW => (readers_live (H6.out.live.adds hW) (by have := HK6.out; have := HG3.out; have := HK.out; omega) (m : Int)).mono fun e W' h => by
        obtain ⟨u, he, h2, h3⟩ := h
        rw [HQ3.out, hrd] at h2
        obtain ⟨ao, cap, e2, _, _⟩ := h2.cut.form
        exact ⟨u, he, ⟨ao, cap, by rw [e2, hr]⟩, h3⟩)
    rw [hrI] at hy1
    have r0 : r = 0 := by omega
    subst r0
    clear hy1 hy2 hrd hr hrI
    refine reg30c (by kernel_rfl) HXf.out hm64 HRd.out rfl rfl rfl rfl ?_
    intro t121 t122 t123 t124 t125 t126 t127 t128 t129 t130 t131 t132 t133 t134 t135 t136 t137 t138 t139 t140 t141 t142 t143 t144 t145 t146 t147 t148 t149 t150 t151 t152 t153 t154 t155 t156 t157 t158 t159 t160 t161 t162 t163 t164 t165 t166 t167 t168 t169 t170 t171 t172 t173 w7 a7
    have A7 := Lib.hid a7
    clear a7
    simp only [Exit.then]
    go_wp2_with fail
    try simp only [Exit.then]
    exact H.out _ _ _ _ _ _ _ _ _ _ _ _ _ _ _ _ _ _ _ _ _ _ _ _ _ _ _ _ _ _ _ _ _ _ _ _ _ _ _ _ _ _ _ _ _ _ _ _ _ _ _ _ _ _ _ _ _ _ _ _ _ _ _ _ _ _ _ _ _ _ _ _ _ _ _ _ _ _ _ _ _ _ _ _ _ _ _ _ _ _ _ _ _ _ _ _ _ _ _ _ _ _ _ _ _ _ _ _ _ _ _ _ _ _ _ _ _ _ _ _ _ _ _ _ _ _ _ _ _ _ _ _ _ _ _ _ _ _ _ _ _ _ _ _ _ _ _ _ _ _ ((H6.out.adds A7.out).up (Nat.le_succ k))
  · obtain ⟨er, her⟩ : ∃ er, writeE ls i cc = er := ⟨_, rfl⟩
    have HE0 := Lib.hid (show writeL ls i cc = ls by unfold writeL; rw [if_neg hE])
    rw [HE0.out, her] at HCall
    rw [her] at hE
    skip
    clear her
    go_wp2_with (first
      | (go_at_call 22; refine HCall.out.mono ?_; rintro e w3 ⟨rfl, h1, h2⟩; have L3 := Lib.hid h1; have F3 := Lib.hid h2; have x3 := HX.out; have y0 : w3.cell? ⟨c, 0, none⟩ = some (.int .i64 _) := (h2 _ _ _ x3 (by decide) (by decide) (by decide)).cell 0; clear h1 h2)
      | (go_at_call 10; refine (HNum.out _ _).mono ?_; rintro e w' ⟨rfl, rfl⟩))
    try simp only [Exit.then]
    exact H.out _ _ _ _ _ _ _ _ _ _ _ _ _ _ _ _ _ _ _ _ _ _ _ _ _ _ _ _ _ _ _ _ _ _ _ _ _ _ _ _ _ _ _ _ _ _ _ _ _ _ _ _ _ _ _ _ _ _ _ _ _ _ _ _ _ _ _ _ _ _ _ _ _ _ _ _ _ _ _ _ _ _ _ _ _ _ _ _ _ _ _ _ _ _ _ _ _ _ _ _ _ _ _ _ _ _ _ _ _ _ _ _ _ _ _ _ _ _ _ _ _ _ _ _ _ _ _ _ _ _ _ _ _ _ _ _ _ _ _ _ _ _ _ _ _ _ _ _ _ _ ((⟨L3.out, HH.out.len, HH.out.one, F3.out _ _ _ HH.out.br (by decide) (by decide) (by decide), F3.out _ _ _ HH.out.bw (by decide) (by decide) (by decide), HH.out.hr, HH.out.hw, HH.out.ne⟩ : HoldW (k) n w w3 v BR BW ls).up (Nat.le_succ k))
end Go.Proofs.Ythcdllchkdkikaa
