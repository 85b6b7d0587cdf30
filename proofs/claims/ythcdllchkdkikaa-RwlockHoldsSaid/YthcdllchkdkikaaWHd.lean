/- A round of the law RwlockHolds, by itself. -/
import Derived.Test.YthcdllchkdkikaaWL0
import Derived.Test.YthcdllchkdkikaaWLp
import Derived.Test.YthcdllchkdkikaaWRga
import Derived.Test.YthcdllchkdkikaaWRgb
import Derived.Test.YthcdllchkdkikaaWRgc
namespace Go.Proofs.Ythcdllchkdkikaa
open Go Go.RowKit

set_option maxRecDepth 100000 in
set_option maxHeartbeats 16000000 in
theorem hold_d {C : Code} (hC : Try.f6.body.bind loopOf = some C) {Q : Exit → Act → World → Prop} {n k al g off cap BR BW : Nat} {ls : List Lk} {w wr : World} {a i cc : Int} {v z0 z1 z2 z3 z4 z6 z7 z8 z9 z10 z11 z12 z13 z14 z15 z16 z17 z18 z19 z20 z21 z22 z23 z24 z25 z26 z27 z28 z29 z30 z31 z32 z33 z34 z35 z36 z37 z38 z39 z40 z41 z42 z43 z44 z45 z46 z47 z48 z49 z50 z51 z52 z53 z54 z55 z56 z57 z58 z59 z60 z61 z62 z63 z64 z65 z66 z67 z68 z69 z70 z71 z72 z73 z74 z75 z76 z77 z78 z79 z80 z81 z82 z83 z84 z85 z86 z87 z88 z89 z90 z91 z92 z93 z94 z95 z96 z97 z98 z99 z100 z101 z102 z103 z104 z105 z106 z107 z108 z109 z110 z111 z112 z113 z114 z115 z116 z117 z118 z119 z120 z121 z122 z123 z124 z125 z126 z127 z128 z129 z130 z131 z132 z133 z134 z135 z136 z137 z138 z139 z140 z141 z142 z143 z144 z145 z146 z147 z148 z149 z150 z151 z152 z153 z154 z155 z156 z157 z158 z159 z160 z161 z162 z163 z164 z165 z166 z167 z168 z169 z170 z171 z172 z173 z174 z175 z176 z177 z178 z179 z180 : Value}
    (hH : HoldW k n w wr v BR BW ls) (hn64 : n ≤ 64) (hk : k < al) (h100 : al ≤ 100)
    (c0 : wr.cell? ⟨g, off + k * 3, none⟩ = some (.int .i64 a)) (c1 : wr.cell? ⟨g, off + k * 3 + 1, none⟩ = some (.int .i64 i)) (c2 : wr.cell? ⟨g, off + k * 3 + 2, none⟩ = some (.int .i64 cc)) (ha0 : ¬ a = 0) (ha1 : ¬ a = 1) (ha2 : ¬ a = 2) (ha3 : ¬ a = 3) (ha4 : ¬ a = 4) (ha5 : ¬ a = 5) (ha6 : ¬ a = 6)
    (e0 : z0 = Value.int .i64 (n : Int)) (e1 : z1 = Value.slice (some ⟨g, off, none⟩) al cap) (e7 : z7 = Value.pointer (some ⟨BR, 0, none⟩)) (e8 : z8 = Value.pointer (some ⟨BW, 0, none⟩)) (e9 : z9 = Value.int .i64 (k : Int))
    (h : ∀ t10 t11 t12 t13 t14 t15 t33 t34 t35 t36 t37 t38 t39 t40 t41 t42 t43 t44 t45 t46 t47 t48 t49 t50 t51 t52 t53 t54 t55 t56 t57 t58 t59 t60 t61 t62 t63 t64 t65 t66 t67 t68 t69 t70 t71 t72 t73 t74 t75 t76 t77 t78 t79 t80 t81 t82 t83 t84 t85 t86 t87 t88 t89 t90 t91 t92 t93 t94 t95 t96 t97 t98 t99 t100 t101 t102 t103 t104 t105 t106 t107 t108 t109 t110 t111 t112 t113 t114 t115 t116 t117 t118 t119 t120 t121 t122 t123 t124 t125 t126 t127 t128 t129 t130 t131 t132 t133 t134 t135 t136 t137 t138 t139 t140 t141 t142 t143 t144 t145 t146 t147 t148 t149 t150 t151 t152 t153 t154 t155 t156 t157 t158 t159 t160 t161 t162 t163 t164 t165 t166 t167 t168 t169 t170 t171 t172 t173 t174 w' ls', HoldW (k + 1) n w w' v BR BW ls' → Q .normal { tmps := #[z0, z1, z2, z3, z4, v, z6, z7, z8, Value.int .i64 ((k : Int) + 1), t10, t11, t12, t13, t14, t15, z16, z17, z18, z19, z20, z21, z22, z23, z24, z25, z26, z27, z28, z29, z30, z31, z32, t33, t34, t35, t36, t37, t38, t39, t40, t41, t42, t43, t44, t45, t46, t47, t48, t49, t50, t51, t52, t53, t54, t55, t56, t57, t58, t59, t60, t61, t62, t63, t64, t65, t66, t67, t68, t69, t70, t71, t72, t73, t74, t75, t76, t77, t78, t79, t80, t81, t82, t83, t84, t85, t86, t87, t88, t89, t90, t91, t92, t93, t94, t95, t96, t97, t98, t99, t100, t101, t102, t103, t104, t105, t106, t107, t108, t109, t110, t111, t112, t113, t114, t115, t116, t117, t118, t119, t120, t121, t122, t123, t124, t125, t126, t127, t128, t129, t130, t131, t132, t133, t134, t135, t136, t137, t138, t139, t140, t141, t142, t143, t144, t145, t146, t147, t148, t149, t150, t151, t152, t153, t154, t155, t156, t157, t158, t159, t160, t161, t162, t163, t164, t165, t166, t167, t168, t169, t170, t171, t172, t173, t174, z175, z176, z177, z178, z179, z180], defers := [] } w') :
    Code.wp Try.prog C Q { tmps := #[z0, z1, z2, z3, z4, v, z6, z7, z8, z9, z10, z11, z12, z13, z14, z15, z16, z17, z18, z19, z20, z21, z22, z23, z24, z25, z26, z27, z28, z29, z30, z31, z32, z33, z34, z35, z36, z37, z38, z39, z40, z41, z42, z43, z44, z45, z46, z47, z48, z49, z50, z51, z52, z53, z54, z55, z56, z57, z58, z59, z60, z61, z62, z63, z64, z65, z66, z67, z68, z69, z70, z71, z72, z73, z74, z75, z76, z77, z78, z79, z80, z81, z82, z83, z84, z85, z86, z87, z88, z89, z90, z91, z92, z93, z94, z95, z96, z97, z98, z99, z100, z101, z102, z103, z104, z105, z106, z107, z108, z109, z110, z111, z112, z113, z114, z115, z116, z117, z118, z119, z120, z121, z122, z123, z124, z125, z126, z127, z128, z129, z130, z131, z132, z133, z134, z135, z136, z137, z138, z139, z140, z141, z142, z143, z144, z145, z146, z147, z148, z149, z150, z151, z152, z153, z154, z155, z156, z157, z158, z159, z160, z161, z162, z163, z164, z165, z166, z167, z168, z169, z170, z171, z172, z173, z174, z175, z176, z177, z178, z179, z180], defers := [] } wr := by
  obtain rfl := Option.some.inj ((show some _ = Try.f6.body.bind loopOf from rfl).trans hC)
  subst e0 e1 e7 e8 e9
  have H := Lib.hid h
  have HNum := Lib.hid num_any
  have HN := Lib.hid (And.intro (show (0 : Int) ≤ 0 by decide) (show (n : Int) ≤ 64 by omega))
  have HG3 := Lib.hid h100
  have hltI : (k : Int) < (al : Int) := by omega
  have h5 : (al : Int) ≤ 100 := by omega
  have HK := Lib.hid (show k + 1 ≤ al from hk)
  have HK6 := Lib.hid (show k ≤ 1000000 by omega)
  obtain ⟨wc, hwc⟩ : ∃ wc, wr.alloc (.cells #[.int .i64 a, .int .i64 i, .int .i64 cc] 37) = wc := ⟨_, rfl⟩
  have haw : Adds wr wc := by rw [← hwc]; exact (Gr.new _ _).adds
  have HX := Lib.hid (show BkS 37 wc wr.heap.size [.int .i64 a, .int .i64 i, .int .i64 cc] by rw [← hwc]; exact BkS.new _ _ _)
  have z0 : wc.cell? ⟨wr.heap.size, 0, none⟩ = some (.int .i64 a) := HX.out.cell 0
  have z1 : wc.cell? ⟨wr.heap.size, 1, none⟩ = some (.int .i64 i) := HX.out.cell 1
  have z2 : wc.cell? ⟨wr.heap.size, 2, none⟩ = some (.int .i64 cc) := HX.out.cell 2
  obtain ⟨c, hc⟩ : ∃ c, wr.heap.size = c := ⟨_, rfl⟩
  rw [hc] at HX z0 z1 z2
  have HH := Lib.hid (hH.adds haw)
  clear h hC hH haw hk h100 hn64
  refine wp_calmW ?_
  go_wp2_with fail
  try simp only [Exit.then]
  exact H.out _ _ _ _ _ _ _ _ _ _ _ _ _ _ _ _ _ _ _ _ _ _ _ _ _ _ _ _ _ _ _ _ _ _ _ _ _ _ _ _ _ _ _ _ _ _ _ _ _ _ _ _ _ _ _ _ _ _ _ _ _ _ _ _ _ _ _ _ _ _ _ _ _ _ _ _ _ _ _ _ _ _ _ _ _ _ _ _ _ _ _ _ _ _ _ _ _ _ _ _ _ _ _ _ _ _ _ _ _ _ _ _ _ _ _ _ _ _ _ _ _ _ _ _ _ _ _ _ _ _ _ _ _ _ _ _ _ _ _ _ _ _ _ _ _ _ _ _ _ _ (HH.out.up (Nat.le_succ k))
end Go.Proofs.Ythcdllchkdkikaa
