/- Merged: Z36W, Z37. -/
import Derived.Test.YtdkgehhlikaocaaGreatY44
import Derived.Test.YtdkgehhlikaocaaGreatY45
import Derived.Test.YtdkgehhlikaocaaGreatY46
import Derived.Test.YtdkgehhlikaocaaGreatY47
import Derived.Test.YtdkgehhlikaocaaGreatY48
import Derived.Test.YtdkgehhlikaocaaGreatY49
import Derived.Test.YtdkgehhlikaocaaGreatY52
import Derived.Test.YtdkgehhlikaocaaGreatY53
namespace Go.Proofs.YtdkgehhlikaocaaGreat
open Go Go.RowKit Go.Shelf


set_option maxRecDepth 100000 in
set_option maxHeartbeats 16000000 in
theorem rdN0 {C : Code} (hC : Tryz.f4.body.bind loopOfZ = some C) {Q0 : Exit → Act → World → Prop} {w wr : World} {n b k nl ga oa ca g1 off fl cp wl cw f : Nat} {aw : Option Addr} {fs : List Fu} {x1 x2 x3 y1 y2 y3 : Int} {y4 : UInt32} {L Q : List Fr} {res qr : UInt32} {z0 z1 z2 z3 z4 z5 z6 z7 z8 z9 z10 z11 z12 z13 z14 z15 z16 z17 z18 z19 z20 z21 z22 z23 z24 z25 z26 z27 z28 z29 z30 z31 z32 z33 z34 z35 z36 z37 z38 z39 z40 z41 z42 z43 z44 z45 z46 z47 z48 z49 z50 z51 z52 z53 z54 z55 z56 z57 z58 z59 z60 z61 z62 z63 z64 z65 z66 z67 z68 z69 z70 z71 z72 z73 z74 z75 z76 z77 z78 z79 z80 z81 z82 z83 z84 z85 z86 z87 z88 z89 z90 z91 z92 z93 z94 z95 z96 z97 z98 z99 z100 z101 z102 z103 z104 z105 z106 z107 z108 z109 z110 z111 z112 z113 z114 z115 z116 z117 z118 z119 z120 z121 z122 z123 z124 z125 z126 z127 z128 z129 z130 z131 z132 z133 z134 z135 z136 z137 z138 z139 z140 z141 z142 z143 z144 z145 z146 z147 z148 z149 z150 z151 z152 z153 z154 z155 z156 z157 z158 z159 z160 z161 z162 z163 z164 z165 z166 z167 z168 z169 z170 z171 z172 z173 z174 z175 z176 z177 z178 z179 z180 z181 z182 z183 : Value}
    (hS : HoldSt w n b (fs, x1, x2, x3) [.slice (some ⟨g1, off, none⟩) fl cp, .int .i64 x1, .int .i64 x2, .int .i64 x3, .int .i64 (f : Int), .slice aw wl cw] wr L res) (hL : L.length ≤ k + 1) (hk : k < nl) (h80 : nl ≤ 80) (hKA : ∀ W, Adds w W → At4 W ga (oa + k * 4) (y1, y2, y3, y4))
    (hAt : ∀ W (a c : Int), Adds w W → Calls Tryz.prog 18 #[pgV (.slice (some ⟨g1, off, none⟩) fl cp) (fs, x1, x2, x3), .agg #[.int .i64 a, .int .i64 c]] W fun e w' => e = .returned (.tuple #[insV (atP fs a c).1, .int .i64 (atP fs a c).2]) ∧ Adds W w')
    (hw1 : y1 < 0) (hq : passP (fs, x1, x2, x3) L res y3 y4 = (Q, qr, 0))
    (e1 : z1 = Value.slice (some ⟨ga, oa, none⟩) nl ca) (e2 : z2 = Value.pointer (some ⟨w.heap.size, 0, none⟩)) (e5 : z5 = Value.pointer (some ⟨b, 0, none⟩)) (e7 : z7 = Value.int .i64 (k : Int))
    (h : ∀ t8 t9 t10 t11 t12 t13 t14 t15 t16 t73 t74 t75 t76 t77 t78 t79 t80 t81 t82 t83 t84 t85 t86 t87 t88 t89 t90 t91 t92 t93 t94 t95 t96 t97 t98 t99 t100 t101 t102 t103 t104 t105 t106 t107 t108 t109 t110 t111 t112 t113 t114 t115 t116 t117 t118 t119 t120 t121 t122 t123 t124 t125 t126 t127 t128 t129 t130 t131 t132 t133 t134 t135 t136 t137 t138 t139 t140 t141 t142 t143 t144 t145 t146 t147 t148 t149 t150 t151 t152 t153 t154 t155 t156 t157 t158 t159 t160 t161 t162 t163 t164 t165 t166 t167 t168 t169 t170 t171 t172 t173 t174 t175 t176 t177 t178 t179 t180 t181 t182 w' L' res', HoldSt w n b (fs, x1, x2, x3) [.slice (some ⟨g1, off, none⟩) fl cp, .int .i64 x1, .int .i64 x2, .int .i64 x3, .int .i64 (f : Int), .slice aw wl cw] w' L' res' → L'.length ≤ k + 2 → Q0 .normal { tmps := #[z0, z1, z2, z3, z4, z5, z6, Value.int .i64 ((k : Int) + 1), t8, t9, t10, t11, t12, t13, t14, t15, t16, z17, z18, z19, z20, z21, z22, z23, z24, z25, z26, z27, z28, z29, z30, z31, z32, z33, z34, z35, z36, z37, z38, z39, z40, z41, z42, z43, z44, z45, z46, z47, z48, z49, z50, z51, z52, z53, z54, z55, z56, z57, z58, z59, z60, z61, z62, z63, z64, z65, z66, z67, z68, z69, z70, z71, z72, t73, t74, t75, t76, t77, t78, t79, t80, t81, t82, t83, t84, t85, t86, t87, t88, t89, t90, t91, t92, t93, t94, t95, t96, t97, t98, t99, t100, t101, t102, t103, t104, t105, t106, t107, t108, t109, t110, t111, t112, t113, t114, t115, t116, t117, t118, t119, t120, t121, t122, t123, t124, t125, t126, t127, t128, t129, t130, t131, t132, t133, t134, t135, t136, t137, t138, t139, t140, t141, t142, t143, t144, t145, t146, t147, t148, t149, t150, t151, t152, t153, t154, t155, t156, t157, t158, t159, t160, t161, t162, t163, t164, t165, t166, t167, t168, t169, t170, t171, t172, t173, t174, t175, t176, t177, t178, t179, t180, t181, t182, z183], defers := [] } w') :
    Code.wp Tryz.prog C Q0 { tmps := #[z0, z1, z2, z3, z4, z5, z6, z7, z8, z9, z10, z11, z12, z13, z14, z15, z16, z17, z18, z19, z20, z21, z22, z23, z24, z25, z26, z27, z28, z29, z30, z31, z32, z33, z34, z35, z36, z37, z38, z39, z40, z41, z42, z43, z44, z45, z46, z47, z48, z49, z50, z51, z52, z53, z54, z55, z56, z57, z58, z59, z60, z61, z62, z63, z64, z65, z66, z67, z68, z69, z70, z71, z72, z73, z74, z75, z76, z77, z78, z79, z80, z81, z82, z83, z84, z85, z86, z87, z88, z89, z90, z91, z92, z93, z94, z95, z96, z97, z98, z99, z100, z101, z102, z103, z104, z105, z106, z107, z108, z109, z110, z111, z112, z113, z114, z115, z116, z117, z118, z119, z120, z121, z122, z123, z124, z125, z126, z127, z128, z129, z130, z131, z132, z133, z134, z135, z136, z137, z138, z139, z140, z141, z142, z143, z144, z145, z146, z147, z148, z149, z150, z151, z152, z153, z154, z155, z156, z157, z158, z159, z160, z161, z162, z163, z164, z165, z166, z167, z168, z169, z170, z171, z172, z173, z174, z175, z176, z177, z178, z179, z180, z181, z182, z183], defers := [] } wr := by
  by_cases hcs : 1 < L.length
  · exact rdN0a hC hS hL hk h80 hKA hAt hw1 hq hcs e1 e2 e5 e7 h
  · exact rdN0b hC hS hL hk h80 hKA hAt hw1 hq hcs e1 e2 e5 e7 h
set_option maxRecDepth 100000 in
set_option maxHeartbeats 16000000 in
theorem rdB0 {C : Code} (hC : Tryz.f4.body.bind loopOfZ = some C) {Q0 : Exit → Act → World → Prop} {w wr : World} {n b k nl ga oa ca g1 off fl cp wl cw f : Nat} {aw : Option Addr} {fs : List Fu} {x1 x2 x3 y1 y2 y3 : Int} {y4 : UInt32} {L Q : List Fr} {res qr : UInt32} {z0 z1 z2 z3 z4 z5 z6 z7 z8 z9 z10 z11 z12 z13 z14 z15 z16 z17 z18 z19 z20 z21 z22 z23 z24 z25 z26 z27 z28 z29 z30 z31 z32 z33 z34 z35 z36 z37 z38 z39 z40 z41 z42 z43 z44 z45 z46 z47 z48 z49 z50 z51 z52 z53 z54 z55 z56 z57 z58 z59 z60 z61 z62 z63 z64 z65 z66 z67 z68 z69 z70 z71 z72 z73 z74 z75 z76 z77 z78 z79 z80 z81 z82 z83 z84 z85 z86 z87 z88 z89 z90 z91 z92 z93 z94 z95 z96 z97 z98 z99 z100 z101 z102 z103 z104 z105 z106 z107 z108 z109 z110 z111 z112 z113 z114 z115 z116 z117 z118 z119 z120 z121 z122 z123 z124 z125 z126 z127 z128 z129 z130 z131 z132 z133 z134 z135 z136 z137 z138 z139 z140 z141 z142 z143 z144 z145 z146 z147 z148 z149 z150 z151 z152 z153 z154 z155 z156 z157 z158 z159 z160 z161 z162 z163 z164 z165 z166 z167 z168 z169 z170 z171 z172 z173 z174 z175 z176 z177 z178 z179 z180 z181 z182 z183 : Value}
    (hS : HoldSt w n b (fs, x1, x2, x3) [.slice (some ⟨g1, off, none⟩) fl cp, .int .i64 x1, .int .i64 x2, .int .i64 x3, .int .i64 (f : Int), .slice aw wl cw] wr L res) (hL : L.length ≤ k + 1) (hk : k < nl) (h80 : nl ≤ 80) (hKA : ∀ W, Adds w W → At4 W ga (oa + k * 4) (y1, y2, y3, y4))
    (hAt : ∀ W (a c : Int), Adds w W → Calls Tryz.prog 18 #[pgV (.slice (some ⟨g1, off, none⟩) fl cp) (fs, x1, x2, x3), .agg #[.int .i64 a, .int .i64 c]] W fun e w' => e = .returned (.tuple #[insV (atP fs a c).1, .int .i64 (atP fs a c).2]) ∧ Adds W w')
    (hw1 : 0 ≤ y1) (hw2 : 5 < y1) (hq : passP (fs, x1, x2, x3) L res y3 y4 = (Q, qr, 0))
    (e1 : z1 = Value.slice (some ⟨ga, oa, none⟩) nl ca) (e2 : z2 = Value.pointer (some ⟨w.heap.size, 0, none⟩)) (e5 : z5 = Value.pointer (some ⟨b, 0, none⟩)) (e7 : z7 = Value.int .i64 (k : Int))
    (h : ∀ t8 t9 t10 t11 t12 t13 t14 t15 t16 t73 t74 t75 t76 t77 t78 t79 t80 t81 t82 t83 t84 t85 t86 t87 t88 t89 t90 t91 t92 t93 t94 t95 t96 t97 t98 t99 t100 t101 t102 t103 t104 t105 t106 t107 t108 t109 t110 t111 t112 t113 t114 t115 t116 t117 t118 t119 t120 t121 t122 t123 t124 t125 t126 t127 t128 t129 t130 t131 t132 t133 t134 t135 t136 t137 t138 t139 t140 t141 t142 t143 t144 t145 t146 t147 t148 t149 t150 t151 t152 t153 t154 t155 t156 t157 t158 t159 t160 t161 t162 t163 t164 t165 t166 t167 t168 t169 t170 t171 t172 t173 t174 t175 t176 t177 t178 t179 t180 t181 t182 w' L' res', HoldSt w n b (fs, x1, x2, x3) [.slice (some ⟨g1, off, none⟩) fl cp, .int .i64 x1, .int .i64 x2, .int .i64 x3, .int .i64 (f : Int), .slice aw wl cw] w' L' res' → L'.length ≤ k + 2 → Q0 .normal { tmps := #[z0, z1, z2, z3, z4, z5, z6, Value.int .i64 ((k : Int) + 1), t8, t9, t10, t11, t12, t13, t14, t15, t16, z17, z18, z19, z20, z21, z22, z23, z24, z25, z26, z27, z28, z29, z30, z31, z32, z33, z34, z35, z36, z37, z38, z39, z40, z41, z42, z43, z44, z45, z46, z47, z48, z49, z50, z51, z52, z53, z54, z55, z56, z57, z58, z59, z60, z61, z62, z63, z64, z65, z66, z67, z68, z69, z70, z71, z72, t73, t74, t75, t76, t77, t78, t79, t80, t81, t82, t83, t84, t85, t86, t87, t88, t89, t90, t91, t92, t93, t94, t95, t96, t97, t98, t99, t100, t101, t102, t103, t104, t105, t106, t107, t108, t109, t110, t111, t112, t113, t114, t115, t116, t117, t118, t119, t120, t121, t122, t123, t124, t125, t126, t127, t128, t129, t130, t131, t132, t133, t134, t135, t136, t137, t138, t139, t140, t141, t142, t143, t144, t145, t146, t147, t148, t149, t150, t151, t152, t153, t154, t155, t156, t157, t158, t159, t160, t161, t162, t163, t164, t165, t166, t167, t168, t169, t170, t171, t172, t173, t174, t175, t176, t177, t178, t179, t180, t181, t182, z183], defers := [] } w') :
    Code.wp Tryz.prog C Q0 { tmps := #[z0, z1, z2, z3, z4, z5, z6, z7, z8, z9, z10, z11, z12, z13, z14, z15, z16, z17, z18, z19, z20, z21, z22, z23, z24, z25, z26, z27, z28, z29, z30, z31, z32, z33, z34, z35, z36, z37, z38, z39, z40, z41, z42, z43, z44, z45, z46, z47, z48, z49, z50, z51, z52, z53, z54, z55, z56, z57, z58, z59, z60, z61, z62, z63, z64, z65, z66, z67, z68, z69, z70, z71, z72, z73, z74, z75, z76, z77, z78, z79, z80, z81, z82, z83, z84, z85, z86, z87, z88, z89, z90, z91, z92, z93, z94, z95, z96, z97, z98, z99, z100, z101, z102, z103, z104, z105, z106, z107, z108, z109, z110, z111, z112, z113, z114, z115, z116, z117, z118, z119, z120, z121, z122, z123, z124, z125, z126, z127, z128, z129, z130, z131, z132, z133, z134, z135, z136, z137, z138, z139, z140, z141, z142, z143, z144, z145, z146, z147, z148, z149, z150, z151, z152, z153, z154, z155, z156, z157, z158, z159, z160, z161, z162, z163, z164, z165, z166, z167, z168, z169, z170, z171, z172, z173, z174, z175, z176, z177, z178, z179, z180, z181, z182, z183], defers := [] } wr := by
  by_cases hcs : 1 < L.length
  · exact rdB0a hC hS hL hk h80 hKA hAt hw1 hw2 hq hcs e1 e2 e5 e7 h
  · exact rdB0b hC hS hL hk h80 hKA hAt hw1 hw2 hq hcs e1 e2 e5 e7 h

set_option maxRecDepth 100000 in
set_option maxHeartbeats 16000000 in
theorem holds_c7 {w : World} {g1 off f r : Nat} {aw aa : Option Addr} {fl cp wl cw nl ca : Nat} {fs : List Fu} {x1 x2 x3 : Int} {ws : List UInt32} {acts : List A4}
    (HSm : Hid (∀ W, Adds w W → Calls Tryz.prog 5 #[startV (.slice (some ⟨g1, off, none⟩) fl cp) (fs, x1, x2, x3) (f : Int) (.slice aw wl cw)] W fun e w' => e = .returned (.bool true) ∧ Adds W w')) (HRt : Hid (∀ W, Adds w W → Calls Tryz.prog 11 #[pgV (.slice (some ⟨g1, off, none⟩) fl cp) (fs, x1, x2, x3)] W fun e w' => e = .returned (.bool true) ∧ Adds W w')) (h1 : ¬ (80 : Int) < (nl : Int)) (h3 : ¬ (fl : Int) ≤ (f : Int)) (h5 : (f : Int) < (fl : Int)) (_h6 : (fl : Int) ≤ 9223372036854775807) (HR : Hid (∀ W, Adds w W → W.cell? ⟨g1, off + f * 2, none⟩ = some (.int .i64 (r : Int)))) (h4 : ¬ (r : Int) < (wl : Int))
    (HNw : Hid (∀ W, Adds w W → Calls Tryz.prog 7 #[pgV (.slice (some ⟨g1, off, none⟩) fl cp) (fs, x1, x2, x3), .int .i64 (f : Int), .slice aw wl cw] W fun e w' => ∃ b, e = .returned (.tuple #[.pointer (some ⟨b, 0, none⟩), .int .i64 0]) ∧ PileP 73 W.heap.size w' b (fs, x1, x2, x3) [(f, 0, 0, newR ws r)] 0 ∧ Adds W w'))
    (HAt : Hid (∀ W (a c : Int), Adds w W → Calls Tryz.prog 18 #[pgV (.slice (some ⟨g1, off, none⟩) fl cp) (fs, x1, x2, x3), .agg #[.int .i64 a, .int .i64 c]] W fun e w' => e = .returned (.tuple #[insV (atP fs a c).1, .int .i64 (atP fs a c).2]) ∧ Adds W w'))
    (HG : Hid (GoodS (fs, x1, x2, x3) [(f, 0, 0, newR ws r)])) (HAc : Hid (Acts12 w.heap.size w (.slice aa acts.length ca) acts)) (HNl : Hid (acts.length = nl)) : Calls Tryz.prog 4 #[startV (.slice (some ⟨g1, off, none⟩) fl cp) (fs, x1, x2, x3) (f : Int) (.slice aw wl cw), .slice aa nl ca] w (TrueAdds w) := by
  obtain ⟨w1, hw1⟩ : ∃ w1, w.alloc (.cells #[.slice (some ⟨g1, off, none⟩) fl cp, .int .i64 x1, .int .i64 x2, .int .i64 x3, .int .i64 (f : Int), .slice aw wl cw] 27) = w1 := ⟨_, rfl⟩
  have A1 := Lib.hid (show Adds w w1 by rw [← hw1]; exact (Gr.new _ _).adds)
  have B1 := Lib.hid (show BkS 27 w1 w.heap.size [.slice (some ⟨g1, off, none⟩) fl cp, .int .i64 x1, .int .i64 x2, .int .i64 x3, .int .i64 (f : Int), .slice aw wl cw] by rw [← hw1]; exact BkS.new _ _ _)
  have HX := Lib.hid (fun (W : World) (ha : Adds w1 W) => And.intro ((B1.out.adds ha).cell 0) (And.intro ((B1.out.adds ha).cell 1) (And.intro ((B1.out.adds ha).cell 2) (And.intro ((B1.out.adds ha).cell 3) (And.intro ((B1.out.adds ha).cell 4) ((B1.out.adds ha).cell 5))))))
  have h2 : ¬ (f : Int) < 0 := by omega
  have h7 : ¬ fl ≤ f := by omega
  have h8 : ¬ r < wl := by omega
  have hnl : (nl : Int) ≤ 80 := by omega
  go_enter Tryz.func4, Tryz.ntmps4
  go_wp2_with fail
  refine wp_region_loose [] (fun _ _ _ => True) Adds (by kernel_rfl) (by kernel_rfl) (by simp) Adds.refl (fun _ _ _ h k => Adds.trans h k) (fun _ _ _ _ _ _ => trivial) ?_
  repeat (refine wpL_step (fun K hK => ?_); first
    | (refine stepL_ex (v := .bool true) rfl rfl rfl Adds.refl ?_ ?_; (· (intro w' hw'; clear hK; go_simp)); go_simp; refine hK _ ?_; clear hK K)
    | (refine stepL_ex (v := .bool false) rfl rfl rfl Adds.refl ?_ ?_; (· (intro w' hw'; clear hK; go_simp)); go_simp; refine hK _ ?_; clear hK K)
    | (refine stepL_ex rfl rfl rfl Adds.refl (fun w' hw' => rfl) ?_; go_simp; refine hK _ ?_; clear hK K)
    | (refine stepL_skip rfl rfl rfl ?_; go_simp; refine hK _ ?_; clear hK K)
    | (refine stepL_call (v := .bool true) (f := 5) (args := #[startV (.slice (some ⟨g1, off, none⟩) fl cp) (fs, x1, x2, x3) (f : Int) (.slice aw wl cw)]) rfl rfl rfl ?_ (fun w' hw' => HSm.out w' (Adds.trans A1.out (Adds.trans (Adds.drew _) hw'))) ?_; (· (intro w'; clear hK; go_simp)); go_simp; refine hK _ ?_; clear hK K)
    | (refine stepL_call (v := .bool true) (f := 11) (args := #[pgV (.slice (some ⟨g1, off, none⟩) fl cp) (fs, x1, x2, x3)]) rfl rfl rfl ?_ (fun w' hw' => HRt.out w' (Adds.trans A1.out (Adds.trans (Adds.drew _) hw'))) ?_; (· (intro w'; clear hK; go_simp)); go_simp; refine hK _ ?_; clear hK K)
    | (refine stepL_ex (v := startV (.slice (some ⟨g1, off, none⟩) fl cp) (fs, x1, x2, x3) (f : Int) (.slice aw wl cw)) rfl rfl rfl Adds.refl ?_ ?_; (· (intro w' hw'; clear hK; obtain ⟨a0, a1, a2, a3, a4, a5⟩ := HX.out _ (Adds.trans (Adds.drew _) hw'); have hr := HR.out _ (Adds.trans A1.out (Adds.trans (Adds.drew _) hw')); go_simp)); go_simp; refine hK _ ?_; clear hK K)
    | (refine stepL_ex (v := .int .i64 (nl : Int)) rfl rfl rfl Adds.refl ?_ ?_; (· (intro w' hw'; clear hK; obtain ⟨a0, a1, a2, a3, a4, a5⟩ := HX.out _ (Adds.trans (Adds.drew _) hw'); have hr := HR.out _ (Adds.trans A1.out (Adds.trans (Adds.drew _) hw')); go_simp)); go_simp; refine hK _ ?_; clear hK K)
    | (refine stepL_ex (v := pgV (.slice (some ⟨g1, off, none⟩) fl cp) (fs, x1, x2, x3)) rfl rfl rfl Adds.refl ?_ ?_; (· (intro w' hw'; clear hK; obtain ⟨a0, a1, a2, a3, a4, a5⟩ := HX.out _ (Adds.trans (Adds.drew _) hw'); have hr := HR.out _ (Adds.trans A1.out (Adds.trans (Adds.drew _) hw')); go_simp)); go_simp; refine hK _ ?_; clear hK K)
    | (refine stepL_ex (v := .int .i64 (f : Int)) rfl rfl rfl Adds.refl ?_ ?_; (· (intro w' hw'; clear hK; obtain ⟨a0, a1, a2, a3, a4, a5⟩ := HX.out _ (Adds.trans (Adds.drew _) hw'); have hr := HR.out _ (Adds.trans A1.out (Adds.trans (Adds.drew _) hw')); go_simp)); go_simp; refine hK _ ?_; clear hK K)
    | (refine stepL_ex (v := .slice (some ⟨g1, off, none⟩) fl cp) rfl rfl rfl Adds.refl ?_ ?_; (· (intro w' hw'; clear hK; obtain ⟨a0, a1, a2, a3, a4, a5⟩ := HX.out _ (Adds.trans (Adds.drew _) hw'); have hr := HR.out _ (Adds.trans A1.out (Adds.trans (Adds.drew _) hw')); go_simp)); go_simp; refine hK _ ?_; clear hK K)
    | (refine stepL_ex (v := .int .i64 (fl : Int)) rfl rfl rfl Adds.refl ?_ ?_; (· (intro w' hw'; clear hK; obtain ⟨a0, a1, a2, a3, a4, a5⟩ := HX.out _ (Adds.trans (Adds.drew _) hw'); have hr := HR.out _ (Adds.trans A1.out (Adds.trans (Adds.drew _) hw')); go_simp)); go_simp; refine hK _ ?_; clear hK K)
    | (refine stepL_ex (v := .slice aw wl cw) rfl rfl rfl Adds.refl ?_ ?_; (· (intro w' hw'; clear hK; obtain ⟨a0, a1, a2, a3, a4, a5⟩ := HX.out _ (Adds.trans (Adds.drew _) hw'); have hr := HR.out _ (Adds.trans A1.out (Adds.trans (Adds.drew _) hw')); go_simp)); go_simp; refine hK _ ?_; clear hK K)
    | (refine stepL_ex (v := .int .i64 (wl : Int)) rfl rfl rfl Adds.refl ?_ ?_; (· (intro w' hw'; clear hK; obtain ⟨a0, a1, a2, a3, a4, a5⟩ := HX.out _ (Adds.trans (Adds.drew _) hw'); have hr := HR.out _ (Adds.trans A1.out (Adds.trans (Adds.drew _) hw')); go_simp)); go_simp; refine hK _ ?_; clear hK K)
    | (refine stepL_ex (v := .pointer (some ⟨g1, off + f * 2, none⟩)) rfl rfl rfl Adds.refl ?_ ?_; (· (intro w' hw'; clear hK; go_simp)); go_simp; refine hK _ ?_; clear hK K)
    | (refine stepL_ex (v := .int .i64 (r : Int)) rfl rfl rfl Adds.refl ?_ ?_; (· (intro w' hw'; clear hK; obtain ⟨a0, a1, a2, a3, a4, a5⟩ := HX.out _ (Adds.trans (Adds.drew _) hw'); have hr := HR.out _ (Adds.trans A1.out (Adds.trans (Adds.drew _) hw')); go_simp)); go_simp; refine hK _ ?_; clear hK K))
  refine wpL_nil ?_
  intro w3 a3
  simp only [forL]
  have A3 := Lib.hid (Adds.trans A1.out (Adds.trans (Adds.drew _) a3))
  have X3 := Lib.hid a3
  clear a3
  obtain ⟨b0, b1, b2, b3, b4, b5⟩ := HX.out _ (show Adds w1 w3 from Adds.trans (Adds.drew _) X3.out)
  go_wp2_with (first
    | (go_at_call 7; refine (HNw.out _ A3.out).mono ?_; clear HNw; rintro e w4 ⟨b, rfl, hp, a4⟩; have A4 := Lib.hid (Adds.trans A3.out a4); have HS := Lib.hid (show HoldSt w w3.heap.size b (fs, x1, x2, x3) [.slice (some ⟨g1, off, none⟩) fl cp, .int .i64 x1, .int .i64 x2, .int .i64 x3, .int .i64 (f : Int), .slice aw wl cw] w4 [(f, 0, 0, newR ws r)] 0 from ⟨hp, HG.out, A4.out, B1.out.adds (Adds.trans (Adds.trans (Adds.drew _) X3.out) a4), a4.size, (B1.out.adds (Adds.trans (Adds.drew _) X3.out)).lt⟩); clear hp a4)
    | (go_at_call 9; refine (num12 _ _).mono ?_; rintro e wn ⟨rfl, rfl⟩))
  go_loopw [7] (fun iv wr => ∃ (k : Nat), iv = .int .i64 k ∧ k ≤ nl ∧ Hid (∃ L res, HoldSt w w3.heap.size b (fs, x1, x2, x3) [.slice (some ⟨g1, off, none⟩) fl cp, .int .i64 x1, .int .i64 x2, .int .i64 x3, .int .i64 (f : Int), .slice aw wl cw] wr L res ∧ L.length ≤ k + 1)) (fun iv _ => nl + 1 - (intOf iv).toNat)
  case atStart => exact ⟨0, rfl, Nat.zero_le _, Lib.hid ⟨_, _, HS.out, by simp⟩⟩
  case round =>
    obtain ⟨k, rfl, hk, KH⟩ := hrel
    by_cases hlt : k < nl
    · have hltI : (k : Int) < (nl : Int) := by omega
      obtain ⟨L, res, hS, hL⟩ := KH.out
      have HSr := Lib.hid hS
      have hkl : k < acts.length := by rw [HNl.out]; exact hlt
      obtain ⟨ga, oa, cA, hea, _⟩ := HAc.out.at hS.adds hkl
      simp only [Value.slice.injEq, true_and] at hea
      obtain ⟨rfl, rfl⟩ := hea
      have KA0 : ∀ W, Adds w W → At4 W ga (oa + k * 4) (acts.getD k zA4) := fun W hW => by
        obtain ⟨g', o', c', e, h⟩ := HAc.out.at hW hkl
        simp only [Value.slice.injEq, Option.some.injEq, Addr.mk.injEq, and_true, true_and] at e
        obtain ⟨⟨rfl, rfl⟩, rfl⟩ := e
        exact h
      obtain ⟨⟨y1, y2, y3, y4⟩, hy⟩ : ∃ y, acts.getD k zA4 = y := ⟨_, rfl⟩
      rw [hy] at KA0
      have HKA := Lib.hid KA0
      have HLt := Lib.hid hlt
      have h80 : nl ≤ 80 := by omega
      have HL := Lib.hid hL
      have H80 := Lib.hid h80
      clear KA0 hkl KH hS hL hk h80 hltI hlt b0 b1 b2 b3 b4 b5 hy
      by_cases hw : 0 ≤ y1 ∧ y1 ≤ 5
      · obtain ⟨⟨Q, qr, er⟩, hq⟩ : ∃ q, stepP (fs, x1, x2, x3) L res y2 = q := ⟨_, rfl⟩
        by_cases he : er = 0
        · subst he
          refine rdS0 (by kernel_rfl) HSr.out HL.out HLt.out H80.out HKA.out HAt.out hw.1 hw.2 hq rfl rfl rfl rfl ?_
          intro t8 t9 t10 t11 t12 t13 t14 t15 t16 t73 t74 t75 t76 t77 t78 t79 t80 t81 t82 t83 t84 t85 t86 t87 t88 t89 t90 t91 t92 t93 t94 t95 t96 t97 t98 t99 t100 t101 t102 t103 t104 t105 t106 t107 t108 t109 t110 t111 t112 t113 t114 t115 t116 t117 t118 t119 t120 t121 t122 t123 t124 t125 t126 t127 t128 t129 t130 t131 t132 t133 t134 t135 t136 t137 t138 t139 t140 t141 t142 t143 t144 t145 t146 t147 t148 t149 t150 t151 t152 t153 t154 t155 t156 t157 t158 t159 t160 t161 t162 t163 t164 t165 t166 t167 t168 t169 t170 t171 t172 t173 t174 t175 t176 t177 t178 t179 t180 t181 t182 w9 L9 res9 hS9 hL9
          try simp only [Exit.then]
          have HE9 := Lib.hid (And.intro hS9 hL9)
          clear hS9 hL9
          go_roundw
          case rel => exact ⟨k + 1, by go_num, HLt.out, Lib.hid ⟨_, _, HE9.out.1, by have := HE9.out.2; omega⟩⟩
          case measure => simp [intOf]; have := HLt.out; omega
        · obtain ⟨q1, q2⟩ := (hq ▸ stepP_ok HSr.out.good res y2 : StepOk _ _ _ _ _).no he
          simp only at q1 q2
          subst q1 q2
          refine rdS1 (by kernel_rfl) HSr.out HL.out HLt.out H80.out HKA.out HAt.out hw.1 hw.2 hq he rfl rfl rfl rfl ?_
          intro t8 t9 t10 t11 t12 t13 t14 t15 t16 t73 t74 t75 t76 t77 t78 t79 t80 t81 t82 t83 t84 t85 t86 t87 t88 t89 t90 t91 t92 t93 t94 t95 t96 t97 t98 t99 t100 t101 t102 t103 t104 t105 t106 t107 t108 t109 t110 t111 t112 t113 t114 t115 t116 t117 t118 t119 t120 t121 t122 t123 t124 t125 t126 t127 t128 t129 t130 t131 t132 t133 t134 t135 t136 t137 t138 t139 t140 t141 t142 t143 t144 t145 t146 t147 t148 t149 t150 t151 t152 t153 t154 t155 t156 t157 t158 t159 t160 t161 t162 t163 t164 t165 t166 t167 t168 t169 t170 t171 t172 t173 t174 t175 t176 t177 t178 t179 t180 t181 t182 w9 L9 res9 hS9 hL9
          try simp only [Exit.then]
          have HE9 := Lib.hid (And.intro hS9 hL9)
          clear hS9 hL9
          go_roundw
          case rel => exact ⟨k + 1, by go_num, HLt.out, Lib.hid ⟨_, _, HE9.out.1, by have := HE9.out.2; omega⟩⟩
          case measure => simp [intOf]; have := HLt.out; omega
      · obtain ⟨⟨Q, qr, er⟩, hq⟩ : ∃ q, passP (fs, x1, x2, x3) L res y3 y4 = q := ⟨_, rfl⟩
        have hw2 : y1 < 0 ∨ (0 ≤ y1 ∧ 5 < y1) := by omega
        clear hw
        by_cases he : er = 0
        · subst he
          rcases hw2 with hw | ⟨hw, hw3⟩
          · refine rdN0 (by kernel_rfl) HSr.out HL.out HLt.out H80.out HKA.out HAt.out hw hq rfl rfl rfl rfl ?_
            intro t8 t9 t10 t11 t12 t13 t14 t15 t16 t73 t74 t75 t76 t77 t78 t79 t80 t81 t82 t83 t84 t85 t86 t87 t88 t89 t90 t91 t92 t93 t94 t95 t96 t97 t98 t99 t100 t101 t102 t103 t104 t105 t106 t107 t108 t109 t110 t111 t112 t113 t114 t115 t116 t117 t118 t119 t120 t121 t122 t123 t124 t125 t126 t127 t128 t129 t130 t131 t132 t133 t134 t135 t136 t137 t138 t139 t140 t141 t142 t143 t144 t145 t146 t147 t148 t149 t150 t151 t152 t153 t154 t155 t156 t157 t158 t159 t160 t161 t162 t163 t164 t165 t166 t167 t168 t169 t170 t171 t172 t173 t174 t175 t176 t177 t178 t179 t180 t181 t182 w9 L9 res9 hS9 hL9
            try simp only [Exit.then]
            have HE9 := Lib.hid (And.intro hS9 hL9)
            clear hS9 hL9
            go_roundw
            case rel => exact ⟨k + 1, by go_num, HLt.out, Lib.hid ⟨_, _, HE9.out.1, by have := HE9.out.2; omega⟩⟩
            case measure => simp [intOf]; have := HLt.out; omega
          · refine rdB0 (by kernel_rfl) HSr.out HL.out HLt.out H80.out HKA.out HAt.out hw hw3 hq rfl rfl rfl rfl ?_
            intro t8 t9 t10 t11 t12 t13 t14 t15 t16 t73 t74 t75 t76 t77 t78 t79 t80 t81 t82 t83 t84 t85 t86 t87 t88 t89 t90 t91 t92 t93 t94 t95 t96 t97 t98 t99 t100 t101 t102 t103 t104 t105 t106 t107 t108 t109 t110 t111 t112 t113 t114 t115 t116 t117 t118 t119 t120 t121 t122 t123 t124 t125 t126 t127 t128 t129 t130 t131 t132 t133 t134 t135 t136 t137 t138 t139 t140 t141 t142 t143 t144 t145 t146 t147 t148 t149 t150 t151 t152 t153 t154 t155 t156 t157 t158 t159 t160 t161 t162 t163 t164 t165 t166 t167 t168 t169 t170 t171 t172 t173 t174 t175 t176 t177 t178 t179 t180 t181 t182 w9 L9 res9 hS9 hL9
            try simp only [Exit.then]
            have HE9 := Lib.hid (And.intro hS9 hL9)
            clear hS9 hL9
            go_roundw
            case rel => exact ⟨k + 1, by go_num, HLt.out, Lib.hid ⟨_, _, HE9.out.1, by have := HE9.out.2; omega⟩⟩
            case measure => simp [intOf]; have := HLt.out; omega
        · obtain ⟨q1, q2⟩ := (hq ▸ passP_ok HSr.out.good res y3 y4 0 : StepOk _ _ _ _ _).no he
          simp only at q1 q2
          subst q1 q2
          rcases hw2 with hw | ⟨hw, hw3⟩
          · refine rdN1 (by kernel_rfl) HSr.out HL.out HLt.out H80.out HKA.out HAt.out hw hq he rfl rfl rfl rfl ?_
            intro t8 t9 t10 t11 t12 t13 t14 t15 t16 t73 t74 t75 t76 t77 t78 t79 t80 t81 t82 t83 t84 t85 t86 t87 t88 t89 t90 t91 t92 t93 t94 t95 t96 t97 t98 t99 t100 t101 t102 t103 t104 t105 t106 t107 t108 t109 t110 t111 t112 t113 t114 t115 t116 t117 t118 t119 t120 t121 t122 t123 t124 t125 t126 t127 t128 t129 t130 t131 t132 t133 t134 t135 t136 t137 t138 t139 t140 t141 t142 t143 t144 t145 t146 t147 t148 t149 t150 t151 t152 t153 t154 t155 t156 t157 t158 t159 t160 t161 t162 t163 t164 t165 t166 t167 t168 t169 t170 t171 t172 t173 t174 t175 t176 t177 t178 t179 t180 t181 t182 w9 L9 res9 hS9 hL9
            try simp only [Exit.then]
            have HE9 := Lib.hid (And.intro hS9 hL9)
            clear hS9 hL9
            go_roundw
            case rel => exact ⟨k + 1, by go_num, HLt.out, Lib.hid ⟨_, _, HE9.out.1, by have := HE9.out.2; omega⟩⟩
            case measure => simp [intOf]; have := HLt.out; omega
          · refine rdB1 (by kernel_rfl) HSr.out HL.out HLt.out H80.out HKA.out HAt.out hw hw3 hq he rfl rfl rfl rfl ?_
            intro t8 t9 t10 t11 t12 t13 t14 t15 t16 t73 t74 t75 t76 t77 t78 t79 t80 t81 t82 t83 t84 t85 t86 t87 t88 t89 t90 t91 t92 t93 t94 t95 t96 t97 t98 t99 t100 t101 t102 t103 t104 t105 t106 t107 t108 t109 t110 t111 t112 t113 t114 t115 t116 t117 t118 t119 t120 t121 t122 t123 t124 t125 t126 t127 t128 t129 t130 t131 t132 t133 t134 t135 t136 t137 t138 t139 t140 t141 t142 t143 t144 t145 t146 t147 t148 t149 t150 t151 t152 t153 t154 t155 t156 t157 t158 t159 t160 t161 t162 t163 t164 t165 t166 t167 t168 t169 t170 t171 t172 t173 t174 t175 t176 t177 t178 t179 t180 t181 t182 w9 L9 res9 hS9 hL9
            try simp only [Exit.then]
            have HE9 := Lib.hid (And.intro hS9 hL9)
            clear hS9 hL9
            go_roundw
            case rel => exact ⟨k + 1, by go_num, HLt.out, Lib.hid ⟨_, _, HE9.out.1, by have := HE9.out.2; omega⟩⟩
            case measure => simp [intOf]; have := HLt.out; omega
    · have hge : ¬ (k : Int) < (nl : Int) := by omega
      obtain ⟨L, res, hS, hL⟩ := KH.out
      have AW := Lib.hid hS.adds
      clear hS hL hk hlt KH
      go_wp2_with (go_at_call 6; refine (works12 _).mono ?_; rintro e w5 ⟨rfl, a5⟩; have A5 := Lib.hid (Adds.trans AW.out a5); clear a5)
      go_ret
      exact ⟨rfl, A5.out⟩
end Go.Proofs.YtdkgehhlikaocaaGreat
