/- A drawn region of the law RwlockHolds, by itself. -/
import Derived.Test.YthcdllchkdkikaaWFr
namespace Go.Proofs.Ythcdllchkdkikaa
open Go Go.RowKit

set_option maxRecDepth 100000 in
set_option maxHeartbeats 4000000 in
theorem reg30b {C : Code} (hC : Try.f6.body.bind (regOf 30) = some C) {Q : Exit → Act → World → Prop} {w : World} {BR BW c m : Nat} {v : Value} {z7 z8 z10 z15 z0 z1 z2 z3 z4 z6 z9 z11 z12 z13 z14 z16 z17 z18 z19 z20 z21 z22 z23 z24 z25 z26 z27 z28 z29 z30 z31 z32 z33 z34 z35 z36 z37 z38 z39 z40 z41 z42 z43 z44 z45 z46 z47 z48 z49 z50 z51 z52 z53 z54 z55 z56 z57 z58 z59 z60 z61 z62 z63 z64 z65 z66 z67 z68 z69 z70 z71 z72 z73 z74 z75 z76 z77 z78 z79 z80 z81 z82 z83 z84 z85 z86 z87 z88 z89 z90 z91 z92 z93 z94 z95 z96 z97 z98 z99 z100 z101 z102 z103 z104 z105 z106 z107 z108 z109 z110 z111 z112 z113 z114 z115 z116 z117 z118 z119 z120 z121 z122 z123 z124 z125 z126 z127 z128 z129 z130 z131 z132 z133 z134 z135 z136 z137 z138 z139 z140 z141 z142 z143 z144 z145 z146 z147 z148 z149 z150 z151 z152 z153 z154 z155 z156 z157 z158 z159 z160 z161 z162 z163 z164 z165 z166 z167 z168 z169 z170 z171 z172 z173 z174 z175 z176 z177 z178 z179 z180 : Value}
    (HXf : ∀ W, Adds w W → W.cell? ⟨c, 1, none⟩ = some (.int .i64 (m : Int)) ∧ W.cell? ⟨BR, m, none⟩ = some (.int .i64 0) ∧ W.cell? ⟨BW, m, none⟩ = some (.int .i64 0)) (hm64 : (m : Int) < 64)
    (HRd : ∀ W, Adds w W → Calls Try.prog 13 #[v, .int .i64 (m : Int)] W fun e W' => ∃ u, e = .returned u ∧ (∃ ao cap, u = .slice ao 0 cap) ∧ Adds W W')
    (e7 : z7 = Value.pointer (some ⟨BR, 0, none⟩)) (e8 : z8 = Value.pointer (some ⟨BW, 0, none⟩)) (e10 : z10 = Value.pointer (some ⟨c, 0, none⟩)) (e15 : z15 = Value.bool false)
    (h : ∀ t121 t122 t123 t124 t125 t126 t127 t128 t129 t130 t131 t132 t133 t134 t135 t136 t137 t138 t139 t140 t141 t142 t143 t144 t145 t146 t147 t148 t149 t150 t151 t152 t153 t154 t155 t156 t157 t158 t159 t160 t161 t162 t163 t164 t165 t166 t167 t168 t169 t170 t171 t172 t173 w', Adds w w' → Q .normal { tmps := #[z0, z1, z2, z3, z4, v, z6, z7, z8, z9, z10, z11, z12, z13, z14, z15, z16, z17, z18, z19, z20, z21, z22, z23, z24, z25, z26, z27, z28, z29, z30, z31, z32, z33, z34, z35, z36, z37, z38, z39, z40, z41, z42, z43, z44, z45, z46, z47, z48, z49, z50, z51, z52, z53, z54, z55, z56, z57, z58, z59, z60, z61, z62, z63, z64, z65, z66, z67, z68, z69, z70, z71, z72, z73, z74, z75, z76, z77, z78, z79, z80, z81, z82, z83, z84, z85, z86, z87, z88, z89, z90, z91, z92, z93, z94, z95, z96, z97, z98, z99, z100, z101, z102, z103, z104, z105, z106, z107, z108, z109, z110, z111, z112, z113, z114, z115, z116, z117, z118, z119, z120, t121, t122, t123, t124, t125, t126, t127, t128, t129, t130, t131, t132, t133, t134, t135, t136, t137, t138, t139, t140, t141, t142, t143, t144, t145, t146, t147, t148, t149, t150, t151, t152, t153, t154, t155, t156, t157, t158, t159, t160, t161, t162, t163, t164, t165, t166, t167, t168, t169, t170, t171, t172, t173, Value.bool false, z175, z176, z177, z178, z179, z180], defers := [] } w') :
    Code.wp Try.prog C Q { tmps := #[z0, z1, z2, z3, z4, v, z6, z7, z8, z9, z10, z11, z12, z13, z14, z15, z16, z17, z18, z19, z20, z21, z22, z23, z24, z25, z26, z27, z28, z29, z30, z31, z32, z33, z34, z35, z36, z37, z38, z39, z40, z41, z42, z43, z44, z45, z46, z47, z48, z49, z50, z51, z52, z53, z54, z55, z56, z57, z58, z59, z60, z61, z62, z63, z64, z65, z66, z67, z68, z69, z70, z71, z72, z73, z74, z75, z76, z77, z78, z79, z80, z81, z82, z83, z84, z85, z86, z87, z88, z89, z90, z91, z92, z93, z94, z95, z96, z97, z98, z99, z100, z101, z102, z103, z104, z105, z106, z107, z108, z109, z110, z111, z112, z113, z114, z115, z116, z117, z118, z119, z120, z121, z122, z123, z124, z125, z126, z127, z128, z129, z130, z131, z132, z133, z134, z135, z136, z137, z138, z139, z140, z141, z142, z143, z144, z145, z146, z147, z148, z149, z150, z151, z152, z153, z154, z155, z156, z157, z158, z159, z160, z161, z162, z163, z164, z165, z166, z167, z168, z169, z170, z171, z172, z173, z174, z175, z176, z177, z178, z179, z180], defers := [] } w := by
  obtain rfl := Option.some.inj ((show some _ = Try.f6.body.bind (regOf 30) from rfl).trans hC)
  subst e7 e8 e10 e15
  have H := Lib.hid h
  have HX := Lib.hid HXf
  have HR := Lib.hid HRd
  have hm0 : ¬ (m : Int) < 0 := by omega
  clear h hC HXf HRd
  skip
  refine wp_region_loose [158] (fun _ u _ => ∃ ao cap, u = .slice ao 0 cap) Adds (by kernel_rfl) (by kernel_rfl) (by simp) Adds.refl (fun _ _ _ h k => Adds.trans h k) (fun _ _ _ _ _ h => h) ?_
  repeat (refine wpL_step (fun K hK => ?_); first
    | (refine stepL_ex (v := .bool true) rfl rfl rfl Adds.refl ?_ ?_; (· (intro w' hw'; clear hK; go_simp)); go_simp; refine hK _ ?_; clear hK K)
    | (refine stepL_ex (v := .bool false) rfl rfl rfl Adds.refl ?_ ?_; (· (intro w' hw'; clear hK; go_simp)); go_simp; refine hK _ ?_; clear hK K)
    | (refine stepL_skip rfl rfl rfl ?_; go_simp; refine hK _ ?_; clear hK K)
    | (refine stepL_ex rfl rfl rfl Adds.refl (fun w' hw' => rfl) ?_; go_simp; refine hK _ ?_; clear hK K)
    | (refine stepL_ex (v := .int .i64 (m : Int)) rfl rfl rfl Adds.refl ?_ ?_; (· (intro w' hw'; clear hK; obtain ⟨f1, f2, f3⟩ := HX.out _ (Adds.trans (Adds.drew _) hw'); go_simp)); go_simp; refine hK _ ?_; clear hK K)
    | (refine stepL_ex (v := .pointer (some ⟨BR, m, none⟩)) rfl rfl rfl Adds.refl ?_ ?_; (· (intro w' hw'; clear hK; obtain ⟨f1, f2, f3⟩ := HX.out _ (Adds.trans (Adds.drew _) hw'); go_simp)); go_simp; refine hK _ ?_; clear hK K)
    | (refine stepL_ex (v := .pointer (some ⟨BW, m, none⟩)) rfl rfl rfl Adds.refl ?_ ?_; (· (intro w' hw'; clear hK; obtain ⟨f1, f2, f3⟩ := HX.out _ (Adds.trans (Adds.drew _) hw'); go_simp)); go_simp; refine hK _ ?_; clear hK K)
    | (refine stepL_ex (v := .int .i64 0) rfl rfl rfl Adds.refl ?_ ?_; (· (intro w' hw'; clear hK; obtain ⟨f1, f2, f3⟩ := HX.out _ (Adds.trans (Adds.drew _) hw'); go_simp)); go_simp; refine hK _ ?_; clear hK K)
    | (refine stepL_ex (v := .int .i64 0) rfl rfl rfl Adds.refl ?_ ?_; (· (intro w' hw'; clear hK; obtain ⟨f1, f2, f3⟩ := HX.out _ (Adds.trans (Adds.drew _) hw'); go_simp)); go_simp; refine hK _ ?_; clear hK K)
    | (refine stepL_key (f := 13) (args := #[v, .int .i64 (m : Int)]) 158 rfl rfl rfl rfl ?_ (fun w' hw' => HR.out w' (Adds.trans (Adds.drew _) hw')) ?_; (· (intro w'; clear hK; go_simp)); refine hK _ ?_; clear hK K)
    | (refine stepL_ex1 (v := .int .i64 0) rfl rfl Adds.refl ?_ ?_; (· (intro w' u hw' hu; refine ⟨rfl, ?_⟩; obtain ⟨ao1, cp1, rfl⟩ := hu; clear hK; go_simp)); go_simp; refine hK _ ?_; clear hK K))
  refine wpL_nil ?_
  intro w7 a7
  simp only [forL]
  intro u7 hu7
  exact H.out _ _ _ _ _ _ _ _ _ _ _ _ _ _ _ _ _ _ _ _ _ _ _ _ _ _ _ _ _ _ _ _ _ _ _ _ _ _ _ _ _ _ _ _ _ _ _ _ _ _ _ _ _ _ (Adds.trans (Adds.drew w) a7)
end Go.Proofs.Ythcdllchkdkikaa
