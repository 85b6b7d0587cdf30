/- stack: a round of the law StackHolds, by itself. -/
import Derived.Test.YtdkgehhlikaocaaGreatY32
import Derived.Test.YtdkgehhlikaocaaGreatY27
import Derived.Test.YtdkgehhlikaocaaGreatY29
import Derived.Test.YtdkgehhlikaocaaGreatY30
import Derived.Test.YtdkgehhlikaocaaGreatY41
import Derived.Test.YtdkgehhlikaocaaGreatY31
namespace Go.Proofs.YtdkgehhlikaocaaGreat
open Go Go.RowKit Go.Shelf

set_option maxRecDepth 100000 in
set_option maxHeartbeats 16000000 in
theorem rdN1 {C : Code} (hC : Tryz.f4.body.bind loopOfZ = some C) {Q0 : Exit → Act → World → Prop} {w wr : World} {n b k nl ga oa ca g1 off fl cp wl cw f : Nat} {aw : Option Addr} {fs : List Fu} {x1 x2 x3 y1 y2 y3 er : Int} {y4 : UInt32} {L : List Fr} {res : UInt32} {z0 z1 z2 z3 z4 z5 z6 z7 z8 z9 z10 z11 z12 z13 z14 z15 z16 z17 z18 z19 z20 z21 z22 z23 z24 z25 z26 z27 z28 z29 z30 z31 z32 z33 z34 z35 z36 z37 z38 z39 z40 z41 z42 z43 z44 z45 z46 z47 z48 z49 z50 z51 z52 z53 z54 z55 z56 z57 z58 z59 z60 z61 z62 z63 z64 z65 z66 z67 z68 z69 z70 z71 z72 z73 z74 z75 z76 z77 z78 z79 z80 z81 z82 z83 z84 z85 z86 z87 z88 z89 z90 z91 z92 z93 z94 z95 z96 z97 z98 z99 z100 z101 z102 z103 z104 z105 z106 z107 z108 z109 z110 z111 z112 z113 z114 z115 z116 z117 z118 z119 z120 z121 z122 z123 z124 z125 z126 z127 z128 z129 z130 z131 z132 z133 z134 z135 z136 z137 z138 z139 z140 z141 z142 z143 z144 z145 z146 z147 z148 z149 z150 z151 z152 z153 z154 z155 z156 z157 z158 z159 z160 z161 z162 z163 z164 z165 z166 z167 z168 z169 z170 z171 z172 z173 z174 z175 z176 z177 z178 z179 z180 z181 z182 z183 : Value}
    (hS : HoldSt w n b (fs, x1, x2, x3) [.slice (some ⟨g1, off, none⟩) fl cp, .int .i64 x1, .int .i64 x2, .int .i64 x3, .int .i64 (f : Int), .slice aw wl cw] wr L res) (hL : L.length ≤ k + 1) (hk : k < nl) (h80 : nl ≤ 80) (hKA : ∀ W, Adds w W → At4 W ga (oa + k * 4) (y1, y2, y3, y4))
    (hAt : ∀ W (a c : Int), Adds w W → Calls Tryz.prog 18 #[pgV (.slice (some ⟨g1, off, none⟩) fl cp) (fs, x1, x2, x3), .agg #[.int .i64 a, .int .i64 c]] W fun e w' => e = .returned (.tuple #[insV (atP fs a c).1, .int .i64 (atP fs a c).2]) ∧ Adds W w')
    (hw1 : y1 < 0) (hq : passP (fs, x1, x2, x3) L res y3 y4 = (L, res, er)) (he : er ≠ 0)
    (e1 : z1 = Value.slice (some ⟨ga, oa, none⟩) nl ca) (e2 : z2 = Value.pointer (some ⟨w.heap.size, 0, none⟩)) (e5 : z5 = Value.pointer (some ⟨b, 0, none⟩)) (e7 : z7 = Value.int .i64 (k : Int))
    (h : ∀ t8 t9 t10 t11 t12 t13 t14 t15 t16 t73 t74 t75 t76 t77 t78 t79 t80 t81 t82 t83 t84 t85 t86 t87 t88 t89 t90 t91 t92 t93 t94 t95 t96 t97 t98 t99 t100 t101 t102 t103 t104 t105 t106 t107 t108 t109 t110 t111 t112 t113 t114 t115 t116 t117 t118 t119 t120 t121 t122 t123 t124 t125 t126 t127 t128 t129 t130 t131 t132 t133 t134 t135 t136 t137 t138 t139 t140 t141 t142 t143 t144 t145 t146 t147 t148 t149 t150 t151 t152 t153 t154 t155 t156 t157 t158 t159 t160 t161 t162 t163 t164 t165 t166 t167 t168 t169 t170 t171 t172 t173 t174 t175 t176 t177 t178 t179 t180 t181 t182 w' L' res', HoldSt w n b (fs, x1, x2, x3) [.slice (some ⟨g1, off, none⟩) fl cp, .int .i64 x1, .int .i64 x2, .int .i64 x3, .int .i64 (f : Int), .slice aw wl cw] w' L' res' → L'.length ≤ k + 2 → Q0 .normal { tmps := #[z0, z1, z2, z3, z4, z5, z6, Value.int .i64 ((k : Int) + 1), t8, t9, t10, t11, t12, t13, t14, t15, t16, z17, z18, z19, z20, z21, z22, z23, z24, z25, z26, z27, z28, z29, z30, z31, z32, z33, z34, z35, z36, z37, z38, z39, z40, z41, z42, z43, z44, z45, z46, z47, z48, z49, z50, z51, z52, z53, z54, z55, z56, z57, z58, z59, z60, z61, z62, z63, z64, z65, z66, z67, z68, z69, z70, z71, z72, t73, t74, t75, t76, t77, t78, t79, t80, t81, t82, t83, t84, t85, t86, t87, t88, t89, t90, t91, t92, t93, t94, t95, t96, t97, t98, t99, t100, t101, t102, t103, t104, t105, t106, t107, t108, t109, t110, t111, t112, t113, t114, t115, t116, t117, t118, t119, t120, t121, t122, t123, t124, t125, t126, t127, t128, t129, t130, t131, t132, t133, t134, t135, t136, t137, t138, t139, t140, t141, t142, t143, t144, t145, t146, t147, t148, t149, t150, t151, t152, t153, t154, t155, t156, t157, t158, t159, t160, t161, t162, t163, t164, t165, t166, t167, t168, t169, t170, t171, t172, t173, t174, t175, t176, t177, t178, t179, t180, t181, t182, z183], defers := [] } w') :
    Code.wp Tryz.prog C Q0 { tmps := #[z0, z1, z2, z3, z4, z5, z6, z7, z8, z9, z10, z11, z12, z13, z14, z15, z16, z17, z18, z19, z20, z21, z22, z23, z24, z25, z26, z27, z28, z29, z30, z31, z32, z33, z34, z35, z36, z37, z38, z39, z40, z41, z42, z43, z44, z45, z46, z47, z48, z49, z50, z51, z52, z53, z54, z55, z56, z57, z58, z59, z60, z61, z62, z63, z64, z65, z66, z67, z68, z69, z70, z71, z72, z73, z74, z75, z76, z77, z78, z79, z80, z81, z82, z83, z84, z85, z86, z87, z88, z89, z90, z91, z92, z93, z94, z95, z96, z97, z98, z99, z100, z101, z102, z103, z104, z105, z106, z107, z108, z109, z110, z111, z112, z113, z114, z115, z116, z117, z118, z119, z120, z121, z122, z123, z124, z125, z126, z127, z128, z129, z130, z131, z132, z133, z134, z135, z136, z137, z138, z139, z140, z141, z142, z143, z144, z145, z146, z147, z148, z149, z150, z151, z152, z153, z154, z155, z156, z157, z158, z159, z160, z161, z162, z163, z164, z165, z166, z167, z168, z169, z170, z171, z172, z173, z174, z175, z176, z177, z178, z179, z180, z181, z182, z183], defers := [] } wr := by
  obtain rfl := Option.some.inj ((show some _ = Tryz.f4.body.bind loopOfZ from rfl).trans hC)
  subst e1 e2 e5 e7
  have H := Lib.hid h
  have HAt := Lib.hid hAt
  have HSr := Lib.hid hS
  have hltI : (k : Int) < (nl : Int) := by omega
  have hnl : (nl : Int) ≤ 80 := by omega
  obtain ⟨u, hu⟩ : ∃ u, y4.toNat = u := ⟨_, rfl⟩
  have KA0 := hKA
  simp only [At4, hu] at KA0
  have KA := Lib.hid KA0
  have HMy := Lib.hid (hS.good.may (by omega))
  have HCp := Lib.hid (CopyS_live hS.pile (hS.good.may (by omega)) hS.ne hS.hn)
  have HD := Lib.hid (fun W (hW : Adds wr W) => depthS_any (hS.more hW).stk (hS.more hW).hn)
  obtain ⟨nn, hnn⟩ : ∃ nn, L.length = nn := ⟨_, rfl⟩
  simp only [hnn] at HD
  have HLt := Lib.hid hk
  have HLL := Lib.hid (show nn ≤ k + 1 by rw [← hnn]; exact hL)
  have HNN := Lib.hid hnn
  obtain ⟨c0, c1, c2, c3⟩ := KA.out _ hS.adds
  have HK := Lib.hid (hq ▸ passP_ok hS.good res y3 y4 y2)
  have HStp := Lib.hid (fun W (hW : Adds wr W) => (hS.more hW).pass (by have := hL; omega) y3 y4 _ hq)
  simp only [hu] at HStp
  obtain ⟨mm, hmm⟩ : ∃ mm, nn = mm := ⟨_, rfl⟩
  have HM := Lib.hid (show L.length = mm by rw [hnn, hmm])
  have HHe := Lib.hid he
  have hu1 : mm ≤ nn + 1 := by omega
  have hd1 : nn ≤ mm + 1 := by omega
  have heb : (er == 0) = false := by simpa using he
  have hnn80 : nn ≤ 81 := by have := HLL.out; omega
  have HR1 := Lib.hid (show wrap64 ((nn : Int) - 1) = (nn : Int) - 1 by unfold wrap64; omega)
  have HR2 := Lib.hid (show wrap64 ((nn : Int) + 1) = (nn : Int) + 1 by unfold wrap64; omega)
  have hc1 : ¬ (mm : Int) < (nn : Int) - 1 := by omega
  have hc2 : ¬ (nn : Int) + 1 < (mm : Int) := by omega
  have hm4 : (1 < nn ∧ ¬ nn < mm) ∨ (¬ 1 < nn ∧ ¬ 1 < mm ∧ 0 < mm) ∨ (¬ 1 < nn ∧ ¬ 1 < mm ∧ mm = 0) := by omega
  have HM4 := Lib.hid hm4
  have HU1 := Lib.hid (And.intro hu1 hd1)
  clear hS hL hk hq hmm hu hnn KA0 hKA hAt h hC hm4 hu1 hd1 hnn80 he
  refine wp_calmZ ?_
  go_wp2_with (first
    | (go_at_call 12; refine HCp.out.mono ?_; clear HCp; rintro e v1 ⟨b', rfl, hc, a1⟩; have C1 := Lib.hid hc; have AA1 := Lib.hid a1; clear hc a1)
    | (go_at_call 13; refine (HD.out _ AA1.out).mono ?_; clear HD; rintro e v2 ⟨rfl, a2⟩; have AA2 := Lib.hid (Adds.trans AA1.out a2); have C2 := Lib.hid (C1.out.adds a2); obtain ⟨k0, k1, k2, k3⟩ := KA.out _ (Adds.trans HSr.out.adds AA2.out); clear a2))
  have AA2d := Lib.hid (Adds.trans AA2.out (Adds.drew v2))
  have q0 : v2.drew.cell? _ = _ := k0
  have q1 : v2.drew.cell? _ = _ := k1
  have q2 : v2.drew.cell? _ = _ := k2
  have q3 : v2.drew.cell? _ = _ := k3
  go_region_with (go_at_call 15; refine (HStp.out _ AA2d.out).mono ?_; clear HStp; rintro e v3 ⟨rfl, hs, ha⟩; have S3 := Lib.hid hs; have HA3 := Lib.hid ha; have HD2 := Lib.hid (depthS_any hs.stk hs.hn); simp only [HM.out] at HD2; obtain ⟨k0, k1, k2, k3⟩ := KA.out _ S3.out.adds; clear hs ha)
  all_goals
    simp only [Exit.then]
    go_simp
    go_wp2_with fail
    rcases HM4.out with ⟨n1, n2⟩ | ⟨n1, n2, n3⟩ | ⟨n1, n2, n3⟩
    · have i1 : (1 : Int) < (nn : Int) := by omega
      have i2 : ¬ (nn : Int) < (mm : Int) := by omega
      have HUp := Lib.hid (show mm ≤ nn + 1 from HU1.out.1)
      have hm0 : (0 : Int) < (mm : Int) := by have := HU1.out; omega
      obtain ⟨Q', ⟨f', c', d', rs'⟩, hQe⟩ : ∃ Q' x, L = Q' ++ [x] := by
        rcases List.eq_nil_or_concat L with hnil | ⟨Q', x, hx⟩
        · have := HM.out; rw [hnil] at this; simp at this; have := HU1.out; omega
        · exact ⟨Q', x, by rw [hx, List.concat_eq_append]⟩
      subst hQe
      have HQl := Lib.hid (show (Q' ++ [((f', c', d', rs') : Fr)]).length < 1000000 by rw [HM.out]; have := HUp.out; have := HLL.out; omega)
      obtain ⟨⟨e0, e1, e2, e3, e4⟩, hi⟩ : ∃ i, insT (fs, x1, x2, x3) (f', c', d', rs') = i := ⟨_, rfl⟩
      have HI := Lib.hid hi
      have NE0 := fun W => ins_neq (e0, e1, e2, e3, e4) (e0, e1, e2, e3, e4) W
      rw [eqI_iff.2 rfl] at NE0
      have NE : ∀ W, (binOp .neq 56 (.agg #[.int .i64 e0, .int .i64 e1, .int .i64 e2, .int .i64 e3, .int .u32 e4]) (.agg #[.int .i64 e0, .int .i64 e1, .int .i64 e2, .int .i64 e3, .int .u32 e4])).run Tryz.prog W = .ok (.bool (!true)) W := NE0
      clear hi NE0
      have hr1 := HR1.out
      have hr2 := HR2.out
      go_wp2_with (first
        | (go_at_call 13; refine HD2.out.mono ?_; clear HD2; rintro e v4 ⟨rfl, a4⟩; have AB4 := Lib.hid a4; have S4 := Lib.hid (S3.out.more a4); have HN5 := Lib.hid (fun W (hW : Adds v4 W) => NextS_live (S4.out.more hW).stk (S4.out.more hW).hn ((S4.out.more hW).good.stands HQl.out)); simp only [HI.out] at HN5; have HSm := Lib.hid (SameS_yes S4.out.pile (C2.out.adds (Adds.trans (Adds.drew v2) (Adds.trans (HA3.out HHe.out) a4))) S4.out.hn (by have := S4.out.adds.size; have := (Adds.trans AA2.out (Adds.trans (Adds.drew v2) (Adds.trans (HA3.out HHe.out) a4))).size; omega) HMy.out); obtain ⟨k0, k1, k2, k3⟩ := KA.out _ S4.out.adds; clear a4)
        | (go_at_call 16; refine HSm.out.mono ?_; clear HSm; rintro e vs ⟨rfl, asx⟩; have AS := Lib.hid asx; have SS := Lib.hid (S4.out.more asx); obtain ⟨k0, k1, k2, k3⟩ := KA.out _ SS.out.adds; clear asx)
        | (go_at_call 17; refine (HN5.out _ AS.out).mono ?_; clear HN5; rintro e v5 ⟨rfl, a5⟩; have S5 := Lib.hid (S4.out.more (Adds.trans AS.out a5)); obtain ⟨kz, hkz⟩ : ∃ kz, v5.heap.size + 1 = kz := ⟨_, rfl⟩; have q0 : ¬ v5.heap.size = kz := (by omega); have q1 : ¬ kz = v5.heap.size := (by omega); obtain ⟨vb, hvb⟩ : ∃ vb, (((((((((v5.alloc (.cells #[.int .i64 0, .int .i64 0, .int .i64 0, .int .i64 0, .int .u32 0] 56)).alloc (.cells #[.int .i64 0, .int .i64 0] 58)).setCell ⟨v5.heap.size, 0, none⟩ (.int .i64 e0)).setCell ⟨v5.heap.size, 1, none⟩ (.int .i64 e1)).setCell ⟨v5.heap.size, 2, none⟩ (.int .i64 e2)).setCell ⟨v5.heap.size, 3, none⟩ (.int .i64 e3)).setCell ⟨v5.heap.size, 4, none⟩ (.int .u32 e4)).setCell ⟨kz, 0, none⟩ (.int .i64 (f' : Int))).setCell ⟨kz, 1, none⟩ (.int .i64 (c' : Int))) = vb := ⟨_, rfl⟩; have BB0 : BkS 56 ((v5.alloc (.cells #[.int .i64 0, .int .i64 0, .int .i64 0, .int .i64 0, .int .u32 0] 56)).alloc (.cells #[.int .i64 0, .int .i64 0] 58)) v5.heap.size [.int .i64 0, .int .i64 0, .int .i64 0, .int .i64 0, .int .u32 0] := ((BkS.new 56 v5 [.int .i64 0, .int .i64 0, .int .i64 0, .int .i64 0, .int .u32 0]).adds (Adds.new _ _)); have BB1 : BkS 58 ((v5.alloc (.cells #[.int .i64 0, .int .i64 0, .int .i64 0, .int .i64 0, .int .u32 0] 56)).alloc (.cells #[.int .i64 0, .int .i64 0] 58)) kz [.int .i64 0, .int .i64 0] := (by rw [show kz = (v5.alloc (.cells #[.int .i64 0, .int .i64 0, .int .i64 0, .int .i64 0, .int .u32 0] 56)).heap.size by rw [World.size_alloc]; exact hkz.symm]; exact BkS.new 58 _ [.int .i64 0, .int .i64 0]); have AVb := Lib.hid (show Adds v5 vb by rw [← hvb]; exact (((((((((Adds.new v5 _).trans (Adds.new _ _)).set (Nat.le_refl _) 0 _).set (Nat.le_refl _) 1 _).set (Nat.le_refl _) 2 _).set (Nat.le_refl _) 3 _).set (Nat.le_refl _) 4 _).set (by omega) 0 _).set (by omega) 1 _)); have BVa := Lib.hid (show BkS 56 vb v5.heap.size [.int .i64 e0, .int .i64 e1, .int .i64 e2, .int .i64 e3, .int .u32 e4] by rw [← hvb]; exact (((((((BB0.set 0 _).set 1 _).set 2 _).set 3 _).set 4 _).other q1 _).other q1 _)); have BVb := Lib.hid (show BkS 58 vb kz [.int .i64 (f' : Int), .int .i64 (c' : Int)] by rw [← hvb]; exact (((((((BB1.other q0 _).other q0 _).other q0 _).other q0 _).other q0 _).set 0 _).set 1 _)); clear BB0 BB1; have S6 := Lib.hid (S5.out.more AVb.out); have bx := S6.out.box; have p0 := bx.cell 0; have p1 := bx.cell 1; have p2 := bx.cell 2; have p3 := bx.cell 3; have s0 := BVb.out.cell 0; have s1 := BVb.out.cell 1; have HTop := Lib.hid (by have h := atP_top S4.out.good; rw [HI.out] at h; exact h); have HA7 := Lib.hid (HAt.out vb (f' : Int) (c' : Int) S6.out.adds); simp only [HTop.out] at HA7; clear a5 bx)
        | (go_at_call 18; refine HA7.out.mono ?_; clear HA7; rintro e v7 ⟨rfl, a7⟩; obtain ⟨vc, hvc⟩ : ∃ vc, v7.alloc (.cells #[.int .i64 e0, .int .i64 e1, .int .i64 e2, .int .i64 e3, .int .u32 e4] 56) = vc := ⟨_, rfl⟩; have AVc := Lib.hid (show Adds v7 vc by rw [← hvc]; exact Adds.new _ _); have BVc := Lib.hid (show BkS 56 vc v7.heap.size [.int .i64 e0, .int .i64 e1, .int .i64 e2, .int .i64 e3, .int .u32 e4] by rw [← hvc]; exact BkS.new _ _ _); have S8 := Lib.hid (S6.out.more (Adds.trans a7 AVc.out)); have BV2 := BVa.out.adds (Adds.trans a7 AVc.out); have t0 := BV2.cell 0; have t1 := BV2.cell 1; have t2 := BV2.cell 2; have t3 := BV2.cell 3; have t4 := BV2.cell 4; have r0 := BVc.out.cell 0; have r1 := BVc.out.cell 1; have r2 := BVc.out.cell 2; have r3 := BVc.out.cell 3; have r4 := BVc.out.cell 4; clear a7 BV2)
        | (go_at_call 9; refine (num12 _ _).mono ?_; rintro e wn ⟨rfl, rfl⟩))
      try simp only [Exit.then]
      exact H.out _ _ _ _ _ _ _ _ _ _ _ _ _ _ _ _ _ _ _ _ _ _ _ _ _ _ _ _ _ _ _ _ _ _ _ _ _ _ _ _ _ _ _ _ _ _ _ _ _ _ _ _ _ _ _ _ _ _ _ _ _ _ _ _ _ _ _ _ _ _ _ _ _ _ _ _ _ _ _ _ _ _ _ _ _ _ _ _ _ _ _ _ _ _ _ _ _ _ _ _ _ _ _ _ _ _ _ _ _ _ _ _ _ _ _ _ _ _ _ _ _ _ S8.out (by have h1 := HM.out; have h2 := HUp.out; have h3 := HLL.out; omega)
    · have i1 : ¬ (1 : Int) < (nn : Int) := by omega
      have i2 : ¬ (1 : Int) < (mm : Int) := by omega
      have HUp := Lib.hid (show mm ≤ nn + 1 from HU1.out.1)
      have hm0 : (0 : Int) < (mm : Int) := by have := HU1.out; omega
      obtain ⟨Q', ⟨f', c', d', rs'⟩, hQe⟩ : ∃ Q' x, L = Q' ++ [x] := by
        rcases List.eq_nil_or_concat L with hnil | ⟨Q', x, hx⟩
        · have := HM.out; rw [hnil] at this; simp at this; have := HU1.out; omega
        · exact ⟨Q', x, by rw [hx, List.concat_eq_append]⟩
      subst hQe
      have HQl := Lib.hid (show (Q' ++ [((f', c', d', rs') : Fr)]).length < 1000000 by rw [HM.out]; have := HUp.out; have := HLL.out; omega)
      obtain ⟨⟨e0, e1, e2, e3, e4⟩, hi⟩ : ∃ i, insT (fs, x1, x2, x3) (f', c', d', rs') = i := ⟨_, rfl⟩
      have HI := Lib.hid hi
      have NE0 := fun W => ins_neq (e0, e1, e2, e3, e4) (e0, e1, e2, e3, e4) W
      rw [eqI_iff.2 rfl] at NE0
      have NE : ∀ W, (binOp .neq 56 (.agg #[.int .i64 e0, .int .i64 e1, .int .i64 e2, .int .i64 e3, .int .u32 e4]) (.agg #[.int .i64 e0, .int .i64 e1, .int .i64 e2, .int .i64 e3, .int .u32 e4])).run Tryz.prog W = .ok (.bool (!true)) W := NE0
      clear hi NE0
      have hr1 := HR1.out
      have hr2 := HR2.out
      go_wp2_with (first
        | (go_at_call 13; refine HD2.out.mono ?_; clear HD2; rintro e v4 ⟨rfl, a4⟩; have AB4 := Lib.hid a4; have S4 := Lib.hid (S3.out.more a4); have HN5 := Lib.hid (fun W (hW : Adds v4 W) => NextS_live (S4.out.more hW).stk (S4.out.more hW).hn ((S4.out.more hW).good.stands HQl.out)); simp only [HI.out] at HN5; have HSm := Lib.hid (SameS_yes S4.out.pile (C2.out.adds (Adds.trans (Adds.drew v2) (Adds.trans (HA3.out HHe.out) a4))) S4.out.hn (by have := S4.out.adds.size; have := (Adds.trans AA2.out (Adds.trans (Adds.drew v2) (Adds.trans (HA3.out HHe.out) a4))).size; omega) HMy.out); obtain ⟨k0, k1, k2, k3⟩ := KA.out _ S4.out.adds; clear a4)
        | (go_at_call 16; refine HSm.out.mono ?_; clear HSm; rintro e vs ⟨rfl, asx⟩; have AS := Lib.hid asx; have SS := Lib.hid (S4.out.more asx); obtain ⟨k0, k1, k2, k3⟩ := KA.out _ SS.out.adds; clear asx)
        | (go_at_call 17; refine (HN5.out _ AS.out).mono ?_; clear HN5; rintro e v5 ⟨rfl, a5⟩; have S5 := Lib.hid (S4.out.more (Adds.trans AS.out a5)); obtain ⟨kz, hkz⟩ : ∃ kz, v5.heap.size + 1 = kz := ⟨_, rfl⟩; have q0 : ¬ v5.heap.size = kz := (by omega); have q1 : ¬ kz = v5.heap.size := (by omega); obtain ⟨vb, hvb⟩ : ∃ vb, (((((((((v5.alloc (.cells #[.int .i64 0, .int .i64 0, .int .i64 0, .int .i64 0, .int .u32 0] 56)).alloc (.cells #[.int .i64 0, .int .i64 0] 58)).setCell ⟨v5.heap.size, 0, none⟩ (.int .i64 e0)).setCell ⟨v5.heap.size, 1, none⟩ (.int .i64 e1)).setCell ⟨v5.heap.size, 2, none⟩ (.int .i64 e2)).setCell ⟨v5.heap.size, 3, none⟩ (.int .i64 e3)).setCell ⟨v5.heap.size, 4, none⟩ (.int .u32 e4)).setCell ⟨kz, 0, none⟩ (.int .i64 (f' : Int))).setCell ⟨kz, 1, none⟩ (.int .i64 (c' : Int))) = vb := ⟨_, rfl⟩; have BB0 : BkS 56 ((v5.alloc (.cells #[.int .i64 0, .int .i64 0, .int .i64 0, .int .i64 0, .int .u32 0] 56)).alloc (.cells #[.int .i64 0, .int .i64 0] 58)) v5.heap.size [.int .i64 0, .int .i64 0, .int .i64 0, .int .i64 0, .int .u32 0] := ((BkS.new 56 v5 [.int .i64 0, .int .i64 0, .int .i64 0, .int .i64 0, .int .u32 0]).adds (Adds.new _ _)); have BB1 : BkS 58 ((v5.alloc (.cells #[.int .i64 0, .int .i64 0, .int .i64 0, .int .i64 0, .int .u32 0] 56)).alloc (.cells #[.int .i64 0, .int .i64 0] 58)) kz [.int .i64 0, .int .i64 0] := (by rw [show kz = (v5.alloc (.cells #[.int .i64 0, .int .i64 0, .int .i64 0, .int .i64 0, .int .u32 0] 56)).heap.size by rw [World.size_alloc]; exact hkz.symm]; exact BkS.new 58 _ [.int .i64 0, .int .i64 0]); have AVb := Lib.hid (show Adds v5 vb by rw [← hvb]; exact (((((((((Adds.new v5 _).trans (Adds.new _ _)).set (Nat.le_refl _) 0 _).set (Nat.le_refl _) 1 _).set (Nat.le_refl _) 2 _).set (Nat.le_refl _) 3 _).set (Nat.le_refl _) 4 _).set (by omega) 0 _).set (by omega) 1 _)); have BVa := Lib.hid (show BkS 56 vb v5.heap.size [.int .i64 e0, .int .i64 e1, .int .i64 e2, .int .i64 e3, .int .u32 e4] by rw [← hvb]; exact (((((((BB0.set 0 _).set 1 _).set 2 _).set 3 _).set 4 _).other q1 _).other q1 _)); have BVb := Lib.hid (show BkS 58 vb kz [.int .i64 (f' : Int), .int .i64 (c' : Int)] by rw [← hvb]; exact (((((((BB1.other q0 _).other q0 _).other q0 _).other q0 _).other q0 _).set 0 _).set 1 _)); clear BB0 BB1; have S6 := Lib.hid (S5.out.more AVb.out); have bx := S6.out.box; have p0 := bx.cell 0; have p1 := bx.cell 1; have p2 := bx.cell 2; have p3 := bx.cell 3; have s0 := BVb.out.cell 0; have s1 := BVb.out.cell 1; have HTop := Lib.hid (by have h := atP_top S4.out.good; rw [HI.out] at h; exact h); have HA7 := Lib.hid (HAt.out vb (f' : Int) (c' : Int) S6.out.adds); simp only [HTop.out] at HA7; clear a5 bx)
        | (go_at_call 18; refine HA7.out.mono ?_; clear HA7; rintro e v7 ⟨rfl, a7⟩; obtain ⟨vc, hvc⟩ : ∃ vc, v7.alloc (.cells #[.int .i64 e0, .int .i64 e1, .int .i64 e2, .int .i64 e3, .int .u32 e4] 56) = vc := ⟨_, rfl⟩; have AVc := Lib.hid (show Adds v7 vc by rw [← hvc]; exact Adds.new _ _); have BVc := Lib.hid (show BkS 56 vc v7.heap.size [.int .i64 e0, .int .i64 e1, .int .i64 e2, .int .i64 e3, .int .u32 e4] by rw [← hvc]; exact BkS.new _ _ _); have S8 := Lib.hid (S6.out.more (Adds.trans a7 AVc.out)); have BV2 := BVa.out.adds (Adds.trans a7 AVc.out); have t0 := BV2.cell 0; have t1 := BV2.cell 1; have t2 := BV2.cell 2; have t3 := BV2.cell 3; have t4 := BV2.cell 4; have r0 := BVc.out.cell 0; have r1 := BVc.out.cell 1; have r2 := BVc.out.cell 2; have r3 := BVc.out.cell 3; have r4 := BVc.out.cell 4; clear a7 BV2)
        | (go_at_call 9; refine (num12 _ _).mono ?_; rintro e wn ⟨rfl, rfl⟩))
      try simp only [Exit.then]
      exact H.out _ _ _ _ _ _ _ _ _ _ _ _ _ _ _ _ _ _ _ _ _ _ _ _ _ _ _ _ _ _ _ _ _ _ _ _ _ _ _ _ _ _ _ _ _ _ _ _ _ _ _ _ _ _ _ _ _ _ _ _ _ _ _ _ _ _ _ _ _ _ _ _ _ _ _ _ _ _ _ _ _ _ _ _ _ _ _ _ _ _ _ _ _ _ _ _ _ _ _ _ _ _ _ _ _ _ _ _ _ _ _ _ _ _ _ _ _ _ _ _ _ _ S8.out (by have h1 := HM.out; have h2 := HUp.out; have h3 := HLL.out; omega)
    · have i1 : ¬ (1 : Int) < (nn : Int) := by omega
      have i2 : ¬ (1 : Int) < (mm : Int) := by omega
      have HUp := Lib.hid (show mm ≤ nn + 1 from HU1.out.1)
      have hm0 : (mm : Int) = 0 := by omega
      obtain hnil : L = [] := List.eq_nil_of_length_eq_zero (by rw [HM.out]; omega)
      subst hnil
      have hm00 : mm = 0 := by omega
      subst hm00
      have hr1 := HR1.out
      have hr2 := HR2.out
      go_wp2_with (first
        | (go_at_call 13; refine HD2.out.mono ?_; clear HD2; rintro e v4 ⟨rfl, a4⟩; have AB4 := Lib.hid a4; have S4 := Lib.hid (S3.out.more a4); have HN5 := Lib.hid (fun W (hW : Adds v4 W) => NextS_none (S4.out.more hW).stk (S4.out.more hW).hn); have HSm := Lib.hid (SameS_yes S4.out.pile (C2.out.adds (Adds.trans (Adds.drew v2) (Adds.trans (HA3.out HHe.out) a4))) S4.out.hn (by have := S4.out.adds.size; have := (Adds.trans AA2.out (Adds.trans (Adds.drew v2) (Adds.trans (HA3.out HHe.out) a4))).size; omega) HMy.out); obtain ⟨k0, k1, k2, k3⟩ := KA.out _ S4.out.adds; clear a4)
        | (go_at_call 16; refine HSm.out.mono ?_; clear HSm; rintro e vs ⟨rfl, asx⟩; have AS := Lib.hid asx; have SS := Lib.hid (S4.out.more asx); obtain ⟨k0, k1, k2, k3⟩ := KA.out _ SS.out.adds; clear asx)
        | (go_at_call 17; refine (HN5.out _ AS.out).mono ?_; clear HN5; rintro e v5 ⟨rfl, a5⟩; have S5 := Lib.hid (S4.out.more (Adds.trans AS.out a5)); obtain ⟨kz, hkz⟩ : ∃ kz, v5.heap.size + 1 = kz := ⟨_, rfl⟩; have q0 : ¬ v5.heap.size = kz := (by omega); have q1 : ¬ kz = v5.heap.size := (by omega); obtain ⟨vb, hvb⟩ : ∃ vb, (((((((((v5.alloc (.cells #[.int .i64 0, .int .i64 0, .int .i64 0, .int .i64 0, .int .u32 0] 56)).alloc (.cells #[.int .i64 0, .int .i64 0] 58)).setCell ⟨v5.heap.size, 0, none⟩ (.int .i64 0)).setCell ⟨v5.heap.size, 1, none⟩ (.int .i64 0)).setCell ⟨v5.heap.size, 2, none⟩ (.int .i64 0)).setCell ⟨v5.heap.size, 3, none⟩ (.int .i64 0)).setCell ⟨v5.heap.size, 4, none⟩ (.int .u32 0)).setCell ⟨kz, 0, none⟩ (.int .i64 0)).setCell ⟨kz, 1, none⟩ (.int .i64 0)) = vb := ⟨_, rfl⟩; have BB0 : BkS 56 ((v5.alloc (.cells #[.int .i64 0, .int .i64 0, .int .i64 0, .int .i64 0, .int .u32 0] 56)).alloc (.cells #[.int .i64 0, .int .i64 0] 58)) v5.heap.size [.int .i64 0, .int .i64 0, .int .i64 0, .int .i64 0, .int .u32 0] := ((BkS.new 56 v5 [.int .i64 0, .int .i64 0, .int .i64 0, .int .i64 0, .int .u32 0]).adds (Adds.new _ _)); have BB1 : BkS 58 ((v5.alloc (.cells #[.int .i64 0, .int .i64 0, .int .i64 0, .int .i64 0, .int .u32 0] 56)).alloc (.cells #[.int .i64 0, .int .i64 0] 58)) kz [.int .i64 0, .int .i64 0] := (by rw [show kz = (v5.alloc (.cells #[.int .i64 0, .int .i64 0, .int .i64 0, .int .i64 0, .int .u32 0] 56)).heap.size by rw [World.size_alloc]; exact hkz.symm]; exact BkS.new 58 _ [.int .i64 0, .int .i64 0]); have AVb := Lib.hid (show Adds v5 vb by rw [← hvb]; exact (((((((((Adds.new v5 _).trans (Adds.new _ _)).set (Nat.le_refl _) 0 _).set (Nat.le_refl _) 1 _).set (Nat.le_refl _) 2 _).set (Nat.le_refl _) 3 _).set (Nat.le_refl _) 4 _).set (by omega) 0 _).set (by omega) 1 _)); have BVa := Lib.hid (show BkS 56 vb v5.heap.size [.int .i64 0, .int .i64 0, .int .i64 0, .int .i64 0, .int .u32 0] by rw [← hvb]; exact (((((((BB0.set 0 _).set 1 _).set 2 _).set 3 _).set 4 _).other q1 _).other q1 _)); have BVb := Lib.hid (show BkS 58 vb kz [.int .i64 0, .int .i64 0] by rw [← hvb]; exact (((((((BB1.other q0 _).other q0 _).other q0 _).other q0 _).other q0 _).set 0 _).set 1 _)); clear BB0 BB1; have S6 := Lib.hid (S5.out.more AVb.out); have bx := S6.out.box; have p0 := bx.cell 0; have p1 := bx.cell 1; have p2 := bx.cell 2; have p3 := bx.cell 3; have s0 := BVb.out.cell 0; have s1 := BVb.out.cell 1; obtain ⟨⟨g0, g1', g2, g3, g4⟩, hgi⟩ : ∃ i, (atP fs 0 0).1 = i := ⟨_, rfl⟩; obtain ⟨ge, hge⟩ : ∃ i, (atP fs 0 0).2 = i := ⟨_, rfl⟩; have HA7 := Lib.hid (HAt.out vb 0 0 S6.out.adds); simp only [hgi, hge] at HA7; clear a5 bx)
        | (go_at_call 18; refine HA7.out.mono ?_; clear HA7; rintro e v7 ⟨rfl, a7⟩; obtain ⟨vc, hvc⟩ : ∃ vc, v7.alloc (.cells #[.int .i64 g0, .int .i64 g1', .int .i64 g2, .int .i64 g3, .int .u32 g4] 56) = vc := ⟨_, rfl⟩; have AVc := Lib.hid (show Adds v7 vc by rw [← hvc]; exact Adds.new _ _); have BVc := Lib.hid (show BkS 56 vc v7.heap.size [.int .i64 g0, .int .i64 g1', .int .i64 g2, .int .i64 g3, .int .u32 g4] by rw [← hvc]; exact BkS.new _ _ _); have S8 := Lib.hid (S6.out.more (Adds.trans a7 AVc.out)); have BV2 := BVa.out.adds (Adds.trans a7 AVc.out); have t0 := BV2.cell 0; have t1 := BV2.cell 1; have t2 := BV2.cell 2; have t3 := BV2.cell 3; have t4 := BV2.cell 4; have r0 := BVc.out.cell 0; have r1 := BVc.out.cell 1; have r2 := BVc.out.cell 2; have r3 := BVc.out.cell 3; have r4 := BVc.out.cell 4; clear a7 BV2)
        | (go_at_call 9; refine (num12 _ _).mono ?_; rintro e wn ⟨rfl, rfl⟩))
      try simp only [Exit.then]
      exact H.out _ _ _ _ _ _ _ _ _ _ _ _ _ _ _ _ _ _ _ _ _ _ _ _ _ _ _ _ _ _ _ _ _ _ _ _ _ _ _ _ _ _ _ _ _ _ _ _ _ _ _ _ _ _ _ _ _ _ _ _ _ _ _ _ _ _ _ _ _ _ _ _ _ _ _ _ _ _ _ _ _ _ _ _ _ _ _ _ _ _ _ _ _ _ _ _ _ _ _ _ _ _ _ _ _ _ _ _ _ _ _ _ _ _ _ _ _ _ _ _ _ _ S8.out (by have h1 := HM.out; have h2 := HUp.out; have h3 := HLL.out; omega)
end Go.Proofs.YtdkgehhlikaocaaGreat
