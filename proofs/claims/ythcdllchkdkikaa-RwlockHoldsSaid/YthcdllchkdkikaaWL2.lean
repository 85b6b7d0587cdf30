/- The law RwlockHolds, walked. -/
import Derived.Test.YthcdllchkdkikaaWFr
import Derived.Test.YthcdllchkdkikaaWL0
import Derived.Test.YthcdllchkdkikaaWH0
import Derived.Test.YthcdllchkdkikaaWH1
import Derived.Test.YthcdllchkdkikaaWH2
import Derived.Test.YthcdllchkdkikaaWH3
import Derived.Test.YthcdllchkdkikaaWH4
import Derived.Test.YthcdllchkdkikaaWH5
import Derived.Test.YthcdllchkdkikaaWH6
import Derived.Test.YthcdllchkdkikaaWHd
namespace Go.Proofs.Ythcdllchkdkikaa
open Go Go.RowKit

set_option maxRecDepth 100000 in
set_option maxHeartbeats 16000000 in
theorem law_holds14 (many : Int) (va : Value) (acts : List A3) (w : World) (ha : ActsW w.heap.size w va acts) (hk : ∀ y ∈ acts, okA y) :
    Calls Try.prog 6 #[.int .i64 many, va] w fun e W' => e = .returned (.bool true) ∧ Adds w W' := by
  have HW := Lib.hid works_any
  have HNum := Lib.hid num_any
  have ha0 := ha
  obtain ⟨ao, cap, rfl, hmx, _⟩ := ha
  by_cases hg : (1 ≤ many ∧ many ≤ 64) ∧ acts.length ≤ 100
  · obtain ⟨⟨g1, g2⟩, g3⟩ := hg
    obtain ⟨n, rfl⟩ : ∃ n : Nat, many = n := ⟨many.toNat, by omega⟩
    have HNew := Lib.hid (new_live n (by omega) w)
    have h1 : ¬ (n : Int) < 1 := by omega
    have h2 : ¬ 64 < (n : Int) := by omega
    have h3 : ¬ 100 < (acts.length : Int) := by omega
    go_enter Try.func6, Try.ntmps6
    go_wp2_with (go_at_call 8; refine HNew.out.mono ?_; rintro e w1 ⟨v, rfl, h1⟩; have M1 := Lib.hid h1; clear h1 HNew)
    generalize hwa : World.alloc w1 _ = wa
    have HBa := Lib.hid (show BkS 61 wa w1.heap.size (arrV (List.replicate n 0)) by rw [← hwa, arrV_zero n (by omega)]; exact heap_new w1 _)
    have HAa := Lib.hid (show Adds w1 wa by rw [← hwa]; exact (Gr.new _ _).adds)
    generalize hwb : World.alloc wa _ = wb
    have HBb := Lib.hid (show BkS 61 wb wa.heap.size (arrV (List.replicate n 0)) by rw [← hwb, arrV_zero n (by omega)]; exact heap_new wa _)
    have HAb := Lib.hid (show Adds wa wb by rw [← hwb]; exact (Gr.new _ _).adds)
    have hsa : w1.heap.size + 1 = wa.heap.size := by rw [← hwa]; simp
    try rw [hsa]
    obtain ⟨BR, hBR⟩ : ∃ B, w1.heap.size = B := ⟨_, rfl⟩
    obtain ⟨BW, hBW⟩ : ∃ B, wa.heap.size = B := ⟨_, rfl⟩
    have H0 := Lib.hid (show HoldW 0 n w wb v BR BW (List.replicate n lk0) from ⟨M1.out.adds (Adds.trans HAa.out HAb.out), by simp, fun x hx => by rw [List.eq_of_mem_replicate hx]; exact fun h => absurd rfl h, by rw [List.map_replicate, ← hBR]; exact HBa.out.adds HAb.out, by rw [List.map_replicate, ← hBW]; exact HBb.out, by rw [← hBR]; exact M1.out.world.size, by rw [← hBW]; exact Nat.le_trans M1.out.world.size HAa.out.size, by omega⟩)
    rw [hBR, hBW]
    have HN := Lib.hid (And.intro g1 g2)
    have HV := Lib.hid (show ActsW w.heap.size w (.slice ao acts.length cap) acts from ha0)
    have HKo := Lib.hid hk
    have HG3 := Lib.hid g3
    have h5 : (acts.length : Int) ≤ 100 := by omega
    clear hwa hwb hsa hBR hBW HBa HBb HAa HAb M1 h1 h2 h3 g1 g2 g3 hk ha0 hmx
    go_loopw [9] (fun iv wr => ∃ (k : Nat) (ls : List Lk), iv = .int .i64 k ∧ k ≤ acts.length ∧ HoldW k n w wr v BR BW ls) (fun iv _ => acts.length + 1 - (intOf iv).toNat)
    case atStart => exact ⟨0, _, rfl, Nat.zero_le _, H0.out⟩
    case round =>
      obtain ⟨k, ls, rfl, hk, hH⟩ := hrel
      by_cases hlt : k < acts.length
      · obtain ⟨g, off, cap', e, c0, c1, c2⟩ := HV.out.at3 (Nat.le_refl _) hH.live.world hlt
        simp only [Value.slice.injEq] at e
        obtain ⟨rfl, e0, rfl⟩ := e
        clear e0
        obtain ⟨⟨a, i, cc⟩, hx⟩ : ∃ x, acts.getD k zA = x := ⟨_, rfl⟩
        rw [hx] at c0 c1 c2
        simp only at c0 c1 c2
        have hltI : (k : Int) < (acts.length : Int) := by omega
        have HK := Lib.hid (show k + 1 ≤ acts.length from hlt)
        have HK6 := Lib.hid (show k ≤ 1000000 by have := HG3.out; omega)
        have HH := Lib.hid hH
        clear hH hltI HK6
        by_cases ha0 : a = 0
        · subst ha0
          refine hold_0 (by kernel_rfl) HH.out (by have := HN.out.2; omega) HK.out HG3.out c0 c1 c2 rfl rfl rfl rfl rfl ?_
          intro t10 t11 t12 t13 t14 t15 t33 t34 t35 t36 t37 t38 t39 t40 t41 t42 t43 t44 t45 t46 t47 t48 t49 t50 t51 t52 t53 t54 t55 t56 t57 t58 t59 t60 t61 t62 t63 t64 t65 t66 t67 t68 t69 t70 t71 t72 t73 t74 t75 t76 t77 t78 t79 t80 t81 t82 t83 t84 t85 t86 t87 t88 t89 t90 t91 t92 t93 t94 t95 t96 t97 t98 t99 t100 t101 t102 t103 t104 t105 t106 t107 t108 t109 t110 t111 t112 t113 t114 t115 t116 t117 t118 t119 t120 t121 t122 t123 t124 t125 t126 t127 t128 t129 t130 t131 t132 t133 t134 t135 t136 t137 t138 t139 t140 t141 t142 t143 t144 t145 t146 t147 t148 t149 t150 t151 t152 t153 t154 t155 t156 t157 t158 t159 t160 t161 t162 t163 t164 t165 t166 t167 t168 t169 t170 t171 t172 t173 t174 wn ls' hH'
          try simp only [Exit.then]
          go_roundw
          case rel => exact ⟨k + 1, ls', by go_num, HK.out, hH'⟩
          case measure => simp [intOf]; have := HK.out; omega
        by_cases ha1 : a = 1
        · subst ha1
          refine hold_1 (by kernel_rfl) HH.out (by have := HN.out.2; omega) HK.out HG3.out c0 c1 c2 rfl rfl rfl rfl rfl ?_
          intro t10 t11 t12 t13 t14 t15 t33 t34 t35 t36 t37 t38 t39 t40 t41 t42 t43 t44 t45 t46 t47 t48 t49 t50 t51 t52 t53 t54 t55 t56 t57 t58 t59 t60 t61 t62 t63 t64 t65 t66 t67 t68 t69 t70 t71 t72 t73 t74 t75 t76 t77 t78 t79 t80 t81 t82 t83 t84 t85 t86 t87 t88 t89 t90 t91 t92 t93 t94 t95 t96 t97 t98 t99 t100 t101 t102 t103 t104 t105 t106 t107 t108 t109 t110 t111 t112 t113 t114 t115 t116 t117 t118 t119 t120 t121 t122 t123 t124 t125 t126 t127 t128 t129 t130 t131 t132 t133 t134 t135 t136 t137 t138 t139 t140 t141 t142 t143 t144 t145 t146 t147 t148 t149 t150 t151 t152 t153 t154 t155 t156 t157 t158 t159 t160 t161 t162 t163 t164 t165 t166 t167 t168 t169 t170 t171 t172 t173 t174 wn ls' hH'
          try simp only [Exit.then]
          go_roundw
          case rel => exact ⟨k + 1, ls', by go_num, HK.out, hH'⟩
          case measure => simp [intOf]; have := HK.out; omega
        by_cases ha2 : a = 2
        · subst ha2
          refine hold_2 (by kernel_rfl) HH.out (by have := HN.out.2; omega) HK.out HG3.out c0 c1 c2 rfl rfl rfl rfl rfl ?_
          intro t10 t11 t12 t13 t14 t15 t33 t34 t35 t36 t37 t38 t39 t40 t41 t42 t43 t44 t45 t46 t47 t48 t49 t50 t51 t52 t53 t54 t55 t56 t57 t58 t59 t60 t61 t62 t63 t64 t65 t66 t67 t68 t69 t70 t71 t72 t73 t74 t75 t76 t77 t78 t79 t80 t81 t82 t83 t84 t85 t86 t87 t88 t89 t90 t91 t92 t93 t94 t95 t96 t97 t98 t99 t100 t101 t102 t103 t104 t105 t106 t107 t108 t109 t110 t111 t112 t113 t114 t115 t116 t117 t118 t119 t120 t121 t122 t123 t124 t125 t126 t127 t128 t129 t130 t131 t132 t133 t134 t135 t136 t137 t138 t139 t140 t141 t142 t143 t144 t145 t146 t147 t148 t149 t150 t151 t152 t153 t154 t155 t156 t157 t158 t159 t160 t161 t162 t163 t164 t165 t166 t167 t168 t169 t170 t171 t172 t173 t174 wn ls' hH'
          try simp only [Exit.then]
          go_roundw
          case rel => exact ⟨k + 1, ls', by go_num, HK.out, hH'⟩
          case measure => simp [intOf]; have := HK.out; omega
        by_cases ha3 : a = 3
        · subst ha3
          refine hold_3 (by kernel_rfl) HH.out (by have := HN.out.2; omega) HK.out HG3.out c0 c1 c2 rfl rfl rfl rfl rfl ?_
          intro t10 t11 t12 t13 t14 t15 t33 t34 t35 t36 t37 t38 t39 t40 t41 t42 t43 t44 t45 t46 t47 t48 t49 t50 t51 t52 t53 t54 t55 t56 t57 t58 t59 t60 t61 t62 t63 t64 t65 t66 t67 t68 t69 t70 t71 t72 t73 t74 t75 t76 t77 t78 t79 t80 t81 t82 t83 t84 t85 t86 t87 t88 t89 t90 t91 t92 t93 t94 t95 t96 t97 t98 t99 t100 t101 t102 t103 t104 t105 t106 t107 t108 t109 t110 t111 t112 t113 t114 t115 t116 t117 t118 t119 t120 t121 t122 t123 t124 t125 t126 t127 t128 t129 t130 t131 t132 t133 t134 t135 t136 t137 t138 t139 t140 t141 t142 t143 t144 t145 t146 t147 t148 t149 t150 t151 t152 t153 t154 t155 t156 t157 t158 t159 t160 t161 t162 t163 t164 t165 t166 t167 t168 t169 t170 t171 t172 t173 t174 wn ls' hH'
          try simp only [Exit.then]
          go_roundw
          case rel => exact ⟨k + 1, ls', by go_num, HK.out, hH'⟩
          case measure => simp [intOf]; have := HK.out; omega
        by_cases ha4 : a = 4
        · subst ha4
          refine hold_4 (by kernel_rfl) HH.out (by have := HN.out.2; omega) HK.out HG3.out c0 c1 c2 rfl rfl rfl rfl rfl ?_
          intro t10 t11 t12 t13 t14 t15 t33 t34 t35 t36 t37 t38 t39 t40 t41 t42 t43 t44 t45 t46 t47 t48 t49 t50 t51 t52 t53 t54 t55 t56 t57 t58 t59 t60 t61 t62 t63 t64 t65 t66 t67 t68 t69 t70 t71 t72 t73 t74 t75 t76 t77 t78 t79 t80 t81 t82 t83 t84 t85 t86 t87 t88 t89 t90 t91 t92 t93 t94 t95 t96 t97 t98 t99 t100 t101 t102 t103 t104 t105 t106 t107 t108 t109 t110 t111 t112 t113 t114 t115 t116 t117 t118 t119 t120 t121 t122 t123 t124 t125 t126 t127 t128 t129 t130 t131 t132 t133 t134 t135 t136 t137 t138 t139 t140 t141 t142 t143 t144 t145 t146 t147 t148 t149 t150 t151 t152 t153 t154 t155 t156 t157 t158 t159 t160 t161 t162 t163 t164 t165 t166 t167 t168 t169 t170 t171 t172 t173 t174 wn ls' hH'
          try simp only [Exit.then]
          go_roundw
          case rel => exact ⟨k + 1, ls', by go_num, HK.out, hH'⟩
          case measure => simp [intOf]; have := HK.out; omega
        by_cases ha5 : a = 5
        · subst ha5
          refine hold_5 (by kernel_rfl) HH.out (by have := HN.out.2; omega) HK.out HG3.out c0 c1 c2 rfl rfl rfl rfl rfl ?_
          intro t10 t11 t12 t13 t14 t15 t33 t34 t35 t36 t37 t38 t39 t40 t41 t42 t43 t44 t45 t46 t47 t48 t49 t50 t51 t52 t53 t54 t55 t56 t57 t58 t59 t60 t61 t62 t63 t64 t65 t66 t67 t68 t69 t70 t71 t72 t73 t74 t75 t76 t77 t78 t79 t80 t81 t82 t83 t84 t85 t86 t87 t88 t89 t90 t91 t92 t93 t94 t95 t96 t97 t98 t99 t100 t101 t102 t103 t104 t105 t106 t107 t108 t109 t110 t111 t112 t113 t114 t115 t116 t117 t118 t119 t120 t121 t122 t123 t124 t125 t126 t127 t128 t129 t130 t131 t132 t133 t134 t135 t136 t137 t138 t139 t140 t141 t142 t143 t144 t145 t146 t147 t148 t149 t150 t151 t152 t153 t154 t155 t156 t157 t158 t159 t160 t161 t162 t163 t164 t165 t166 t167 t168 t169 t170 t171 t172 t173 t174 wn ls' hH'
          try simp only [Exit.then]
          go_roundw
          case rel => exact ⟨k + 1, ls', by go_num, HK.out, hH'⟩
          case measure => simp [intOf]; have := HK.out; omega
        by_cases ha6 : a = 6
        · subst ha6
          refine hold_6 (by kernel_rfl) HH.out (by have := HN.out.2; omega) HK.out HG3.out c0 c1 c2 rfl rfl rfl rfl rfl ?_
          intro t10 t11 t12 t13 t14 t15 t33 t34 t35 t36 t37 t38 t39 t40 t41 t42 t43 t44 t45 t46 t47 t48 t49 t50 t51 t52 t53 t54 t55 t56 t57 t58 t59 t60 t61 t62 t63 t64 t65 t66 t67 t68 t69 t70 t71 t72 t73 t74 t75 t76 t77 t78 t79 t80 t81 t82 t83 t84 t85 t86 t87 t88 t89 t90 t91 t92 t93 t94 t95 t96 t97 t98 t99 t100 t101 t102 t103 t104 t105 t106 t107 t108 t109 t110 t111 t112 t113 t114 t115 t116 t117 t118 t119 t120 t121 t122 t123 t124 t125 t126 t127 t128 t129 t130 t131 t132 t133 t134 t135 t136 t137 t138 t139 t140 t141 t142 t143 t144 t145 t146 t147 t148 t149 t150 t151 t152 t153 t154 t155 t156 t157 t158 t159 t160 t161 t162 t163 t164 t165 t166 t167 t168 t169 t170 t171 t172 t173 t174 wn ls' hH'
          try simp only [Exit.then]
          go_roundw
          case rel => exact ⟨k + 1, ls', by go_num, HK.out, hH'⟩
          case measure => simp [intOf]; have := HK.out; omega
        refine hold_d (by kernel_rfl) HH.out (by have := HN.out.2; omega) HK.out HG3.out c0 c1 c2 ha0 ha1 ha2 ha3 ha4 ha5 ha6 rfl rfl rfl rfl rfl ?_
        intro t10 t11 t12 t13 t14 t15 t33 t34 t35 t36 t37 t38 t39 t40 t41 t42 t43 t44 t45 t46 t47 t48 t49 t50 t51 t52 t53 t54 t55 t56 t57 t58 t59 t60 t61 t62 t63 t64 t65 t66 t67 t68 t69 t70 t71 t72 t73 t74 t75 t76 t77 t78 t79 t80 t81 t82 t83 t84 t85 t86 t87 t88 t89 t90 t91 t92 t93 t94 t95 t96 t97 t98 t99 t100 t101 t102 t103 t104 t105 t106 t107 t108 t109 t110 t111 t112 t113 t114 t115 t116 t117 t118 t119 t120 t121 t122 t123 t124 t125 t126 t127 t128 t129 t130 t131 t132 t133 t134 t135 t136 t137 t138 t139 t140 t141 t142 t143 t144 t145 t146 t147 t148 t149 t150 t151 t152 t153 t154 t155 t156 t157 t158 t159 t160 t161 t162 t163 t164 t165 t166 t167 t168 t169 t170 t171 t172 t173 t174 wn ls' hH'
        try simp only [Exit.then]
        go_roundw
        case rel => exact ⟨k + 1, ls', by go_num, HK.out, hH'⟩
        case measure => simp [intOf]; have := HK.out; omega
      · have hltI : ¬ (k : Int) < (acts.length : Int) := by omega
        have HM := Lib.hid hH
        have HWr := Lib.hid (fun W => works_any W)
        clear hk hH hlt HW HV HKo H0
        go_wp2_with (first
          | (go_at_call 10; refine (HNum.out _ _).mono ?_; rintro e w' ⟨rfl, rfl⟩)
          | (go_at_call 7; refine (HWr.out _).mono ?_; rintro e w8 ⟨rfl, q8⟩; have H8 := Lib.hid q8; clear q8))
        go_ret
        exact ⟨rfl, Adds.trans HM.out.live.world H8.out⟩
  · clear ha0
    by_cases g1 : many < 1
    · clear hg
      go_enter Try.func6, Try.ntmps6
      go_wp2_with (go_at_call 7; refine (HW.out _).mono ?_; rintro e w8 ⟨rfl, q8⟩; have H8 := Lib.hid q8; clear q8)
      go_ret
      exact ⟨rfl, H8.out⟩
    · by_cases g2 : 64 < many
      · clear hg
        go_enter Try.func6, Try.ntmps6
        go_wp2_with (go_at_call 7; refine (HW.out _).mono ?_; rintro e w8 ⟨rfl, q8⟩; have H8 := Lib.hid q8; clear q8)
        go_ret
        exact ⟨rfl, H8.out⟩
      · have g3 : 100 < (acts.length : Int) := by omega
        clear hg
        go_enter Try.func6, Try.ntmps6
        go_wp2_with (go_at_call 7; refine (HW.out _).mono ?_; rintro e w8 ⟨rfl, q8⟩; have H8 := Lib.hid q8; clear q8)
        go_ret
        exact ⟨rfl, H8.out⟩
end Go.Proofs.Ythcdllchkdkikaa
