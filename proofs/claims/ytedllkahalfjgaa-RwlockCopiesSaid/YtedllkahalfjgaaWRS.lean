/- The document's Same: its contract. -/
import Derived.Test.YtedllkahalfjgaaWRU
import Derived.Test.YtedllkahalfjgaaWL0
import Derived.Test.YtedllkahalfjgaaWE2
namespace Go.Proofs.Ytedllkahalfjgaa
open Go Go.RowKit

set_option maxRecDepth 100000 in
set_option maxHeartbeats 4000000 in
theorem refSame_any {R R' : Nat → Prop} {s s' : Value} {ls ls' : List Lk} (w : World) (h : RefW R w s ls) (h' : RefW R' w s' ls') (hl : ls.length ≤ 64) :
    Calls Try.prog 17 #[.agg #[s], .agg #[s']] w fun e w' => e = .returned (.bool (sameLs ls ls')) ∧ Adds w w' := by
  obtain ⟨g, cap, rfl, _, _⟩ := h.form
  obtain ⟨g', cap', rfl, _, _⟩ := h'.form
  obtain ⟨wa, hwa⟩ : ∃ wa, w.alloc (.cells #[.slice (some ⟨g, 0, none⟩) ls.length cap] 30) = wa := ⟨_, rfl⟩
  have hA : Adds w wa := by rw [← hwa]; exact (Gr.new _ _).adds
  have ba : BkS 30 wa w.heap.size [.slice (some ⟨g, 0, none⟩) ls.length cap] := by rw [← hwa]; exact BkS.new _ _ _
  obtain ⟨wb, hwb⟩ : ∃ wb, wa.alloc (.cells #[.slice (some ⟨g', 0, none⟩) ls'.length cap'] 30) = wb := ⟨_, rfl⟩
  have hB : Adds wa wb := by rw [← hwb]; exact (Gr.new _ _).adds
  have bb : BkS 30 wb wa.heap.size [.slice (some ⟨g', 0, none⟩) ls'.length cap'] := by rw [← hwb]; exact BkS.new _ _ _
  have HAB := Lib.hid (Adds.trans hA hB)
  have HBa := Lib.hid (ba.adds hB)
  have HBb := Lib.hid bb
  have ca : wb.cell? ⟨w.heap.size, 0, none⟩ = some (.slice (some ⟨g, 0, none⟩) ls.length cap) := HBa.out.cell 0
  have cb : wb.cell? ⟨wa.heap.size, 0, none⟩ = some (.slice (some ⟨g', 0, none⟩) ls'.length cap') := HBb.out.cell 0
  obtain ⟨n0, hn0⟩ : ∃ n0, w.heap.size = n0 := ⟨_, rfl⟩
  obtain ⟨n1, hn1⟩ : ∃ n1, wa.heap.size = n1 := ⟨_, rfl⟩
  rw [hn0] at ca HBa
  rw [hn1] at cb HBb
  have HR := Lib.hid (h.adds HAB.out)
  have HR' := Lib.hid (h'.adds HAB.out)
  clear hA ba bb hB h h'
  by_cases he : ls.length = ls'.length
  · obtain ⟨N, hN⟩ : ∃ N, ls.length = N := ⟨_, rfl⟩
    have HN := Lib.hid hN
    have HN' := Lib.hid (he.symm.trans hN)
    have hN64 : (N : Int) ≤ 64 := by omega
    rw [← he, hN] at cb HBb HR' hwb
    rw [hN] at ca HBa HR hwa
    rw [← he, hN]
    clear hN he hl
    go_enter Try.func17, Try.ntmps17
    go_wp2
    go_loopw [5] (fun i wr => ∃ k : Nat, i = .int .i64 k ∧ k ≤ N ∧ Hid (ls.take k = ls'.take k) ∧ Adds wb wr) (fun i _ => N + 1 - (intOf i).toNat)
    case atStart => exact ⟨0, rfl, Nat.zero_le _, Lib.hid (by simp), Adds.refl _⟩
    case round =>
      obtain ⟨k, rfl, hk, HT, hA⟩ := hrel
      have HA := Lib.hid hA
      have k0 : wr.cell? ⟨n0, 0, none⟩ = some (.slice (some ⟨g, 0, none⟩) N cap) := (HBa.out.adds hA).cell 0
      have k1 : wr.cell? ⟨n1, 0, none⟩ = some (.slice (some ⟨g', 0, none⟩) N cap') := (HBb.out.adds hA).cell 0
      clear hA
      by_cases hlt : k < N
      · obtain ⟨x, hx⟩ : ∃ x, ls[k]? = some x := ⟨_, List.getElem?_eq_getElem (by rw [HN.out]; exact hlt)⟩
        obtain ⟨y, hy⟩ : ∃ y, ls'[k]? = some y := ⟨_, List.getElem?_eq_getElem (by rw [HN'.out]; exact hlt)⟩
        obtain ⟨r1, ao, cq, r0, rc, _⟩ := (HR.out.adds HA.out).cells hx
        obtain ⟨s1, bo, dq, s0, sc, _⟩ := (HR'.out.adds HA.out).cells hy
        have HI0 := Lib.hid (fun W (ha : Adds wr W) => ints_any W (rc.adds ha) (sc.adds ha))
        have HLt := Lib.hid hlt
        have hltI : (k : Int) < (N : Int) := by omega
        obtain ⟨xr, z1⟩ := x
        obtain ⟨yr, z2⟩ := y
        have HNo0 := Lib.hid (fun (hne : ¬ (⟨xr, z1⟩ : Lk) = ⟨yr, z2⟩) (e : ls = ls') => by
          rw [e, hy] at hx
          exact hne (by injection hx with hx; exact hx.symm))
        dsimp only at r1 r0 s1 s0 rc sc HI0
        generalize hna : xr.length = na at *
        generalize hnb : yr.length = nb at *
        have HC := Lib.hid (fun W (ha : Adds wr W) => And.intro (Adds.cellAt ha k0) (And.intro (Adds.cellAt ha k1) (And.intro (Adds.cellAt ha r0) (And.intro (Adds.cellAt ha r1) (And.intro (Adds.cellAt ha s0) (Adds.cellAt ha s1))))))
        have HX := Lib.hid hx
        have HY := Lib.hid hy
        clear hx hy rc sc hna hnb hk hlt r0 r1 s0 s1
        by_cases hz : z1 = z2
        · subst hz
          by_cases hr : xr = yr
          · subst hr
            have HI := Lib.hid (fun W (ha : Adds wr W) => by have h9 := HI0.out W ha; rw [decide_eq_true rfl] at h9; exact h9)
            clear HI0 HNo0
            go_wp2_with fail
            refine wp_region_loose [] (fun _ _ _ => True) Adds (by kernel_rfl) (by kernel_rfl) (by simp []) Adds.refl (fun _ _ _ h k => Adds.trans h k) (fun _ _ _ _ _ _ => trivial) ?_
            (repeat (refine wpL_step (fun K hK => ?_); first
              | (refine stepL_skip rfl rfl rfl ?_; go_simp; refine hK _ ?_; clear hK K)
              | (refine stepL_ex (v := .bool true) rfl rfl rfl Adds.refl ?_ ?_; (· (intro w' hw'; clear hK; go_simp; done)); go_simp; refine hK _ ?_; clear hK K)
              | (refine stepL_ex (v := .bool false) rfl rfl rfl Adds.refl ?_ ?_; (· (intro w' hw'; clear hK; go_simp; done)); go_simp; refine hK _ ?_; clear hK K)
              | (refine stepL_ex rfl rfl rfl Adds.refl (fun w' hw' => rfl) ?_; go_simp; refine hK _ ?_; clear hK K)
              | (refine stepL_ex (v := .slice (some ⟨g, 0, none⟩) N cap) rfl rfl rfl Adds.refl ?_ ?_; (· (intro w' hw'; clear hK; obtain ⟨c0, c1, c2, c3, c4, c5⟩ := HC.out w' (Adds.trans (Adds.drew _) hw'); go_simp; done)); go_simp; refine hK _ ?_; clear hK K)
              | (refine stepL_ex (v := .slice (some ⟨g', 0, none⟩) N cap') rfl rfl rfl Adds.refl ?_ ?_; (· (intro w' hw'; clear hK; obtain ⟨c0, c1, c2, c3, c4, c5⟩ := HC.out w' (Adds.trans (Adds.drew _) hw'); go_simp; done)); go_simp; refine hK _ ?_; clear hK K)
              | (refine stepL_ex (v := .pointer (some ⟨g, k * 2, none⟩)) rfl rfl rfl Adds.refl ?_ ?_; (· (intro w' hw'; clear hK; go_simp; done)); go_simp; refine hK _ ?_; clear hK K)
              | (refine stepL_ex (v := .pointer (some ⟨g', k * 2, none⟩)) rfl rfl rfl Adds.refl ?_ ?_; (· (intro w' hw'; clear hK; go_simp; done)); go_simp; refine hK _ ?_; clear hK K)
              | (refine stepL_ex (v := .int .i64 z1) rfl rfl rfl Adds.refl ?_ ?_; (· (intro w' hw'; clear hK; obtain ⟨c0, c1, c2, c3, c4, c5⟩ := HC.out w' (Adds.trans (Adds.drew _) hw'); go_simp; done)); go_simp; refine hK _ ?_; clear hK K)
              | (refine stepL_ex (v := .slice ao na cq) rfl rfl rfl Adds.refl ?_ ?_; (· (intro w' hw'; clear hK; obtain ⟨c0, c1, c2, c3, c4, c5⟩ := HC.out w' (Adds.trans (Adds.drew _) hw'); go_simp; done)); go_simp; refine hK _ ?_; clear hK K)
              | (refine stepL_ex (v := .slice bo nb dq) rfl rfl rfl Adds.refl ?_ ?_; (· (intro w' hw'; clear hK; obtain ⟨c0, c1, c2, c3, c4, c5⟩ := HC.out w' (Adds.trans (Adds.drew _) hw'); go_simp; done)); go_simp; refine hK _ ?_; clear hK K)
              | (refine stepL_call (v := .bool true) (f := 36) (args := #[.slice ao na cq, .slice bo nb dq]) rfl rfl rfl ?_ (fun w' hw' => HI.out w' (Adds.trans (Adds.drew _) hw')) ?_; (· (intro w'; clear hK; go_simp)); go_simp; refine hK _ ?_; clear hK K)))
            refine wpL_nil ?_
            intro w7 a7
            simp only [forL]
            have A7 := Lib.hid (Adds.trans (Adds.drew _) a7)
            obtain ⟨c0, c1, c2, c3, c4, c5⟩ := HC.out w7 A7.out
            clear a7
            simp only [Exit.then]
            go_simp
            go_wp2
            go_roundw
            case rel => exact ⟨k + 1, by go_num, HLt.out, Lib.hid (take_next HT.out HX.out HY.out), Adds.trans HA.out A7.out⟩
            case measure => simp [intOf]; have := HLt.out; omega
          · have HNo := Lib.hid (HNo0.out (fun e => hr (by injection e)))
            have HI := Lib.hid (fun W (ha : Adds wr W) => by have h9 := HI0.out W ha; rw [decide_eq_false hr] at h9; exact h9)
            clear HI0 HNo0 hr
            go_wp2_with fail
            refine wp_region_loose [] (fun _ _ _ => True) Adds (by kernel_rfl) (by kernel_rfl) (by simp []) Adds.refl (fun _ _ _ h k => Adds.trans h k) (fun _ _ _ _ _ _ => trivial) ?_
            (repeat (refine wpL_step (fun K hK => ?_); first
              | (refine stepL_skip rfl rfl rfl ?_; go_simp; refine hK _ ?_; clear hK K)
              | (refine stepL_ex (v := .bool true) rfl rfl rfl Adds.refl ?_ ?_; (· (intro w' hw'; clear hK; go_simp; done)); go_simp; refine hK _ ?_; clear hK K)
              | (refine stepL_ex (v := .bool false) rfl rfl rfl Adds.refl ?_ ?_; (· (intro w' hw'; clear hK; go_simp; done)); go_simp; refine hK _ ?_; clear hK K)
              | (refine stepL_ex rfl rfl rfl Adds.refl (fun w' hw' => rfl) ?_; go_simp; refine hK _ ?_; clear hK K)
              | (refine stepL_ex (v := .slice (some ⟨g, 0, none⟩) N cap) rfl rfl rfl Adds.refl ?_ ?_; (· (intro w' hw'; clear hK; obtain ⟨c0, c1, c2, c3, c4, c5⟩ := HC.out w' (Adds.trans (Adds.drew _) hw'); go_simp; done)); go_simp; refine hK _ ?_; clear hK K)
              | (refine stepL_ex (v := .slice (some ⟨g', 0, none⟩) N cap') rfl rfl rfl Adds.refl ?_ ?_; (· (intro w' hw'; clear hK; obtain ⟨c0, c1, c2, c3, c4, c5⟩ := HC.out w' (Adds.trans (Adds.drew _) hw'); go_simp; done)); go_simp; refine hK _ ?_; clear hK K)
              | (refine stepL_ex (v := .pointer (some ⟨g, k * 2, none⟩)) rfl rfl rfl Adds.refl ?_ ?_; (· (intro w' hw'; clear hK; go_simp; done)); go_simp; refine hK _ ?_; clear hK K)
              | (refine stepL_ex (v := .pointer (some ⟨g', k * 2, none⟩)) rfl rfl rfl Adds.refl ?_ ?_; (· (intro w' hw'; clear hK; go_simp; done)); go_simp; refine hK _ ?_; clear hK K)
              | (refine stepL_ex (v := .int .i64 z1) rfl rfl rfl Adds.refl ?_ ?_; (· (intro w' hw'; clear hK; obtain ⟨c0, c1, c2, c3, c4, c5⟩ := HC.out w' (Adds.trans (Adds.drew _) hw'); go_simp; done)); go_simp; refine hK _ ?_; clear hK K)
              | (refine stepL_ex (v := .slice ao na cq) rfl rfl rfl Adds.refl ?_ ?_; (· (intro w' hw'; clear hK; obtain ⟨c0, c1, c2, c3, c4, c5⟩ := HC.out w' (Adds.trans (Adds.drew _) hw'); go_simp; done)); go_simp; refine hK _ ?_; clear hK K)
              | (refine stepL_ex (v := .slice bo nb dq) rfl rfl rfl Adds.refl ?_ ?_; (· (intro w' hw'; clear hK; obtain ⟨c0, c1, c2, c3, c4, c5⟩ := HC.out w' (Adds.trans (Adds.drew _) hw'); go_simp; done)); go_simp; refine hK _ ?_; clear hK K)
              | (refine stepL_call (v := .bool false) (f := 36) (args := #[.slice ao na cq, .slice bo nb dq]) rfl rfl rfl ?_ (fun w' hw' => HI.out w' (Adds.trans (Adds.drew _) hw')) ?_; (· (intro w'; clear hK; go_simp)); go_simp; refine hK _ ?_; clear hK K)))
            refine wpL_nil ?_
            intro w7 a7
            simp only [forL]
            have A7 := Lib.hid (Adds.trans (Adds.drew _) a7)
            obtain ⟨c0, c1, c2, c3, c4, c5⟩ := HC.out w7 A7.out
            clear a7
            simp only [Exit.then]
            go_simp
            go_wp2
            go_ret
            rw [sameLs_no HNo.out]
            exact ⟨rfl, Adds.trans HAB.out (Adds.trans HA.out A7.out)⟩
        · have HNo := Lib.hid (HNo0.out (fun e => hz (by injection e)))
          clear HI0 HNo0
          go_wp2_with fail
          refine wp_region_loose [] (fun _ _ _ => True) Adds (by kernel_rfl) (by kernel_rfl) (by simp []) Adds.refl (fun _ _ _ h k => Adds.trans h k) (fun _ _ _ _ _ _ => trivial) ?_
          (repeat (refine wpL_step (fun K hK => ?_); first
            | (refine stepL_skip rfl rfl rfl ?_; go_simp; refine hK _ ?_; clear hK K)
            | (refine stepL_ex (v := .bool true) rfl rfl rfl Adds.refl ?_ ?_; (· (intro w' hw'; clear hK; go_simp; done)); go_simp; refine hK _ ?_; clear hK K)
            | (refine stepL_ex (v := .bool false) rfl rfl rfl Adds.refl ?_ ?_; (· (intro w' hw'; clear hK; go_simp; done)); go_simp; refine hK _ ?_; clear hK K)
            | (refine stepL_ex rfl rfl rfl Adds.refl (fun w' hw' => rfl) ?_; go_simp; refine hK _ ?_; clear hK K)
            | (refine stepL_ex (v := .slice (some ⟨g, 0, none⟩) N cap) rfl rfl rfl Adds.refl ?_ ?_; (· (intro w' hw'; clear hK; obtain ⟨c0, c1, c2, c3, c4, c5⟩ := HC.out w' (Adds.trans (Adds.drew _) hw'); go_simp; done)); go_simp; refine hK _ ?_; clear hK K)
            | (refine stepL_ex (v := .slice (some ⟨g', 0, none⟩) N cap') rfl rfl rfl Adds.refl ?_ ?_; (· (intro w' hw'; clear hK; obtain ⟨c0, c1, c2, c3, c4, c5⟩ := HC.out w' (Adds.trans (Adds.drew _) hw'); go_simp; done)); go_simp; refine hK _ ?_; clear hK K)
            | (refine stepL_ex (v := .pointer (some ⟨g, k * 2, none⟩)) rfl rfl rfl Adds.refl ?_ ?_; (· (intro w' hw'; clear hK; go_simp; done)); go_simp; refine hK _ ?_; clear hK K)
            | (refine stepL_ex (v := .pointer (some ⟨g', k * 2, none⟩)) rfl rfl rfl Adds.refl ?_ ?_; (· (intro w' hw'; clear hK; go_simp; done)); go_simp; refine hK _ ?_; clear hK K)
            | (refine stepL_ex (v := .int .i64 z1) rfl rfl rfl Adds.refl ?_ ?_; (· (intro w' hw'; clear hK; obtain ⟨c0, c1, c2, c3, c4, c5⟩ := HC.out w' (Adds.trans (Adds.drew _) hw'); go_simp; done)); go_simp; refine hK _ ?_; clear hK K)
            | (refine stepL_ex (v := .int .i64 z2) rfl rfl rfl Adds.refl ?_ ?_; (· (intro w' hw'; clear hK; obtain ⟨c0, c1, c2, c3, c4, c5⟩ := HC.out w' (Adds.trans (Adds.drew _) hw'); go_simp; done)); go_simp; refine hK _ ?_; clear hK K)))
          refine wpL_nil ?_
          intro w7 a7
          simp only [forL]
          have A7 := Lib.hid (Adds.trans (Adds.drew _) a7)
          obtain ⟨c0, c1, c2, c3, c4, c5⟩ := HC.out w7 A7.out
          clear a7
          simp only [Exit.then]
          go_simp
          go_wp2
          go_ret
          rw [sameLs_no HNo.out]
          exact ⟨rfl, Adds.trans HAB.out (Adds.trans HA.out A7.out)⟩
      · have hge : ¬ (k : Int) < (N : Int) := by omega
        have HE := Lib.hid (show ls = ls' by
          have h9 := HT.out
          rwa [List.take_of_length_le (by rw [HN.out]; omega), List.take_of_length_le (by rw [HN'.out]; omega)] at h9)
        clear hlt hk
        go_wp2
        go_ret
        rw [sameLs_yes HE.out]
        exact ⟨rfl, Adds.trans HAB.out HA.out⟩
  · rw [sameLs_no (fun e => he (by rw [e]))]
    have hne : ¬ (ls.length : Int) = (ls'.length : Int) := by omega
    generalize ls.length = a at *
    generalize ls'.length = b at *
    clear HR HR' hl he
    go_enter Try.func17, Try.ntmps17
    go_wp2
    go_ret
    exact ⟨rfl, HAB.out⟩
end Go.Proofs.Ytedllkahalfjgaa
