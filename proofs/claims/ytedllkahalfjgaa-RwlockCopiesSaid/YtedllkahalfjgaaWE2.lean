/- slices.EqualFunc of locks, same, Same: their contracts. -/
import Derived.Test.YtedllkahalfjgaaWE1
namespace Go.Proofs.Ytedllkahalfjgaa
open Go Go.RowKit

noncomputable def sameLs (l l' : List Lk) : Bool := @decide (l = l') (Classical.propDecidable _)
theorem sameLs_yes {l l' : List Lk} (h : l = l') : sameLs l l' = true := by unfold sameLs; exact @decide_eq_true _ (Classical.propDecidable _) h
theorem sameLs_no {l l' : List Lk} (h : ¬ l = l') : sameLs l l' = false := by unfold sameLs; exact @decide_eq_false _ (Classical.propDecidable _) h
set_option maxRecDepth 100000 in
set_option maxHeartbeats 4000000 in
theorem eqLocks_any {m m' : Nat} {u v : Value} {bp bl bp' bl' : Nat} {lv lu : List LM} (w : World) (hc : LocksP m w u bp bl lv) (hd : LocksP m' w v bp' bl' lu) :
    Calls Try.prog 81 #[.slice (some ⟨bl, 0, none⟩) lv.length lv.length, .slice (some ⟨bl', 0, none⟩) lu.length lu.length, .func (.func 82) #[] #[]] w fun e w' => e = .returned (.bool (sameLs (lv.map LM.lk) (lu.map LM.lk))) ∧ Adds w w' := by
  have HC := Lib.hid hc
  have HD := Lib.hid hd
  have hcm := hc.len
  by_cases hl : lv.length = lu.length
  · obtain ⟨cl, hcl'⟩ : ∃ cl, lv.length = cl := ⟨_, rfl⟩
    have HCl := Lib.hid hcl'
    have hcI : (cl : Int) ≤ 64 := by omega
    have HL := Lib.hid hl
    rw [← hl, hcl']
    clear hcm hcl' hl hc hd
    go_enter Try.func81, Try.ntmps81
    go_wp2
    go_loopw [17] (fun i wr => ∃ k : Nat, i = .int .i64 k ∧ k ≤ cl ∧ Hid ((lv.map LM.lk).take k = (lu.map LM.lk).take k) ∧ Adds w wr) (fun i _ => cl + 1 - (intOf i).toNat)
    case atStart => exact ⟨0, rfl, Nat.zero_le _, Lib.hid (by simp), Adds.refl _⟩
    case round =>
      obtain ⟨k, rfl, hk, HT, hA⟩ := hrel
      have HA := Lib.hid hA
      clear hA
      by_cases hlt : k < cl
      · obtain ⟨x, hx⟩ : ∃ x, lv[k]? = some x := ⟨_, List.getElem?_eq_getElem (by rw [HCl.out]; exact hlt)⟩
        obtain ⟨y, hy⟩ : ∃ y, lu[k]? = some y := ⟨_, List.getElem?_eq_getElem (by rw [← HL.out, HCl.out]; exact hlt)⟩
        have hC := HC.out.adds HA.out
        have hD := HD.out.adds HA.out
        obtain ⟨i0, i1, i2⟩ := hC.at_ hx
        obtain ⟨j0, j1, j2⟩ := hD.at_ hy
        have HX := Lib.hid hx; have HY := Lib.hid hy
        have HS0 := fun W (ha : Adds wr W) => alike_any x y W ((hC.row k x hx).adds ha) ((hD.row k y hy).adds ha) (hC.ok x (List.mem_of_getElem? hx)).1 (hD.ok y (List.mem_of_getElem? hy)).1
        obtain ⟨ao, ca, e1, _, _⟩ := (hC.row k x hx).form
        obtain ⟨bo, cb, e2, _, _⟩ := (hD.row k y hy).form
        rw [e1] at i0 HS0
        rw [e2] at j0 HS0
        obtain ⟨b, hb⟩ : ∃ b, sameLk x.lk y.lk = b := ⟨_, rfl⟩
        rw [hb] at HS0
        have HB := Lib.hid hb
        generalize x.lk.rd.length = n1 at *
        generalize y.lk.rd.length = n2 at *
        generalize whoW x.lk.wr = z1 at *
        generalize whoW y.lk.wr = z2 at *
        generalize decide (x.lk.wr ≠ 0) = q1 at *
        generalize decide (y.lk.wr ≠ 0) = q2 at *
        have HS := Lib.hid HS0
        have HLt := Lib.hid hlt
        have hltI : (k : Int) < (cl : Int) := by omega
        obtain ⟨wz, hwz⟩ : ∃ wz, wr.alloc (.cells #[.slice ao n1 ca, .int .i64 z1, .bool q1] 91) = wz := ⟨_, rfl⟩
        have AZ := Lib.hid (show Adds wr wz by rw [← hwz]; exact (Gr.new _ _).adds)
        have BZ := Lib.hid (show BkS 91 wz wr.heap.size [.slice ao n1 ca, .int .i64 z1, .bool q1] by rw [← hwz]; exact BkS.new _ _ _)
        have l0 : wz.cell? _ = _ := Adds.cellAt AZ.out j0
        have l1 : wz.cell? _ = _ := Adds.cellAt AZ.out j1
        have l2 : wz.cell? _ = _ := Adds.cellAt AZ.out j2
        obtain ⟨wy, hwy⟩ : ∃ wy, wz.alloc (.cells #[.slice bo n2 cb, .int .i64 z2, .bool q2] 91) = wy := ⟨_, rfl⟩
        have AY := Lib.hid (show Adds wz wy by rw [← hwy]; exact (Gr.new _ _).adds)
        have BY := Lib.hid (show BkS 91 wy wz.heap.size [.slice bo n2 cb, .int .i64 z2, .bool q2] by rw [← hwy]; exact BkS.new _ _ _)
        have m0 : wy.cell? ⟨wr.heap.size, 0, none⟩ = some (.slice ao n1 ca) := (BZ.out.adds AY.out).cell 0
        have m1 : wy.cell? ⟨wr.heap.size, 1, none⟩ = some (.int .i64 z1) := (BZ.out.adds AY.out).cell 1
        have m2 : wy.cell? ⟨wr.heap.size, 2, none⟩ = some (.bool q1) := (BZ.out.adds AY.out).cell 2
        have n0 : wy.cell? ⟨wz.heap.size, 0, none⟩ = some (.slice bo n2 cb) := BY.out.cell 0
        have n1 : wy.cell? ⟨wz.heap.size, 1, none⟩ = some (.int .i64 z2) := BY.out.cell 1
        have n2 : wy.cell? ⟨wz.heap.size, 2, none⟩ = some (.bool q2) := BY.out.cell 2
        clear HS0 hC hD e1 e2 hx hy hb hlt hk
        cases b
        · go_wp2_with (go_at_call 82; refine (HS.out _ (Adds.trans AZ.out AY.out)).mono ?_; rintro e w3 ⟨rfl, qa⟩; have A3 := Lib.hid (Adds.trans (Adds.trans AZ.out AY.out) qa); clear qa)
          go_ret
          rw [sameLs_no (fun h => by
            have h1 := congrArg (fun l => l[k]?) h
            simp only [List.getElem?_map, HX.out, HY.out, Option.map_some, Option.some.injEq] at h1
            have h2 := sameLk_iff.2 h1
            rw [HB.out] at h2
            cases h2)]
          exact ⟨rfl, Adds.trans HA.out A3.out⟩
        · go_wp2_with (go_at_call 82; refine (HS.out _ (Adds.trans AZ.out AY.out)).mono ?_; rintro e w3 ⟨rfl, qa⟩; have A3 := Lib.hid (Adds.trans (Adds.trans AZ.out AY.out) qa); clear qa)
          go_roundw
          case rel => exact ⟨k + 1, by go_num, HLt.out, Lib.hid (take_next (x := x.lk) HT.out (by rw [List.getElem?_map, HX.out]; rfl) (by rw [List.getElem?_map, HY.out, sameLk_iff.1 HB.out]; rfl)), Adds.trans HA.out A3.out⟩
          case measure => simp [intOf]; have := HLt.out; omega
      · have hge : ¬ (k : Int) < (cl : Int) := by omega
        have e : lv.map LM.lk = lu.map LM.lk := by
          have h := HT.out
          rwa [List.take_of_length_le (by rw [List.length_map, HCl.out]; omega), List.take_of_length_le (by rw [List.length_map, ← HL.out, HCl.out]; omega)] at h
        have HE := Lib.hid e
        clear hlt hk e
        go_wp2
        go_ret
        rw [sameLs_yes HE.out]
        exact ⟨rfl, HA.out⟩
  · rw [sameLs_no (fun h => hl (by have := congrArg List.length h; simpa using this))]
    have hlI : ¬ (lv.length : Int) = (lu.length : Int) := by omega
    generalize lv.length = a at *
    generalize lu.length = b at *
    clear hc hd HC HD hcm hl
    go_enter Try.func81, Try.ntmps81
    go_wp2
    go_ret
    exact ⟨rfl, Adds.refl w⟩
theorem sameList_any {m m' : Nat} {u v : Value} {bp bl bp' bl' : Nat} {lv lu : List LM} (w : World) (hc : LocksP m w u bp bl lv) (hd : LocksP m' w v bp' bl' lu) :
    Calls Try.prog 54 #[.pointer (some ⟨bl, 0, none⟩), .pointer (some ⟨bl', 0, none⟩)] w fun e w' => e = .returned (.bool (sameLs (lv.map LM.lk) (lu.map LM.lk))) ∧ Adds w w' := by
  have HA1 := Lib.hid (allW_any bl lv.length hc.len w hc.cm)
  have HA2 := Lib.hid (fun W (ha : Adds w W) => allW_any bl' lu.length hd.len W (hd.adds ha).cm)
  have HQ := Lib.hid (fun W (ha : Adds w W) => eqLocks_any W (hc.adds ha) (hd.adds ha))
  generalize lv.length = a at *
  generalize lu.length = b at *
  generalize sameLs (lv.map LM.lk) (lu.map LM.lk) = r at *
  clear hc hd
  go_enter Try.func54, Try.ntmps54
  go_wp2_with (first
    | (go_at_call 79; refine HA1.out.mono ?_; clear HA1; rintro e w1 ⟨rfl, ha⟩; have HB1 := Lib.hid ha.adds; clear ha)
    | (go_at_call 79; refine (HA2.out _ HB1.out).mono ?_; clear HA2; rintro e w2 ⟨rfl, ha⟩; have HB2 := Lib.hid (Adds.trans HB1.out ha.adds); clear ha)
    | (go_at_call 81; refine (HQ.out _ HB2.out).mono ?_; rintro e w3 ⟨rfl, ha⟩; have HB3 := Lib.hid (Adds.trans HB2.out ha); clear ha))
  go_ret
  exact ⟨rfl, HB3.out⟩
theorem sameW_some {m m' : Nat} {u v : Value} {O O' : Nat → Prop} {l l' : List Lk} {w : World} (h : HasL m w u O l) (h' : HasL m' w v O' l') :
    Calls Try.prog 18 #[u, v] w fun e w' => e = .returned (.bool (sameLs l l')) ∧ Adds w w' := by
  obtain ⟨bp, bl, lv, hp, _, rfl⟩ := h
  obtain ⟨bp', bl', lu, hp', _, rfl⟩ := h'
  obtain rfl := hp.ptr
  obtain rfl := hp'.ptr
  have c0 := hp.c0
  have d0 := hp'.c0
  have e0 : w.drew.cell? _ = _ := c0
  have f0 : w.drew.cell? _ = _ := d0
  have HN1 := Lib.hid (isNoneW_full bp bl w hp.c0)
  have HN2 := Lib.hid (isNoneW_full bp' bl' w hp'.c0)
  have HS := Lib.hid (sameList_any w.drew (hp.adds (Adds.drew w)) (hp'.adds (Adds.drew w)))
  generalize sameLs (lv.map LM.lk) (lu.map LM.lk) = r at *
  clear hp hp'
  go_enter Try.func18, Try.ntmps18
  go_wp2_with (first
    | (go_at_call 52; refine HN1.out.mono ?_; clear HN1; rintro e w1 ⟨rfl, rfl⟩)
    | (go_at_call 52; refine HN2.out.mono ?_; clear HN2; rintro e w1 ⟨rfl, rfl⟩))
  go_region_with (go_at_call 54; refine HS.out.mono ?_; rintro e w3 ⟨rfl, ha⟩; have HB3 := Lib.hid (Adds.trans (Adds.drew w) ha); clear ha)
  all_goals
    simp only [Exit.then]
    go_simp
    go_wp2
    go_ret
    exact ⟨rfl, HB3.out⟩
end Go.Proofs.Ytedllkahalfjgaa
