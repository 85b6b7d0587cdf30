/- Merged: G16, G17. -/
import Derived.Test.YthhegcngkpfcoaaGreatY11
import Derived.Test.YthhegcngkpfcoaaGreatY8
namespace Go.Proofs.YthhegcngkpfcoaaGreat
open Go Go.RowKit Go.Shelf

theorem take_next {α : Type} (z : α) (a b : List α) (k : Nat) (h : a.take k = b.take k) (ha : k < a.length) (hb : k < b.length) (hx : a.getD k z = b.getD k z) : a.take (k + 1) = b.take (k + 1) := by
  rw [List.take_add_one, List.take_add_one, h]
  rw [List.getD_eq_getElem?_getD, List.getD_eq_getElem?_getD, List.getElem?_eq_getElem ha, List.getElem?_eq_getElem hb] at hx
  rw [List.getElem?_eq_getElem ha, List.getElem?_eq_getElem hb]
  simp only [Option.getD_some] at hx
  rw [hx]
set_option maxRecDepth 100000 in
set_option maxHeartbeats 4000000 in
theorem eqIns_any {n m : Nat} (ao bo : Option Addr) (ca cb : Nat) (c d : List In) (w : World) (hc : CodeW n w (.slice ao c.length ca) c) (hd : CodeW m w (.slice bo d.length cb) d) :
    Calls Tryz.prog 81 #[.slice ao c.length ca, .slice bo d.length cb] w fun e w' => e = .returned (.bool (decide (c = d))) ∧ Adds w w' := by
  have HC := Lib.hid hc
  have HD := Lib.hid hd
  obtain ⟨_, _, _, hcl, hcm⟩ := hc.form
  unfold maxLen at hcm
  by_cases hl : c.length = d.length
  · rw [← hl] at HD ⊢
    obtain ⟨cl, hcl'⟩ : ∃ cl, c.length = cl := ⟨_, rfl⟩
    have HCl := Lib.hid hcl'
    have hcI : (cl : Int) ≤ 9223372036854775807 := by omega
    have HL := Lib.hid hl
    rw [hcl'] at HC HD ⊢
    clear hcl hcm hcl' hl hc hd
    go_enter Tryz.func81, Tryz.ntmps81
    go_wp2
    go_loopw [13] (fun i wr => ∃ k : Nat, i = .int .i64 k ∧ k ≤ cl ∧ Hid (c.take k = d.take k) ∧ Adds w wr) (fun i _ => cl + 1 - (intOf i).toNat)
    case atStart => exact ⟨0, rfl, Nat.zero_le _, Lib.hid (by simp), Adds.refl _⟩
    case round =>
      obtain ⟨k, rfl, hk, HT, hA⟩ := hrel
      have HA := Lib.hid hA
      clear hA
      by_cases hlt : k < cl
      · obtain ⟨g, off, rfl, _, hx⟩ := (show CodeW w.heap.size wr (.slice ao c.length ca) c by have h := HC.out.adds HA.out; rw [← HCl.out] at h; exact h).at (i := k) (by rw [HCl.out]; exact hlt)
        obtain ⟨g', off', rfl, _, hy⟩ := (show CodeW w.heap.size wr (.slice bo d.length cb) d by have h := HD.out.adds HA.out; rw [← HCl.out, HL.out] at h; exact h).at (i := k) (by rw [← HL.out, HCl.out]; exact hlt)
        obtain ⟨X, hX⟩ : ∃ X, c.getD k zI = X := ⟨_, rfl⟩
        obtain ⟨Y, hY⟩ : ∃ Y, d.getD k zI = Y := ⟨_, rfl⟩
        rw [hX] at hx
        rw [hY] at hy
        have HX := Lib.hid hX
        have HY := Lib.hid hY
        have NE0 := fun W => ins_neq X Y W
        obtain ⟨b, hb⟩ : ∃ b, eqI X Y = b := ⟨_, rfl⟩
        rw [hb] at NE0
        have HB := Lib.hid hb
        have HLt := Lib.hid hlt
        obtain ⟨x0, x1, x2, x3, x4⟩ := X
        obtain ⟨y0, y1, y2, y3, y4⟩ := Y
        obtain ⟨i0, i1, i2, i3, i4⟩ := hx
        obtain ⟨j0, j1, j2, j3, j4⟩ := hy
        simp only at i0 i1 i2 i3 i4 j0 j1 j2 j3 j4
        have NE : ∀ W, (binOp .neq 37 (.agg #[.int .i64 x0, .int .i64 x1, .int .i64 x2, .int .i64 x3, .int .u32 x4]) (.agg #[.int .i64 y0, .int .i64 y1, .int .i64 y2, .int .i64 y3, .int .u32 y4])).run Tryz.prog W = .ok (.bool (!b)) W := NE0
        have hltI : (k : Int) < (cl : Int) := by omega
        clear NE0 hX hY hb hlt hk
        cases b
        · go_wp2
          go_region
          go_wp2
          go_ret
          rw [decide_eq_false (fun h => by
            have h1 := HX.out
            rw [h, HY.out] at h1
            have h2 := eqI_iff.2 h1.symm
            rw [HB.out] at h2
            cases h2)]
          exact ⟨rfl, Adds.trans HA.out (Adds.drew _)⟩
        · go_wp2
          go_region
          go_wp2
          go_roundw
          case rel => exact ⟨k + 1, by go_num, HLt.out, Lib.hid (take_next zI c d k HT.out (by rw [HCl.out]; exact HLt.out) (by rw [← HL.out, HCl.out]; exact HLt.out) (by rw [HX.out, HY.out]; exact eqI_iff.1 HB.out)), Adds.trans HA.out (Adds.drew _)⟩
          case measure => simp [intOf]; have := HLt.out; omega
      · have hge : ¬ (k : Int) < (cl : Int) := by omega
        have e : c = d := by
          have h := HT.out
          rwa [List.take_of_length_le (by rw [HCl.out]; omega), List.take_of_length_le (by rw [← HL.out, HCl.out]; omega)] at h
        have HE := Lib.hid e
        clear hlt hk e
        go_wp2
        go_ret
        rw [decide_eq_true HE.out]
        exact ⟨rfl, HA.out⟩
  · rw [decide_eq_false (fun h => hl (by rw [h]))]
    have hlI : ¬ (c.length : Int) = (d.length : Int) := by omega
    go_enter Tryz.func81, Tryz.ntmps81
    go_wp2
    go_ret
    exact ⟨rfl, Adds.refl _⟩
def sameF (f g : Fu) : Bool := decide (f.1 = g.1) && decide (f.2 = g.2)
theorem sameF_iff {f g : Fu} : sameF f g = true ↔ f = g := by
  obtain ⟨a, b⟩ := f
  obtain ⟨c, d⟩ := g
  simp [sameF]
set_option maxRecDepth 100000 in
set_option maxHeartbeats 4000000 in
theorem sameF_any {n m : Nat} (r q : Int) (ao bo : Option Addr) (ca cb : Nat) (c d : List In) (w : World) (hc : CodeW n w (.slice ao c.length ca) c) (hd : CodeW m w (.slice bo d.length cb) d) :
    Calls Tryz.prog 80 #[.agg #[.int .i64 r, .slice ao c.length ca], .agg #[.int .i64 q, .slice bo d.length cb]] w fun e w' => e = .returned (.bool (sameF (r, c) (q, d))) ∧ Adds w w' := by
  obtain ⟨w1, hw1⟩ : ∃ w1, w.alloc (.cells #[.int .i64 r, .slice ao c.length ca] 72) = w1 := ⟨_, rfl⟩
  have A1 := Lib.hid (show Adds w w1 by rw [← hw1]; exact (Gr.new _ _).adds)
  have B1 := Lib.hid (show BkS 72 w1 w.heap.size [.int .i64 r, .slice ao c.length ca] by rw [← hw1]; exact BkS.new _ _ _)
  obtain ⟨w2, hw2⟩ : ∃ w2, w1.alloc (.cells #[.int .i64 q, .slice bo d.length cb] 72) = w2 := ⟨_, rfl⟩
  have A2 := Lib.hid (show Adds w1 w2 by rw [← hw2]; exact (Gr.new _ _).adds)
  have B2 := Lib.hid (show BkS 72 w2 w1.heap.size [.int .i64 q, .slice bo d.length cb] by rw [← hw2]; exact BkS.new _ _ _)
  have A12 := Lib.hid (Adds.trans A1.out A2.out)
  have p1 := B1.out.adds A2.out
  have b0 : w2.cell? ⟨w.heap.size, 0, none⟩ = some (.int .i64 r) := p1.cell 0
  have b1 : w2.cell? ⟨w.heap.size, 1, none⟩ = some (.slice ao c.length ca) := p1.cell 1
  have c0 : w2.cell? ⟨w1.heap.size, 0, none⟩ = some (.int .i64 q) := B2.out.cell 0
  have c1 : w2.cell? ⟨w1.heap.size, 1, none⟩ = some (.slice bo d.length cb) := B2.out.cell 1
  have HE0 := eqIns_any ao bo ca cb c d w2 (hc.adds A12.out) (hd.adds A12.out)
  unfold sameF
  generalize decide (c = d) = b at HE0 ⊢
  have HE := Lib.hid HE0
  clear HE0 p1 hc hd
  by_cases hr : r = q
  · subst hr
    go_enter Tryz.func80, Tryz.ntmps80
    go_wp2_with (go_at_call 81; refine HE.out.mono ?_; rintro e w3 ⟨rfl, q⟩; have A3 := Lib.hid q; clear q)
    go_ret
    simp only [decide_true, Bool.true_and]
    exact ⟨rfl, Adds.trans A12.out A3.out⟩
  · go_enter Tryz.func80, Tryz.ntmps80
    go_wp2
    go_ret
    rw [decide_eq_false hr]
    exact ⟨rfl, A12.out⟩
end Go.Proofs.YthhegcngkpfcoaaGreat
namespace Go.Proofs.YthhegcngkpfcoaaGreat
open Go Go.RowKit Go.Shelf

/-- Are two lists of functions the same? -/
noncomputable def sameFs (fs gs : List Fu) : Bool := @decide (fs = gs) (Classical.propDecidable _)
theorem sameFs_yes {fs gs : List Fu} (h : fs = gs) : sameFs fs gs = true := by unfold sameFs; exact @decide_eq_true _ (Classical.propDecidable _) h
theorem sameFs_no {fs gs : List Fu} (h : ¬ fs = gs) : sameFs fs gs = false := by unfold sameFs; exact @decide_eq_false _ (Classical.propDecidable _) h
set_option maxRecDepth 100000 in
set_option maxHeartbeats 4000000 in
theorem eqFuncs_any {n m : Nat} (ao bo : Option Addr) (ca cb : Nat) (fs gs : List Fu) (w : World) (hc : FuncsW n w (.slice ao fs.length ca) fs) (hd : FuncsW m w (.slice bo gs.length cb) gs) :
    Calls Tryz.prog 79 #[.slice ao fs.length ca, .slice bo gs.length cb, .func (.func 80) #[] #[]] w fun e w' => e = .returned (.bool (sameFs fs gs)) ∧ Adds w w' := by
  have HC := Lib.hid hc
  have HD := Lib.hid hd
  have hcl : fs.length ≤ maxLen := by obtain ⟨_, _, e, h1, h2, _⟩ := hc; simp only [Value.slice.injEq, true_and] at e; obtain ⟨rfl, rfl⟩ := e; omega
  unfold maxLen at hcl
  by_cases hl : fs.length = gs.length
  · rw [← hl] at HD ⊢
    obtain ⟨cl, hcl'⟩ : ∃ cl, fs.length = cl := ⟨_, rfl⟩
    have HCl := Lib.hid hcl'
    have hcI : (cl : Int) ≤ 9223372036854775807 := by omega
    have HL := Lib.hid hl
    rw [hcl'] at HC HD ⊢
    clear hcl hcl' hl hc hd
    go_enter Tryz.func79, Tryz.ntmps79
    go_wp2
    go_loopw [17] (fun i wr => ∃ k : Nat, i = .int .i64 k ∧ k ≤ cl ∧ Hid (fs.take k = gs.take k) ∧ Adds w wr) (fun i _ => cl + 1 - (intOf i).toNat)
    case atStart => exact ⟨0, rfl, Nat.zero_le _, Lib.hid (by simp), Adds.refl _⟩
    case round =>
      obtain ⟨k, rfl, hk, HT, hA⟩ := hrel
      have HA := Lib.hid hA
      clear hA
      by_cases hlt : k < cl
      · obtain ⟨g, off, rfl, _, hx⟩ := (show FuncsW w.heap.size wr (.slice ao fs.length ca) fs by have h := HC.out.adds HA.out; rw [← HCl.out] at h; exact h).at (i := k) (by rw [HCl.out]; exact hlt)
        obtain ⟨g', off', rfl, _, hy⟩ := (show FuncsW w.heap.size wr (.slice bo gs.length cb) gs by have h := HD.out.adds HA.out; rw [← HCl.out, HL.out] at h; exact h).at (i := k) (by rw [← HL.out, HCl.out]; exact hlt)
        obtain ⟨⟨r, c⟩, hX⟩ : ∃ X, fs.getD k zF = X := ⟨_, rfl⟩
        obtain ⟨⟨q, d⟩, hY⟩ : ∃ Y, gs.getD k zF = Y := ⟨_, rfl⟩
        rw [hX] at hx
        rw [hY] at hy
        have HX := Lib.hid hX
        have HY := Lib.hid hY
        obtain ⟨i0, u, i1, hcu, _⟩ := hx
        obtain ⟨j0, v, j1, hcv, _⟩ := hy
        simp only at i0 i1 hcu j0 j1 hcv
        obtain ⟨ac, cc, rfl, _, _⟩ := hcu.form
        obtain ⟨ad, cd, rfl, _, _⟩ := hcv.form
        have HS0 := fun W (h : Adds wr W) => sameF_any r q ac ad cc cd c d W (hcu.adds h) (hcv.adds h)
        obtain ⟨b, hb⟩ : ∃ b, sameF (r, c) (q, d) = b := ⟨_, rfl⟩
        rw [hb] at HS0
        have HB := Lib.hid hb
        generalize c.length = lc at *
        generalize d.length = ld at *
        have HS := Lib.hid HS0
        have HLt := Lib.hid hlt
        have hltI : (k : Int) < (cl : Int) := by omega
        obtain ⟨wz, hwz⟩ : ∃ wz, wr.alloc (.cells #[.int .i64 r, .slice ac lc cc] 72) = wz := ⟨_, rfl⟩
        have AZ := Lib.hid (show Adds wr wz by rw [← hwz]; exact (Gr.new _ _).adds)
        have BZ := Lib.hid (show BkS 72 wz wr.heap.size [.int .i64 r, .slice ac lc cc] by rw [← hwz]; exact BkS.new _ _ _)
        have l0 : wz.cell? _ = _ := AZ.out.cellAt j0
        have l1 : wz.cell? _ = _ := AZ.out.cellAt j1
        obtain ⟨wy, hwy⟩ : ∃ wy, wz.alloc (.cells #[.int .i64 q, .slice ad ld cd] 72) = wy := ⟨_, rfl⟩
        have AY := Lib.hid (show Adds wz wy by rw [← hwy]; exact (Gr.new _ _).adds)
        have BY := Lib.hid (show BkS 72 wy wz.heap.size [.int .i64 q, .slice ad ld cd] by rw [← hwy]; exact BkS.new _ _ _)
        have m0 : wy.cell? ⟨wr.heap.size, 0, none⟩ = some (.int .i64 r) := (BZ.out.adds AY.out).cell 0
        have m1 : wy.cell? ⟨wr.heap.size, 1, none⟩ = some (.slice ac lc cc) := (BZ.out.adds AY.out).cell 1
        have n0 : wy.cell? ⟨wz.heap.size, 0, none⟩ = some (.int .i64 q) := BY.out.cell 0
        have n1 : wy.cell? ⟨wz.heap.size, 1, none⟩ = some (.slice ad ld cd) := BY.out.cell 1
        clear HS0 hcu hcv hX hY hb hlt hk
        cases b
        · go_wp2_with (go_at_call 80; refine (HS.out _ (Adds.trans AZ.out AY.out)).mono ?_; rintro e w3 ⟨rfl, qa⟩; have A3 := Lib.hid (Adds.trans (Adds.trans AZ.out AY.out) qa); clear qa)
          go_ret
          rw [sameFs_no (fun h => by
            have h1 := HX.out
            rw [h, HY.out] at h1
            have h2 := sameF_iff.2 h1.symm
            rw [HB.out] at h2
            cases h2)]
          exact ⟨rfl, Adds.trans HA.out A3.out⟩
        · go_wp2_with (go_at_call 80; refine (HS.out _ (Adds.trans AZ.out AY.out)).mono ?_; rintro e w3 ⟨rfl, qa⟩; have A3 := Lib.hid (Adds.trans (Adds.trans AZ.out AY.out) qa); clear qa)
          go_roundw
          case rel => exact ⟨k + 1, by go_num, HLt.out, Lib.hid (take_next zF fs gs k HT.out (by rw [HCl.out]; exact HLt.out) (by rw [← HL.out, HCl.out]; exact HLt.out) (by rw [HX.out, HY.out]; exact sameF_iff.1 HB.out)), Adds.trans HA.out A3.out⟩
          case measure => simp [intOf]; have := HLt.out; omega
      · have hge : ¬ (k : Int) < (cl : Int) := by omega
        have e : fs = gs := by
          have h := HT.out
          rwa [List.take_of_length_le (by rw [HCl.out]; omega), List.take_of_length_le (by rw [← HL.out, HCl.out]; omega)] at h
        have HE := Lib.hid e
        clear hlt hk e
        go_wp2
        go_ret
        rw [sameFs_yes HE.out]
        exact ⟨rfl, HA.out⟩
  · rw [sameFs_no (fun h => hl (by rw [h]))]
    have hlI : ¬ (fs.length : Int) = (gs.length : Int) := by omega
    go_enter Tryz.func79, Tryz.ntmps79
    go_wp2
    go_ret
    exact ⟨rfl, Adds.refl _⟩
end Go.Proofs.YthhegcngkpfcoaaGreat
