/- Merged: G16, G17, G18, GS2, M9x. -/
import Derived.Test.YtdkgehhlikaocaaGreatY6
import Derived.Test.YtdkgehhlikaocaaGreatY4
import Derived.Test.YtdkgehhlikaocaaGreatY10
import Derived.Maps.AppendAt
namespace Go.Proofs.YtdkgehhlikaocaaGreat
open Go Go.RowKit Go.Shelf

theorem take_next {α : Type} (z : α) (a b : List α) (k : Nat) (h : a.take k = b.take k) (ha : k < a.length) (hb : k < b.length) (hx : a.getD k z = b.getD k z) : a.take (k + 1) = b.take (k + 1) := by
  rw [List.take_add_one, List.take_add_one, h]
  rw [List.getD_eq_getElem?_getD, List.getD_eq_getElem?_getD, List.getElem?_eq_getElem ha, List.getElem?_eq_getElem hb] at hx
  rw [List.getElem?_eq_getElem ha, List.getElem?_eq_getElem hb]
  simp only [Option.getD_some] at hx
  rw [hx]
set_option maxRecDepth 100000 in
set_option maxHeartbeats 4000000 in
theorem eqIns_any {n m : Nat} (ao bo : Option Addr) (ca cb : Nat) (c d : List In) (w : World) (hc : CodeW n w (.slice ao c.length ca) c) (hd : CodeW m w (.slice bo d.length cb) d) :
    Calls Tryz.prog 83 #[.slice ao c.length ca, .slice bo d.length cb] w fun e w' => e = .returned (.bool (decide (c = d))) ∧ Adds w w' := by
  have HC := Lib.hid hc
  have HD := Lib.hid hd
  obtain ⟨_, _, _, hcl, hcm⟩ := hc.form
  unfold maxLen at hcm
  by_cases hl : c.length = d.length
  · rw [← hl] at HD ⊢
    obtain ⟨cl, hcl'⟩ : ∃ cl, c.length = cl := ⟨_, rfl⟩
    have HCl := Lib.hid hcl'
    have hcI : (cl : Int) ≤ 9223372036854775807 := by omega
    have HL := Lib.hid hl
    rw [hcl'] at HC HD ⊢
    clear hcl hcm hcl' hl hc hd
    go_enter Tryz.func83, Tryz.ntmps83
    go_wp2
    go_loopw [13] (fun i wr => ∃ k : Nat, i = .int .i64 k ∧ k ≤ cl ∧ Hid (c.take k = d.take k) ∧ Adds w wr) (fun i _ => cl + 1 - (intOf i).toNat)
    case atStart => exact ⟨0, rfl, Nat.zero_le _, Lib.hid (by simp), Adds.refl _⟩
    case round =>
      obtain ⟨k, rfl, hk, HT, hA⟩ := hrel
      have HA := Lib.hid hA
      clear hA
      by_cases hlt : k < cl
      · obtain ⟨g, off, rfl, _, hx⟩ := (show CodeW w.heap.size wr (.slice ao c.length ca) c by have h := HC.out.adds HA.out; rw [← HCl.out] at h; exact h).at (i := k) (by rw [HCl.out]; exact hlt)
        obtain ⟨g', off', rfl, _, hy⟩ := (show CodeW w.heap.size wr (.slice bo d.length cb) d by have h := HD.out.adds HA.out; rw [← HCl.out, HL.out] at h; exact h).at (i := k) (by rw [← HL.out, HCl.out]; exact hlt)
        obtain ⟨X, hX⟩ : ∃ X, c.getD k zI = X := ⟨_, rfl⟩
        obtain ⟨Y, hY⟩ : ∃ Y, d.getD k zI = Y := ⟨_, rfl⟩
        rw [hX] at hx
        rw [hY] at hy
        have HX := Lib.hid hX
        have HY := Lib.hid hY
        have NE0 := fun W => ins_neq X Y W
        obtain ⟨b, hb⟩ : ∃ b, eqI X Y = b := ⟨_, rfl⟩
        rw [hb] at NE0
        have HB := Lib.hid hb
        have HLt := Lib.hid hlt
        obtain ⟨x0, x1, x2, x3, x4⟩ := X
        obtain ⟨y0, y1, y2, y3, y4⟩ := Y
        obtain ⟨i0, i1, i2, i3, i4⟩ := hx
        obtain ⟨j0, j1, j2, j3, j4⟩ := hy
        simp only at i0 i1 i2 i3 i4 j0 j1 j2 j3 j4
        have NE : ∀ W, (binOp .neq 56 (.agg #[.int .i64 x0, .int .i64 x1, .int .i64 x2, .int .i64 x3, .int .u32 x4]) (.agg #[.int .i64 y0, .int .i64 y1, .int .i64 y2, .int .i64 y3, .int .u32 y4])).run Tryz.prog W = .ok (.bool (!b)) W := NE0
        have hltI : (k : Int) < (cl : Int) := by omega
        clear NE0 hX hY hb hlt hk
        cases b
        · go_wp2
          go_region
          go_wp2
          go_ret
          rw [decide_eq_false (fun h => by
            have h1 := HX.out
            rw [h, HY.out] at h1
            have h2 := eqI_iff.2 h1.symm
            rw [HB.out] at h2
            cases h2)]
          exact ⟨rfl, Adds.trans HA.out (Adds.drew _)⟩
        · go_wp2
          go_region
          go_wp2
          go_roundw
          case rel => exact ⟨k + 1, by go_num, HLt.out, Lib.hid (take_next zI c d k HT.out (by rw [HCl.out]; exact HLt.out) (by rw [← HL.out, HCl.out]; exact HLt.out) (by rw [HX.out, HY.out]; exact eqI_iff.1 HB.out)), Adds.trans HA.out (Adds.drew _)⟩
          case measure => simp [intOf]; have := HLt.out; omega
      · have hge : ¬ (k : Int) < (cl : Int) := by omega
        have e : c = d := by
          have h := HT.out
          rwa [List.take_of_length_le (by rw [HCl.out]; omega), List.take_of_length_le (by rw [← HL.out, HCl.out]; omega)] at h
        have HE := Lib.hid e
        clear hlt hk e
        go_wp2
        go_ret
        rw [decide_eq_true HE.out]
        exact ⟨rfl, HA.out⟩
  · rw [decide_eq_false (fun h => hl (by rw [h]))]
    have hlI : ¬ (c.length : Int) = (d.length : Int) := by omega
    go_enter Tryz.func83, Tryz.ntmps83
    go_wp2
    go_ret
    exact ⟨rfl, Adds.refl _⟩
def sameF (f g : Fu) : Bool := decide (f.1 = g.1) && decide (f.2 = g.2)
theorem sameF_iff {f g : Fu} : sameF f g = true ↔ f = g := by
  obtain ⟨a, b⟩ := f
  obtain ⟨c, d⟩ := g
  simp [sameF]
set_option maxRecDepth 100000 in
set_option maxHeartbeats 4000000 in
theorem sameF_any {n m : Nat} (r q : Int) (ao bo : Option Addr) (ca cb : Nat) (c d : List In) (w : World) (hc : CodeW n w (.slice ao c.length ca) c) (hd : CodeW m w (.slice bo d.length cb) d) :
    Calls Tryz.prog 82 #[.agg #[.int .i64 r, .slice ao c.length ca], .agg #[.int .i64 q, .slice bo d.length cb]] w fun e w' => e = .returned (.bool (sameF (r, c) (q, d))) ∧ Adds w w' := by
  obtain ⟨w1, hw1⟩ : ∃ w1, w.alloc (.cells #[.int .i64 r, .slice ao c.length ca] 46) = w1 := ⟨_, rfl⟩
  have A1 := Lib.hid (show Adds w w1 by rw [← hw1]; exact (Gr.new _ _).adds)
  have B1 := Lib.hid (show BkS 46 w1 w.heap.size [.int .i64 r, .slice ao c.length ca] by rw [← hw1]; exact BkS.new _ _ _)
  obtain ⟨w2, hw2⟩ : ∃ w2, w1.alloc (.cells #[.int .i64 q, .slice bo d.length cb] 46) = w2 := ⟨_, rfl⟩
  have A2 := Lib.hid (show Adds w1 w2 by rw [← hw2]; exact (Gr.new _ _).adds)
  have B2 := Lib.hid (show BkS 46 w2 w1.heap.size [.int .i64 q, .slice bo d.length cb] by rw [← hw2]; exact BkS.new _ _ _)
  have A12 := Lib.hid (Adds.trans A1.out A2.out)
  have p1 := B1.out.adds A2.out
  have b0 : w2.cell? ⟨w.heap.size, 0, none⟩ = some (.int .i64 r) := p1.cell 0
  have b1 : w2.cell? ⟨w.heap.size, 1, none⟩ = some (.slice ao c.length ca) := p1.cell 1
  have c0 : w2.cell? ⟨w1.heap.size, 0, none⟩ = some (.int .i64 q) := B2.out.cell 0
  have c1 : w2.cell? ⟨w1.heap.size, 1, none⟩ = some (.slice bo d.length cb) := B2.out.cell 1
  have HE0 := eqIns_any ao bo ca cb c d w2 (hc.adds A12.out) (hd.adds A12.out)
  unfold sameF
  generalize decide (c = d) = b at HE0 ⊢
  have HE := Lib.hid HE0
  clear HE0 p1 hc hd
  by_cases hr : r = q
  · subst hr
    go_enter Tryz.func82, Tryz.ntmps82
    go_wp2_with (go_at_call 83; refine HE.out.mono ?_; rintro e w3 ⟨rfl, q⟩; have A3 := Lib.hid q; clear q)
    go_ret
    simp only [decide_true, Bool.true_and]
    exact ⟨rfl, Adds.trans A12.out A3.out⟩
  · go_enter Tryz.func82, Tryz.ntmps82
    go_wp2
    go_ret
    rw [decide_eq_false hr]
    exact ⟨rfl, A12.out⟩
end Go.Proofs.YtdkgehhlikaocaaGreat
namespace Go.Proofs.YtdkgehhlikaocaaGreat
open Go Go.RowKit Go.Shelf

/-- Are two lists of functions the same? -/
noncomputable def sameFs (fs gs : List Fu) : Bool := @decide (fs = gs) (Classical.propDecidable _)
theorem sameFs_yes {fs gs : List Fu} (h : fs = gs) : sameFs fs gs = true := by unfold sameFs; exact @decide_eq_true _ (Classical.propDecidable _) h
theorem sameFs_no {fs gs : List Fu} (h : ¬ fs = gs) : sameFs fs gs = false := by unfold sameFs; exact @decide_eq_false _ (Classical.propDecidable _) h
set_option maxRecDepth 100000 in
set_option maxHeartbeats 4000000 in
theorem eqFuncs_any {n m : Nat} (ao bo : Option Addr) (ca cb : Nat) (fs gs : List Fu) (w : World) (hc : FuncsW n w (.slice ao fs.length ca) fs) (hd : FuncsW m w (.slice bo gs.length cb) gs) :
    Calls Tryz.prog 81 #[.slice ao fs.length ca, .slice bo gs.length cb, .func (.func 82) #[] #[]] w fun e w' => e = .returned (.bool (sameFs fs gs)) ∧ Adds w w' := by
  have HC := Lib.hid hc
  have HD := Lib.hid hd
  have hcl : fs.length ≤ maxLen := by obtain ⟨_, _, e, h1, h2, _⟩ := hc; simp only [Value.slice.injEq, true_and] at e; obtain ⟨rfl, rfl⟩ := e; omega
  unfold maxLen at hcl
  by_cases hl : fs.length = gs.length
  · rw [← hl] at HD ⊢
    obtain ⟨cl, hcl'⟩ : ∃ cl, fs.length = cl := ⟨_, rfl⟩
    have HCl := Lib.hid hcl'
    have hcI : (cl : Int) ≤ 9223372036854775807 := by omega
    have HL := Lib.hid hl
    rw [hcl'] at HC HD ⊢
    clear hcl hcl' hl hc hd
    go_enter Tryz.func81, Tryz.ntmps81
    go_wp2
    go_loopw [17] (fun i wr => ∃ k : Nat, i = .int .i64 k ∧ k ≤ cl ∧ Hid (fs.take k = gs.take k) ∧ Adds w wr) (fun i _ => cl + 1 - (intOf i).toNat)
    case atStart => exact ⟨0, rfl, Nat.zero_le _, Lib.hid (by simp), Adds.refl _⟩
    case round =>
      obtain ⟨k, rfl, hk, HT, hA⟩ := hrel
      have HA := Lib.hid hA
      clear hA
      by_cases hlt : k < cl
      · obtain ⟨g, off, rfl, _, hx⟩ := (show FuncsW w.heap.size wr (.slice ao fs.length ca) fs by have h := HC.out.adds HA.out; rw [← HCl.out] at h; exact h).at (i := k) (by rw [HCl.out]; exact hlt)
        obtain ⟨g', off', rfl, _, hy⟩ := (show FuncsW w.heap.size wr (.slice bo gs.length cb) gs by have h := HD.out.adds HA.out; rw [← HCl.out, HL.out] at h; exact h).at (i := k) (by rw [← HL.out, HCl.out]; exact hlt)
        obtain ⟨⟨r, c⟩, hX⟩ : ∃ X, fs.getD k zF = X := ⟨_, rfl⟩
        obtain ⟨⟨q, d⟩, hY⟩ : ∃ Y, gs.getD k zF = Y := ⟨_, rfl⟩
        rw [hX] at hx
        rw [hY] at hy
        have HX := Lib.hid hX
        have HY := Lib.hid hY
        obtain ⟨i0, u, i1, hcu, _⟩ := hx
        obtain ⟨j0, v, j1, hcv, _⟩ := hy
        simp only at i0 i1 hcu j0 j1 hcv
        obtain ⟨ac, cc, rfl, _, _⟩ := hcu.form
        obtain ⟨ad, cd, rfl, _, _⟩ := hcv.form
        have HS0 := fun W (h : Adds wr W) => sameF_any r q ac ad cc cd c d W (hcu.adds h) (hcv.adds h)
        obtain ⟨b, hb⟩ : ∃ b, sameF (r, c) (q, d) = b := ⟨_, rfl⟩
        rw [hb] at HS0
        have HB := Lib.hid hb
        generalize c.length = lc at *
        generalize d.length = ld at *
        have HS := Lib.hid HS0
        have HLt := Lib.hid hlt
        have hltI : (k : Int) < (cl : Int) := by omega
        obtain ⟨wz, hwz⟩ : ∃ wz, wr.alloc (.cells #[.int .i64 r, .slice ac lc cc] 46) = wz := ⟨_, rfl⟩
        have AZ := Lib.hid (show Adds wr wz by rw [← hwz]; exact (Gr.new _ _).adds)
        have BZ := Lib.hid (show BkS 46 wz wr.heap.size [.int .i64 r, .slice ac lc cc] by rw [← hwz]; exact BkS.new _ _ _)
        have l0 : wz.cell? _ = _ := AZ.out.cellAt j0
        have l1 : wz.cell? _ = _ := AZ.out.cellAt j1
        obtain ⟨wy, hwy⟩ : ∃ wy, wz.alloc (.cells #[.int .i64 q, .slice ad ld cd] 46) = wy := ⟨_, rfl⟩
        have AY := Lib.hid (show Adds wz wy by rw [← hwy]; exact (Gr.new _ _).adds)
        have BY := Lib.hid (show BkS 46 wy wz.heap.size [.int .i64 q, .slice ad ld cd] by rw [← hwy]; exact BkS.new _ _ _)
        have m0 : wy.cell? ⟨wr.heap.size, 0, none⟩ = some (.int .i64 r) := (BZ.out.adds AY.out).cell 0
        have m1 : wy.cell? ⟨wr.heap.size, 1, none⟩ = some (.slice ac lc cc) := (BZ.out.adds AY.out).cell 1
        have n0 : wy.cell? ⟨wz.heap.size, 0, none⟩ = some (.int .i64 q) := BY.out.cell 0
        have n1 : wy.cell? ⟨wz.heap.size, 1, none⟩ = some (.slice ad ld cd) := BY.out.cell 1
        clear HS0 hcu hcv hX hY hb hlt hk
        cases b
        · go_wp2_with (go_at_call 82; refine (HS.out _ (Adds.trans AZ.out AY.out)).mono ?_; rintro e w3 ⟨rfl, qa⟩; have A3 := Lib.hid (Adds.trans (Adds.trans AZ.out AY.out) qa); clear qa)
          go_ret
          rw [sameFs_no (fun h => by
            have h1 := HX.out
            rw [h, HY.out] at h1
            have h2 := sameF_iff.2 h1.symm
            rw [HB.out] at h2
            cases h2)]
          exact ⟨rfl, Adds.trans HA.out A3.out⟩
        · go_wp2_with (go_at_call 82; refine (HS.out _ (Adds.trans AZ.out AY.out)).mono ?_; rintro e w3 ⟨rfl, qa⟩; have A3 := Lib.hid (Adds.trans (Adds.trans AZ.out AY.out) qa); clear qa)
          go_roundw
          case rel => exact ⟨k + 1, by go_num, HLt.out, Lib.hid (take_next zF fs gs k HT.out (by rw [HCl.out]; exact HLt.out) (by rw [← HL.out, HCl.out]; exact HLt.out) (by rw [HX.out, HY.out]; exact sameF_iff.1 HB.out)), Adds.trans HA.out A3.out⟩
          case measure => simp [intOf]; have := HLt.out; omega
      · have hge : ¬ (k : Int) < (cl : Int) := by omega
        have e : fs = gs := by
          have h := HT.out
          rwa [List.take_of_length_le (by rw [HCl.out]; omega), List.take_of_length_le (by rw [← HL.out, HCl.out]; omega)] at h
        have HE := Lib.hid e
        clear hlt hk e
        go_wp2
        go_ret
        rw [sameFs_yes HE.out]
        exact ⟨rfl, HA.out⟩
  · rw [sameFs_no (fun h => hl (by rw [h]))]
    have hlI : ¬ (fs.length : Int) = (gs.length : Int) := by omega
    go_enter Tryz.func81, Tryz.ntmps81
    go_wp2
    go_ret
    exact ⟨rfl, Adds.refl _⟩
end Go.Proofs.YtdkgehhlikaocaaGreat
namespace Go.Proofs.YtdkgehhlikaocaaGreat
open Go Go.RowKit Go.Shelf

/-- Are two programs the same? -/
noncomputable def samePg (p q : Pg) : Bool := decide (p.2.1 = q.2.1 ∧ p.2.2.1 = q.2.2.1 ∧ p.2.2.2 = q.2.2.2) && sameFs p.1 q.1
set_option maxRecDepth 100000 in
set_option maxHeartbeats 4000000 in
theorem same_any {n m : Nat} (u v : Value) (p q : Pg) (w : World) (hf : FuncsW n w u p.1) (hg : FuncsW m w v q.1) : Calls Tryz.prog 57 #[pgV u p, pgV v q] w fun e w' => e = .returned (.bool (samePg p q)) ∧ Adds w w' := by
  obtain ⟨fs, x1, x2, x3⟩ := p
  obtain ⟨gs, y1, y2, y3⟩ := q
  have hf' := hf
  have hg' := hg
  obtain ⟨ao, ca, rfl, _, _, _⟩ := hf'
  obtain ⟨bo, cb, rfl, _, _, _⟩ := hg'
  have HE0 := fun W (h : Adds w W) => eqFuncs_any ao bo ca cb fs gs W (hf.adds h) (hg.adds h)
  unfold samePg
  simp only at HE0 ⊢
  generalize sameFs fs gs = b at HE0 ⊢
  generalize fs.length = fl at HE0 ⊢
  generalize gs.length = gl at HE0 ⊢
  have HE := Lib.hid HE0
  clear HE0 hf hg
  obtain ⟨w1, hw1⟩ : ∃ w1, w.alloc (.cells #[.slice ao fl ca, .int .i64 x1, .int .i64 x2, .int .i64 x3] 24) = w1 := ⟨_, rfl⟩
  have A1 := Lib.hid (show Adds w w1 by rw [← hw1]; exact (Gr.new _ _).adds)
  have B1 := Lib.hid (show BkS 24 w1 w.heap.size [.slice ao fl ca, .int .i64 x1, .int .i64 x2, .int .i64 x3] by rw [← hw1]; exact BkS.new _ _ _)
  obtain ⟨w2, hw2⟩ : ∃ w2, w1.alloc (.cells #[.slice bo gl cb, .int .i64 y1, .int .i64 y2, .int .i64 y3] 24) = w2 := ⟨_, rfl⟩
  have A2 := Lib.hid (show Adds w1 w2 by rw [← hw2]; exact (Gr.new _ _).adds)
  have B2 := Lib.hid (show BkS 24 w2 w1.heap.size [.slice bo gl cb, .int .i64 y1, .int .i64 y2, .int .i64 y3] by rw [← hw2]; exact BkS.new _ _ _)
  have A12 := Lib.hid (Adds.trans A1.out A2.out)
  have p1 := B1.out.adds A2.out
  have b0 : w2.cell? ⟨w.heap.size, 0, none⟩ = some (.slice ao fl ca) := p1.cell 0
  have b1 : w2.cell? ⟨w.heap.size, 1, none⟩ = some (.int .i64 x1) := p1.cell 1
  have b2 : w2.cell? ⟨w.heap.size, 2, none⟩ = some (.int .i64 x2) := p1.cell 2
  have b3 : w2.cell? ⟨w.heap.size, 3, none⟩ = some (.int .i64 x3) := p1.cell 3
  have c0 : w2.cell? ⟨w1.heap.size, 0, none⟩ = some (.slice bo gl cb) := B2.out.cell 0
  have c1 : w2.cell? ⟨w1.heap.size, 1, none⟩ = some (.int .i64 y1) := B2.out.cell 1
  have c2 : w2.cell? ⟨w1.heap.size, 2, none⟩ = some (.int .i64 y2) := B2.out.cell 2
  have c3 : w2.cell? ⟨w1.heap.size, 3, none⟩ = some (.int .i64 y3) := B2.out.cell 3
  clear p1
  by_cases h1 : x1 = y1
  · by_cases h2 : x2 = y2
    · by_cases h3 : x3 = y3
      · subst h1 h2 h3
        go_enter Tryz.func57, Tryz.ntmps57
        go_wp2_with (go_at_call 81; refine (HE.out _ A12.out).mono ?_; rintro e w3 ⟨rfl, qa⟩; have A3 := Lib.hid qa; clear qa)
        go_ret
        simp only [and_self, decide_true, Bool.true_and]
        exact ⟨rfl, Adds.trans A12.out A3.out⟩
      · subst h1 h2
        rw [decide_eq_false (fun h => h3 h.2.2)]
        go_enter Tryz.func57, Tryz.ntmps57
        go_wp2
        go_ret
        exact ⟨rfl, A12.out⟩
    · subst h1
      rw [decide_eq_false (fun h => h2 h.2.1)]
      go_enter Tryz.func57, Tryz.ntmps57
      go_wp2
      go_ret
      exact ⟨rfl, A12.out⟩
  · rw [decide_eq_false (fun h => h1 h.1)]
    go_enter Tryz.func57, Tryz.ntmps57
    go_wp2
    go_ret
    exact ⟨rfl, A12.out⟩
end Go.Proofs.YtdkgehhlikaocaaGreat
namespace Go.Proofs.YtdkgehhlikaocaaGreat
open Go Go.RowKit Go.Shelf

theorem FuncsW.ok {n : Nat} {w : World} {v : Value} {fs : List Fu} (h : FuncsW n w v fs) : ∀ f ∈ fs, ∀ x ∈ f.2, OkIn x := by
  intro f hf
  obtain ⟨ao, cap, rfl, _, _, h3⟩ := h
  obtain ⟨g, off, _, _, hc⟩ := h3 (by rintro rfl; simp at hf)
  obtain ⟨i, hi, rfl⟩ := List.mem_iff_getElem.1 hf
  obtain ⟨_, _, _, _, hok⟩ := hc i hi
  rwa [List.getD_eq_getElem?_getD, List.getElem?_eq_getElem hi] at hok
theorem CopyO.adds {n : Nat} {w w' : World} {v : Value} {fs : List Fu} (h : CopyO n w v fs) (ha : Adds w w') : CopyO n w' v fs := by
  obtain ⟨r, h1, h2, h3⟩ := h
  exact ⟨r, h1.adds ha, h2, fun i hi => ⟨(h3 i hi).1, (h3 i hi).2.adds ha⟩⟩
/-- A copy that is written to: of the same lengths. -/
def ShapeW (B : Nat) (W : World) (v : Value) (fs : List Fu) : Prop :=
  ∃ r, RowO B W v r ∧ r.length = fs.length ∧ ∀ i, i < fs.length → ∃ zs, W.ownsRow B 56 5 (r.getD i zR).2 (fs.getD i zF).2.length zs
theorem ShapeW.adds {B : Nat} {W W' : World} {v : Value} {fs : List Fu} (h : ShapeW B W v fs) (ha : Adds W W') : ShapeW B W' v fs := by
  obtain ⟨r, h1, h2, h3⟩ := h
  exact ⟨r, h1.adds ha, h2, fun i hi => by obtain ⟨zs, hz⟩ := h3 i hi; exact ⟨zs, ownsRow_adds hz ha⟩⟩
theorem ShapeW.form {B : Nat} {W : World} {v : Value} {fs : List Fu} (h : ShapeW B W v fs) : ∃ ao cap, v = .slice ao fs.length cap ∧ cap ≤ maxLen ∧ (0 < fs.length → ∃ g, ao = some ⟨g, 0, none⟩) := by
  obtain ⟨r, h2, h3, _⟩ := h
  rcases h2.2 with ⟨rfl, h0⟩ | ⟨g, cap, cur, rfl, hg, hh, _, hm, _⟩
  · rw [h3] at h0
    rw [h0]
    exact ⟨none, 0, rfl, by simp [maxLen], fun h => absurd h (Nat.lt_irrefl 0)⟩
  · rw [h3]
    exact ⟨_, cap, rfl, hm, fun _ => ⟨g, rfl⟩⟩
theorem ShapeW.block {B : Nat} {W : World} {g cap : Nat} {fs : List Fu} (h : ShapeW B W (.slice (some ⟨g, 0, none⟩) fs.length cap) fs) : B ≤ g ∧ ∃ cur, W.heap[g]? = some (.cells cur 46 (0, 0)) := by
  obtain ⟨r, h2, h3, _⟩ := h
  rcases h2.2 with ⟨e, _⟩ | ⟨g', cap', cur, e, hg, hh, _⟩
  · cases e
  · simp only [Value.slice.injEq, Option.some.injEq, Addr.mk.injEq, and_true] at e
    obtain ⟨rfl, _⟩ := e
    exact ⟨hg, cur, hh⟩
/-- What stands of the i-th. -/
theorem ShapeW.at {B : Nat} {W : World} {g cap : Nat} {fs : List Fu} (h : ShapeW B W (.slice (some ⟨g, 0, none⟩) fs.length cap) fs) {i : Nat} (hi : i < fs.length) :
    ∃ x ah ch, W.cell? ⟨g, i * 2, none⟩ = some (.int .i64 x) ∧ W.frozen? ⟨g, i * 2, none⟩ = false ∧ W.cell? ⟨g, i * 2 + 1, none⟩ = some (.slice ah (fs.getD i zF).2.length ch) ∧
      ∀ k, k < (fs.getD i zF).2.length → ∃ b z, ah = some ⟨b, 0, none⟩ ∧ B ≤ b ∧ (∃ cur, W.heap[b]? = some (.cells cur 56 (0, 0))) ∧ W.cell? ⟨b, k * 5 + 1, none⟩ = some z ∧ W.frozen? ⟨b, k * 5 + 1, none⟩ = false := by
  obtain ⟨r, h2, h3, h4⟩ := h
  rw [← h3] at h2
  obtain ⟨k0, k1⟩ := h2.at (i := i) (by omega)
  obtain ⟨zs, hz⟩ := h4 i hi
  have hf := ownsRow_free h2 (i * 2)
  have hz' := hz
  rcases hz.2 with ⟨e, h0⟩ | ⟨b, ch, cur, e, hb, hh, _⟩
  · rw [e] at k1
    refine ⟨_, none, 0, k0, hf, by rw [h0]; exact k1, fun k hk => by omega⟩
  · rw [e] at k1 hz'
    refine ⟨_, _, ch, k0, hf, k1, fun k hk => ?_⟩
    have hl : k * 5 + 1 < zs.length := by rw [hz.1]; omega
    exact ⟨b, zs[k * 5 + 1], rfl, hb, ⟨cur, hh⟩, ownsRow_cell hz' _ (List.getElem?_eq_getElem hl), ownsRow_free hz' _⟩
theorem ShapeW.regs {B : Nat} {W : World} {g cap : Nat} {fs : List Fu} (h : ShapeW B W (.slice (some ⟨g, 0, none⟩) fs.length cap) fs) (i : Nat) (x : Int) : ShapeW B (W.setCell ⟨g, i * 2, none⟩ (.int .i64 x)) (.slice (some ⟨g, 0, none⟩) fs.length cap) fs := by
  obtain ⟨r, h2, h3, h4⟩ := h
  refine ⟨r.set i (x, (r.getD i zR).2), ?_, by simpa using h3, fun k hk => ?_⟩
  · unfold RowO at h2 ⊢
    rw [h3] at h2
    have h := ownsRow_set h2 (i * 2 + 0) (.int .i64 x)
    rw [flat_set fuC 2 fuC_len r i 0 (by decide) (.int .i64 x) (x, (r.getD i zR).2) (fun y hy => by rw [List.getD_eq_getElem?_getD, hy]; rfl)] at h
    rw [List.length_set, h3]
    exact h
  · obtain ⟨zs, hz⟩ := h4 k hk
    have e : ((r.set i (x, (r.getD i zR).2)).getD k zR).2 = (r.getD k zR).2 := by
      simp only [List.getD_eq_getElem?_getD]
      by_cases hik : i = k
      · subst hik
        rw [List.getElem?_set_self (by omega), List.getElem?_eq_getElem (by omega)]; rfl
      · rw [List.getElem?_set_ne hik]
    rw [e]
    exact ⟨zs, ownsRow_setCell_other hz (ownsRow_ne h2 hz (by decide) g rfl) _⟩
theorem ShapeW.code {B : Nat} {W : World} {v : Value} {fs : List Fu} {b : Nat} {cur : Array Value} (h : ShapeW B W v fs) (hb : W.heap[b]? = some (.cells cur 56 (0, 0))) (j : Nat) (u : Value) : ShapeW B (W.setCell ⟨b, j, none⟩ u) v fs := by
  obtain ⟨r, h2, h3, h4⟩ := h
  refine ⟨r, ?_, h3, fun k hk => ?_⟩
  · refine ownsRow_setCell_other h2 (fun hv => ?_) u
    rcases h2.2 with ⟨rfl, _⟩ | ⟨g, cap, cur', rfl, _, hh, _⟩
    · cases hv
    · simp only [Value.ownBlock, Option.some.injEq] at hv
      subst hv
      rw [hh] at hb
      simp only [Option.some.injEq, Obj.cells.injEq] at hb
      exact absurd hb.2.1 (by decide)
  · obtain ⟨zs, hz⟩ := h4 k hk
    exact ownsRow_any hz b j u
end Go.Proofs.YtdkgehhlikaocaaGreat
namespace Go.Proofs.YtdkgehhlikaocaaGreat
open Go Go.RowKit Go.Shelf

theorem BkS.tn {t : TypeId} {b c : Nat} {l : List Value} {w w' : World} (h : BkS t w c l) (ht : TnS b w w') (hb : c ≠ b) : BkS t w' c l := (ht.block c h.lt (fun e => hb (by cases e; rfl))).trans h
theorem ownsRow_tn {w w' : World} {base b : Nat} {e : TypeId} {size n : Nat} {v : Value} {xs : List Value} (h : w.ownsRow base e size v n xs) (ht : TnS b w w') (hb : v.ownBlock ≠ some b) : w'.ownsRow base e size v n xs := by
  obtain ⟨h1, h2⟩ := h
  refine ⟨h1, ?_⟩
  rcases h2 with h2 | ⟨g, cap, cur, hv, hg, hh, r⟩
  · exact Or.inl h2
  · subst hv
    exact Or.inr ⟨g, cap, cur, rfl, hg, (ht.block g (Array.getElem?_eq_some_iff.1 hh).1 (fun e => hb (by simpa [Value.ownBlock] using e))).trans hh, r⟩
theorem ownsRow_grown {w w' : World} {base : Nat} {row : Option Nat} {e : TypeId} {size n : Nat} {v : Value} {xs : List Value} (h : w.ownsRow base e size v n xs) (ht : w.grownBy w' row) (hb : ∀ g, v.ownBlock = some g → row ≠ some g) : w'.ownsRow base e size v n xs := by
  obtain ⟨h1, h2⟩ := h
  refine ⟨h1, ?_⟩
  rcases h2 with h2 | ⟨g, cap, cur, hv, hg, hh, r⟩
  · exact Or.inl h2
  · subst hv
    exact Or.inr ⟨g, cap, cur, rfl, hg, (ht.block g (Array.getElem?_eq_some_iff.1 hh).1 (fun e => hb g rfl e.symm)).trans hh, r⟩
theorem CodeO.tn {n b : Nat} {w w' : World} {v : Value} {c : List In} (h : CodeO n w v c) (ht : TnS b w w') (hb : b < n) : CodeO n w' v c :=
  ownsRow_tn h ht (fun e => by have := (World.ownsRow.lt h b e).1; omega)
theorem CodeO.nil (n : Nat) (w : World) : CodeO n w (.slice none 0 0) [] := World.ownsRow_nil _ _ _ _
theorem CodeO.lower {n m : Nat} {w : World} {v : Value} {c : List In} (h : CodeO n w v c) (hm : m ≤ n) : CodeO m w v c := by
  obtain ⟨h1, h2⟩ := h
  refine ⟨h1, ?_⟩
  rcases h2 with h2 | ⟨g, cap, cur, hv, hg, r⟩
  · exact Or.inl h2
  · exact Or.inr ⟨g, cap, cur, hv, Nat.le_trans hm hg, r⟩
theorem CodeO.form {n : Nat} {w : World} {v : Value} {c : List In} (h : CodeO n w v c) : ∃ ao cap, v = .slice ao c.length cap := by
  obtain ⟨ao, cap, e, _⟩ := h.code.form
  exact ⟨ao, cap, e⟩
theorem cell_newL (w : World) (l : List Value) (t : TypeId) : ∀ j u, l[j]? = some u → (w.alloc (.cells l.toArray t)).cell? ((⟨w.heap.size, 0, none⟩ : Addr).add j) = some u := by
  intro j u h
  have hadd : (⟨w.heap.size, 0, none⟩ : Addr).add j = ⟨w.heap.size, j, none⟩ := by unfold Addr.add; split <;> simp_all
  rw [hadd, (BkS.new t w l).cell j]
  exact h
theorem own_neT {w : World} {base b : Nat} {e t : TypeId} {size n : Nat} {v : Value} {xs l : List Value} (h : w.ownsRow base e size v n xs) (hb : BkS t w b l) (he : e ≠ t) : v.ownBlock ≠ some b := by
  intro hg
  rcases h.2 with ⟨rfl, _⟩ | ⟨k, cap, cur, rfl, _, hh, _⟩
  · cases hg
  · simp only [Value.ownBlock, Option.some.injEq] at hg
    subst hg
    unfold BkS at hb
    rw [hh] at hb
    simp only [Option.some.injEq, Obj.cells.injEq] at hb
    exact he hb.2.1
theorem BkS.grown {t : TypeId} {w w' : World} {b : Nat} {l : List Value} {row : Option Nat} (h : BkS t w b l) (hg : w.grownBy w' row) (hb : row ≠ some b) : BkS t w' b l := (hg.block b h.lt (fun e => hb e.symm)).trans h
theorem TnS.grown {b : Nat} {u v w : World} {row : Option Nat} (h : TnS b u v) (hc : ∀ c, row = some c → u.heap.size ≤ c) (k : v.grownBy w row) : TnS b u w :=
  ⟨k.os.trans h.os, k.tape.trans h.tape, k.output.trans h.output, Nat.le_trans h.size k.size, fun i hi hb => (k.block i (Nat.lt_of_lt_of_le hi h.size) (fun e => by have := hc i e.symm; omega)).trans (h.block i hi hb)⟩
theorem CopyO.form {n : Nat} {w : World} {v : Value} {fs : List Fu} (h : CopyO n w v fs) : ∃ ao cap, v = .slice ao fs.length cap := by
  obtain ⟨r, hR, hl, _⟩ := h
  obtain ⟨h1, h2⟩ := hR
  rcases h2 with ⟨rfl, h0⟩ | ⟨g, cap, cur, rfl, _⟩
  · have hc : fs = [] := by rw [hl] at h0; simpa using h0
    subst hc
    exact ⟨none, 0, rfl⟩
  · exact ⟨_, cap, by rw [hl]⟩
theorem CopyO.blk {n : Nat} {w w' : World} {v : Value} {fs : List Fu} {b : Nat} {t : TypeId} {l : List Value} (h : CopyO n w v fs) (hb : BkS t w b l) (h1 : 46 ≠ t) (h2 : 56 ≠ t) (ht : TnS b w w') : CopyO n w' v fs := by
  obtain ⟨r, hR, hl, hi⟩ := h
  exact ⟨r, ownsRow_tn hR ht (own_neT hR hb h1), hl, fun i hlt => ⟨(hi i hlt).1, ownsRow_tn (hi i hlt).2 ht (own_neT (hi i hlt).2 hb h2)⟩⟩
theorem CopyO.lt {n : Nat} {w : World} {v : Value} {fs : List Fu} (h : CopyO n w v fs) : ∀ c, v.ownBlock = some c → n ≤ c := by
  obtain ⟨r, hR, _⟩ := h
  exact fun c e => (World.ownsRow.lt hR c e).1
theorem BkS.row {w : World} {k : Nat} {t : TypeId} {l : List Value} (h : BkS t w k l) : ∀ j u, l[j]? = some u → w.cell? ((⟨k, 0, none⟩ : Addr).add j) = some u := by
  intro j u hj
  have hadd : (⟨k, 0, none⟩ : Addr).add j = ⟨k, j, none⟩ := by unfold Addr.add; split <;> simp_all
  rw [hadd, h.cell j]
  exact hj
end Go.Proofs.YtdkgehhlikaocaaGreat
