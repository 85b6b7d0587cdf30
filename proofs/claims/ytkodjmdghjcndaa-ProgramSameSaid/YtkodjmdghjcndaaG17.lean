/- Same: contract. -/
import Derived.Test.YtkodjmdghjcndaaG16
namespace Go.Proofs.Ytkodjmdghjcndaa
open Go Go.RowKit Go.Shelf

/-- Are two lists of functions the same? -/
noncomputable def sameFs (fs gs : List Fu) : Bool := @decide (fs = gs) (Classical.propDecidable _)
theorem sameFs_yes {fs gs : List Fu} (h : fs = gs) : sameFs fs gs = true := by unfold sameFs; exact @decide_eq_true _ (Classical.propDecidable _) h
theorem sameFs_no {fs gs : List Fu} (h : ¬ fs = gs) : sameFs fs gs = false := by unfold sameFs; exact @decide_eq_false _ (Classical.propDecidable _) h
set_option maxRecDepth 100000 in
set_option maxHeartbeats 4000000 in
theorem eqFuncs_any {n m : Nat} (ao bo : Option Addr) (ca cb : Nat) (fs gs : List Fu) (w : World) (hc : FuncsW n w (.slice ao fs.length ca) fs) (hd : FuncsW m w (.slice bo gs.length cb) gs) :
    Calls Try.prog 23 #[.slice ao fs.length ca, .slice bo gs.length cb, .func (.func 24) #[] #[]] w fun e w' => e = .returned (.bool (sameFs fs gs)) ∧ Adds w w' := by
  have HC := Lib.hid hc
  have HD := Lib.hid hd
  have hcl : fs.length ≤ maxLen := by obtain ⟨_, _, e, h1, h2, _⟩ := hc; simp only [Value.slice.injEq, true_and] at e; obtain ⟨rfl, rfl⟩ := e; omega
  unfold maxLen at hcl
  by_cases hl : fs.length = gs.length
  · rw [← hl] at HD ⊢
    obtain ⟨cl, hcl'⟩ : ∃ cl, fs.length = cl := ⟨_, rfl⟩
    have HCl := Lib.hid hcl'
    have hcI : (cl : Int) ≤ 9223372036854775807 := by omega
    have HL := Lib.hid hl
    rw [hcl'] at HC HD ⊢
    clear hcl hcl' hl hc hd
    go_enter Try.func23, Try.ntmps23
    go_wp2
    go_loopw [17] (fun i wr => ∃ k : Nat, i = .int .i64 k ∧ k ≤ cl ∧ Hid (fs.take k = gs.take k) ∧ Adds w wr) (fun i _ => cl + 1 - (intOf i).toNat)
    case atStart => exact ⟨0, rfl, Nat.zero_le _, Lib.hid (by simp), Adds.refl _⟩
    case round =>
      obtain ⟨k, rfl, hk, HT, hA⟩ := hrel
      have HA := Lib.hid hA
      clear hA
      by_cases hlt : k < cl
      · obtain ⟨g, off, rfl, _, hx⟩ := (show FuncsW w.heap.size wr (.slice ao fs.length ca) fs by have h := HC.out.adds HA.out; rw [← HCl.out] at h; exact h).at (i := k) (by rw [HCl.out]; exact hlt)
        obtain ⟨g', off', rfl, _, hy⟩ := (show FuncsW w.heap.size wr (.slice bo gs.length cb) gs by have h := HD.out.adds HA.out; rw [← HCl.out, HL.out] at h; exact h).at (i := k) (by rw [← HL.out, HCl.out]; exact hlt)
        obtain ⟨⟨r, c⟩, hX⟩ : ∃ X, fs.getD k zF = X := ⟨_, rfl⟩
        obtain ⟨⟨q, d⟩, hY⟩ : ∃ Y, gs.getD k zF = Y := ⟨_, rfl⟩
        rw [hX] at hx
        rw [hY] at hy
        have HX := Lib.hid hX
        have HY := Lib.hid hY
        obtain ⟨i0, u, i1, hcu, _⟩ := hx
        obtain ⟨j0, v, j1, hcv, _⟩ := hy
        simp only at i0 i1 hcu j0 j1 hcv
        obtain ⟨ac, cc, rfl, _, _⟩ := hcu.form
        obtain ⟨ad, cd, rfl, _, _⟩ := hcv.form
        have HS0 := fun W (h : Adds wr W) => sameF_any r q ac ad cc cd c d W (hcu.adds h) (hcv.adds h)
        obtain ⟨b, hb⟩ : ∃ b, sameF (r, c) (q, d) = b := ⟨_, rfl⟩
        rw [hb] at HS0
        have HB := Lib.hid hb
        generalize c.length = lc at *
        generalize d.length = ld at *
        have HS := Lib.hid HS0
        have HLt := Lib.hid hlt
        have hltI : (k : Int) < (cl : Int) := by omega
        obtain ⟨wz, hwz⟩ : ∃ wz, wr.alloc (.cells #[.int .i64 r, .slice ac lc cc] 40) = wz := ⟨_, rfl⟩
        have AZ := Lib.hid (show Adds wr wz by rw [← hwz]; exact (Gr.new _ _).adds)
        have BZ := Lib.hid (show BkS 40 wz wr.heap.size [.int .i64 r, .slice ac lc cc] by rw [← hwz]; exact BkS.new _ _ _)
        have l0 : wz.cell? _ = _ := AZ.out.cellAt j0
        have l1 : wz.cell? _ = _ := AZ.out.cellAt j1
        obtain ⟨wy, hwy⟩ : ∃ wy, wz.alloc (.cells #[.int .i64 q, .slice ad ld cd] 40) = wy := ⟨_, rfl⟩
        have AY := Lib.hid (show Adds wz wy by rw [← hwy]; exact (Gr.new _ _).adds)
        have BY := Lib.hid (show BkS 40 wy wz.heap.size [.int .i64 q, .slice ad ld cd] by rw [← hwy]; exact BkS.new _ _ _)
        have m0 : wy.cell? ⟨wr.heap.size, 0, none⟩ = some (.int .i64 r) := (BZ.out.adds AY.out).cell 0
        have m1 : wy.cell? ⟨wr.heap.size, 1, none⟩ = some (.slice ac lc cc) := (BZ.out.adds AY.out).cell 1
        have n0 : wy.cell? ⟨wz.heap.size, 0, none⟩ = some (.int .i64 q) := BY.out.cell 0
        have n1 : wy.cell? ⟨wz.heap.size, 1, none⟩ = some (.slice ad ld cd) := BY.out.cell 1
        clear HS0 hcu hcv hX hY hb hlt hk
        cases b
        · go_wp2_with (go_at_call 24; refine (HS.out _ (Adds.trans AZ.out AY.out)).mono ?_; rintro e w3 ⟨rfl, qa⟩; have A3 := Lib.hid (Adds.trans (Adds.trans AZ.out AY.out) qa); clear qa)
          go_ret
          rw [sameFs_no (fun h => by
            have h1 := HX.out
            rw [h, HY.out] at h1
            have h2 := sameF_iff.2 h1.symm
            rw [HB.out] at h2
            cases h2)]
          exact ⟨rfl, Adds.trans HA.out A3.out⟩
        · go_wp2_with (go_at_call 24; refine (HS.out _ (Adds.trans AZ.out AY.out)).mono ?_; rintro e w3 ⟨rfl, qa⟩; have A3 := Lib.hid (Adds.trans (Adds.trans AZ.out AY.out) qa); clear qa)
          go_roundw
          case rel => exact ⟨k + 1, by go_num, HLt.out, Lib.hid (take_next zF fs gs k HT.out (by rw [HCl.out]; exact HLt.out) (by rw [← HL.out, HCl.out]; exact HLt.out) (by rw [HX.out, HY.out]; exact sameF_iff.1 HB.out)), Adds.trans HA.out A3.out⟩
          case measure => simp [intOf]; have := HLt.out; omega
      · have hge : ¬ (k : Int) < (cl : Int) := by omega
        have e : fs = gs := by
          have h := HT.out
          rwa [List.take_of_length_le (by rw [HCl.out]; omega), List.take_of_length_le (by rw [← HL.out, HCl.out]; omega)] at h
        have HE := Lib.hid e
        clear hlt hk e
        go_wp2
        go_ret
        rw [sameFs_yes HE.out]
        exact ⟨rfl, HA.out⟩
  · rw [sameFs_no (fun h => hl (by rw [h]))]
    have hlI : ¬ (fs.length : Int) = (gs.length : Int) := by omega
    go_enter Try.func23, Try.ntmps23
    go_wp2
    go_ret
    exact ⟨rfl, Adds.refl _⟩
end Go.Proofs.Ytkodjmdghjcndaa
