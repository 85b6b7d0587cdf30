/- Each's sequence: a range over clocks that hands each one's epoch on. -/
import Derived.Test.YtlbloehhmpnkgaaDoorKE1
import Derived.Test.YtlbloehhmpnkgaaDoorInvIn
namespace Go.Proofs.YtlbloehhmpnkgaaDoor
open Go Go.RowKit Go.Shelf
attribute [local go_sem] Oper.semAt_some

theorem keepC_stable2 (M : Nat → Prop) {B : Nat} {W : World} (hB : W.heap.size ≤ B) {β : Type} : Stable B (fun (_ : β) W' => KeepC M W W') := fun _ A C h hb k c e f hk hc => by
  have hlt := (Array.getElem?_eq_some_iff.1 hc).1
  rw [hb.block k (by omega)]
  exact h k c e f hk hc
theorem keepsFrom_adds (B : Nat) {W W' : World} (h : Adds W W') : KeepsFrom B W W' := ⟨h.size, fun k o _ hk _ => by rw [h.block k (Array.getElem?_eq_some_iff.1 hk).1]; exact hk⟩
theorem at_next (e x m : Nat) (he : e < 18446744073709551616) (hx : x < cntE e m) (w : World) :
    Calls Tryd.prog 58 #[.int .u64 e, .int .u64 (cN e x : Nat)] w fun z w' => z = .returned (.int .u64 (eN e x : Nat)) ∧ Below w.heap.size w w' := by
  have hc : cN e x < 281474976710656 := by unfold cntE at hx; unfold cN; split at hx <;> omega
  have h := at_any e (cN e x) he hc w
  have e1 : epN (eI e) (cN e x) = eN e x := by unfold epN cN eN eI eC; omega
  rw [e1] at h
  exact h

set_option maxRecDepth 100000 in
set_option maxHeartbeats 4000000 in
theorem each3_in (B n : Nat) (hn : 4 ≤ n) (l Bw : Nat) (M : Nat → Prop) (e m : Nat) (he : e < 18446744073709551616) (J Jx : List Nat → World → Prop)
    (W : World) (hJ : Stable W.heap.size J) (hJx : Stable W.heap.size Jx)
    (hY : ∀ pre x W, J pre W → AtIx (cntE e m) pre x → YieldAt Fence.wide (n - 1) Tryd.prog l (epochV e x) W fun z W' =>
      (z = .returned (.bool true) ∧ J (pre ++ [x]) W' ∧ KeepC M W W' ∧ KeepsFrom B W W') ∨ (z = .returned (.bool false) ∧ Jx (pre ++ [x]) W' ∧ KeepsFrom B W W'))
    (hB : B ≤ W.heap.size) (hM : ∀ b, M b → b < W.heap.size) (hMw : ¬ M Bw)
    (cw0 : W.cell? ⟨Bw, 0, none⟩ = some (.int .u64 e)) (cw1 : W.cell? ⟨Bw, 1, none⟩ = some (.int .u64 m)) (h0 : J [] W) :
    CallsIn Fence.wide n Tryd.prog 65 #[.func (.yield l) #[] #[], .pointer (some ⟨Bw, 0, none⟩)] W fun z W' => (∃ v, z = .returned v) ∧
      ((∃ ys, ys = List.range (cntE e m) ∧ J ys W') ∨ (∃ pre, (∃ j, j ≤ cntE e m ∧ pre = List.range j) ∧ Jx pre W')) := by
  have HY := Lib.hid hY; clear hY
  have HJ := Lib.hid hJ; clear hJ
  have HJX := Lib.hid hJx; clear hJx
  have HM := Lib.hid hM; clear hM
  have HMW := Lib.hid hMw; clear hMw
  have HL := Lib.hid he; clear he
  refine callsIn_of_wp_marks Tryd.func65 rfl trivial ?_ rfl
  simp only [Tryd.ntmps65, List.size_toArray, List.length_cons, List.length_nil, Nat.reduceAdd, Nat.reduceSub, Array.replicate_succ, Array.replicate_zero, List.push_toArray, List.append_toArray, List.nil_append, List.cons_append]
  gi_wp2
  refine wpIn_scope_straight ?_
  generalize hWa : W.alloc (Obj.cells #[Value.func (Fn.yield l) #[] #[]] _) = Wa
  have HA := Lib.hid (hWa ▸ Adds.new W _ : Adds W Wa)
  have hsa : W.heap.size < Wa.heap.size := by rw [← hWa]; simp
  have ca0 : Wa.cell? ⟨Bw, 0, none⟩ = some (.int .u64 e) := HA.out.cellAt cw0
  have ca1 : Wa.cell? ⟨Bw, 1, none⟩ = some (.int .u64 m) := HA.out.cellAt cw1
  have ca3 : Wa.cell? ⟨W.heap.size, 0, none⟩ = some (.func (.yield l) #[] #[]) := by rw [← hWa]; simp
  have HWA := Lib.hid hWa; clear hWa
  have h1n : 1 ≤ n := by omega
  apply wpIn_seq_k; intro K1 hK1
  refine wpIn_label ?_
  refine hK1 _ _ ?_
  clear hK1 K1
  gi_wp2_with (refine ⟨trivial, ?_⟩; gi_at_call 66; refine (callsIn_wide.2 (clocks_any _ _ _)).mono ?_; rintro e w' ⟨rfl, rfl⟩)
  generalize hWb : World.alloc Wa _ = Wb
  have HB := Lib.hid (hWb ▸ (Adds.new Wa _) : Adds Wa Wb)
  have hsb : Wb.heap.size = Wa.heap.size + 1 := by rw [← hWb]; simp
  have cb0 : Wb.cell? ⟨Wa.heap.size, 0, none⟩ = some (.int .u64 e) := by rw [← hWb]; simp
  have cb1 : Wb.cell? ⟨Wa.heap.size, 1, none⟩ = some (.int .u64 m) := by rw [← hWb]; simp
  have cb2 : Wb.cell? ⟨Bw, 0, none⟩ = some (.int .u64 e) := HB.out.cellAt ca0
  have cb3 : Wb.cell? ⟨W.heap.size, 0, none⟩ = some (.func (.yield l) #[] #[]) := HB.out.cellAt ca3
  have HWB := Lib.hid hWb; clear hWb
  have HAB := Lib.hid (HA.out.trans HB.out)
  refine rangeFunc_S rfl (by omega) (gf := 86) (lb := #[.pointer (some ⟨Wa.heap.size, 0, none⟩)]) rfl trivial (enters_of Tryd.func86 (by kernel_rfl) rfl)
    (w0 := Wb) (G := AtIx (cntE e m)) (encs := clockV e) (Kp := KeepC M) (S := fun xs => xs = List.range (cntE e m)) (Sp := fun pre => ∃ j, j ≤ cntE e m ∧ pre = List.range j)
    ?seq KeepC.trans (fun W l o o' _ h hc _ => KeepC.put W l o o' h hc) (Below.refl _ _) (fun _ => rfl)
    (fun pre Wr => J pre Wr ∧ KeepC M Wb Wr) (fun c pre Wr => c = .exit 0 ∧ Jx pre Wr) ?own ?ownx ?h0
    (fun x => { tmps := #[Value.func (Fn.yield l) #[] #[], Value.pointer (some { block := Bw, off := 0 }), Value.pointer (some { block := W.heap.size, off := 0 }),
        .int .i64 ((x : Nat) : Int), .int .u64 ((cN e x : Nat) : Int), .agg #[.int .u64 e, .int .u64 m], .func (.func 86) #[] #[.pointer (some ⟨Wa.heap.size, 0, none⟩)],
        .int .i64 ((x : Nat) : Int), .int .u64 ((cN e x : Nat) : Int), undef, undef, undef, undef, undef, undef, undef, undef], defers := [] }) ?assign ?body ?done ?stop
  case own => exact (Stable.higher HJ.out (by omega)).and (keepC_stable2 M (Nat.le_refl _))
  case ownx => exact fun c s A C hs hb => ⟨hs.1, HJX.out s A C hs.2 (hb.mono (by omega))⟩
  case seq =>
    intro l' J' Jx' W2 hb hJ' hJx' hY' h0'
    by_cases hc : 1 ≤ m ∧ m < 281474976710656 ∧ eC e ≤ m
    · have ec : cntE e m = m - eC e + 1 := by unfold cntE; rw [if_pos hc]
      rw [ec] at hY' ⊢
      exact clocks1_in W2.heap.size (n - 1) (by omega) l' _ M e m hc.1 hc.2.1 hc.2.2 J' Jx' hY' W2 hJ' (fun hm => by have := HM.out _ hm; omega) (Adds.cellAt hb cb0) (Adds.cellAt hb cb1) h0'
    · have ec : cntE e m = 0 := by unfold cntE; rw [if_neg hc]
      refine (clocks1_none (n - 1) (by omega) l' _ e m hc J' W2 hJ' (Adds.cellAt hb cb0) (Adds.cellAt hb cb1) h0').mono ?_
      rintro z W' ⟨h1, h2⟩
      exact ⟨h1, .inl ⟨[], by rw [ec]; rfl, h2⟩⟩
  case h0 => exact ⟨HJ.out _ _ _ h0 HAB.out, KeepC.refl _ _⟩
  case assign =>
    intro l2 x W2 K hK
    gi_wp2
    exact hK
  case body =>
    rintro l2 pre x W2 ⟨hJ2, hk2⟩ hg
    have hd : 1 ≤ n - 1 - 1 := by omega
    have hmx : Tryd.prog.follows .mixedOrders = true := by kernel_rfl
    have c2 : W2.cell? ⟨W.heap.size, 0, none⟩ = some (.func (.yield l) #[] #[]) := hk2.cell (fun hm => by have := HM.out _ hm; omega) cb3
    have c4 : W2.cell? ⟨Bw, 0, none⟩ = some (.int .u64 e) := hk2.cell HMW.out cb2
    have HAT := Lib.hid (at_next e x m HL.out hg.1)
    have HG := Lib.hid hg; clear hg
    have HK2 := Lib.hid hk2; clear hk2
    have hJ2d : J pre W2.drew := HJ.out _ _ _ hJ2 (Below.refl _ _).drew
    have HJ2 := Lib.hid hJ2d; clear hJ2 hJ2d
    have HZ := Lib.hid (show W.heap.size ≤ W2.heap.size by have := World.block_lt_of_cell? W2 _ c2; simp at this; omega)
    have HYY : Hid (∀ W3, Adds W2.drew W3 → YieldAt Fence.wide (n - 1) Tryd.prog l (epochV e x) W3 (fun z W' => ∃ tb : Bool, z = .returned (.bool tb) ∧ KeepsFrom B W3 W' ∧ (tb = true → J (pre ++ [x]) W' ∧ KeepC M W3 W') ∧ (tb = false → Jx (pre ++ [x]) W'))) :=
      Lib.hid fun W3 h3 => (HY.out pre x W3 (HJ.out _ _ _ HJ2.out (Below.mono h3 HZ.out)) HG.out).mono (by
        rintro z W' (⟨rfl, h1, h2, h3⟩ | ⟨rfl, h1, h2⟩)
        · exact ⟨true, rfl, h3, fun _ => ⟨h1, h2⟩, fun h => (by cases h)⟩
        · exact ⟨false, rfl, h2, fun h => (by cases h), fun _ => h1⟩)
    have HC2 := Lib.hid (show W2.drew.cell? ⟨W.heap.size, 0, none⟩ = some (.func (.yield l) #[] #[]) from c2)
    have HC4 := Lib.hid (show W2.drew.cell? ⟨Bw, 0, none⟩ = some (.int .u64 e) from c4)
    obtain ⟨ky, hky⟩ : ∃ y : Int, ((cN e x : Nat) : Int) = y := ⟨_, rfl⟩
    obtain ⟨ey, hey⟩ : ∃ y : Int, ((eN e x : Nat) : Int) = y := ⟨_, rfl⟩
    rw [hky, hey] at HAT
    have HEY := Lib.hid hey; clear hey
    rw [hky]
    clear hky
    gi_wp2
    refine wpIn_region_inv (InvT (fun L tb => #[Value.func (Fn.yield l) #[] #[], Value.pointer (some { block := Bw, off := 0 }), Value.pointer (some { block := W.heap.size, off := 0 }),
        .int .i64 ((x : Nat) : Int), .int .u64 ky, .agg #[.int .u64 e, .int .u64 m], .func (.func 86) #[] #[.pointer (some ⟨Wa.heap.size, 0, none⟩)],
        .int .i64 ((x : Nat) : Int), .int .u64 ky, sel (L 0) (.func (.yield l) #[] #[]), sel (L 1) (.int .i64 ((x : Nat) : Int)), sel (L 2) (.pointer (some ⟨Bw, 0, none⟩)),
        sel (L 3) (.int .u64 e), sel (L 4) (.int .u64 ky), sel (L 5) (.int .u64 ey), sel (L 6) (.bool tb), sel (L 7) (.bool (!tb))])
        (fun L tb w => (L 6 = false → Adds W2.drew w) ∧ (L 6 = true → ∃ W3, Adds W2.drew W3 ∧ KeepsFrom B W3 w ∧ (tb = true → J (pre ++ [x]) w ∧ KeepC M W3 w) ∧ (tb = false → Jx (pre ++ [x]) w)))) hmx (by kernel_rfl) ?inv0 ?step ?fin
    case inv0 => exact ⟨false, rfl, fun _ => Adds.refl _, fun h => by cases h⟩
    case step =>
      rintro L b w i o ho hL hC he ⟨tb, rfl, hw1, hw2⟩
      have c6 := hC 6 _ rfl
      have c5 := hC 5 _ rfl
      have c3 := hC 3 _ rfl
      have c7 := hC 7 _ rfl
      simp [Region.binds] at c6 c5 c3 c7
      have hAd : L 6 = false → w.cell? ⟨W.heap.size, 0, none⟩ = some (.func (.yield l) #[] #[]) ∧ w.cell? ⟨Bw, 0, none⟩ = some (.int .u64 e) := fun h => ⟨(hw1 h).cellAt HC2.out, (hw1 h).cellAt HC4.out⟩
      have no6 : L 6 = true → L 0 = true ∧ L 1 = true ∧ L 2 = true ∧ L 3 = true ∧ L 4 = true ∧ L 5 = true := fun h => by
        have h6 := c6 h
        have h5 := c5 h6.2.2
        exact ⟨h6.1, h6.2.1, c3 h5.1, h5.1, h5.2, h6.2.2⟩
      rcases i with _ | _ | _ | _ | _ | _ | _ | _ | i
      · simp only [List.getElem?_cons_zero, Option.some.injEq] at ho
        subst ho
        have h6 : L 6 = false := by cases h : L 6 with | false => rfl | true => exact absurd (no6 h).1 (by simp [hL])
        obtain ⟨d1, d2⟩ := hAd h6
        clear no6 c3 c5 c6 c7 hC he hAd
        have HW1 := Lib.hid (hw1 h6)
        clear hw1 hw2
        simp only [hL, h6, sel_f]
        gi_wp2
        refine ⟨tb, ?_, fun _ => HW1.out, fun h => ?_⟩
        · simp [h6, sel_t, sel_f]
        · simp [h6] at h
      · simp only [List.getElem?_cons_zero, List.getElem?_cons_succ, Option.some.injEq] at ho
        subst ho
        have h6 : L 6 = false := by cases h : L 6 with | false => rfl | true => exact absurd (no6 h).2.1 (by simp [hL])
        obtain ⟨d1, d2⟩ := hAd h6
        clear no6 c3 c5 c6 c7 hC he hAd
        have HW1 := Lib.hid (hw1 h6)
        clear hw1 hw2
        simp only [hL, h6, sel_f]
        gi_wp2
        refine ⟨tb, ?_, fun _ => HW1.out, fun h => ?_⟩
        · simp [h6, sel_t, sel_f]
        · simp [h6] at h
      · simp only [List.getElem?_cons_zero, List.getElem?_cons_succ, Option.some.injEq] at ho
        subst ho
        have h6 : L 6 = false := by cases h : L 6 with | false => rfl | true => exact absurd (no6 h).2.2.1 (by simp [hL])
        obtain ⟨d1, d2⟩ := hAd h6
        clear no6 c3 c5 c6 c7 hC he hAd
        have HW1 := Lib.hid (hw1 h6)
        clear hw1 hw2
        simp only [hL, h6, sel_f]
        gi_wp2
        refine ⟨tb, ?_, fun _ => HW1.out, fun h => ?_⟩
        · simp [h6, sel_t, sel_f]
        · simp [h6] at h
      · simp only [List.getElem?_cons_zero, List.getElem?_cons_succ, Option.some.injEq] at ho
        subst ho
        have h6 : L 6 = false := by cases h : L 6 with | false => rfl | true => exact absurd (no6 h).2.2.2.1 (by simp [hL])
        obtain ⟨d1, d2⟩ := hAd h6
        have hp2 : L 2 = true := by simp [Region.binds] at he; exact he
        clear no6 c3 c5 c6 c7 hC he hAd
        have HW1 := Lib.hid (hw1 h6)
        clear hw1 hw2
        simp only [hL, h6, hp2, sel_f, sel_t]
        gi_wp2
        refine ⟨tb, ?_, fun _ => HW1.out, fun h => ?_⟩
        · simp [h6, hp2, sel_t, sel_f]
        · simp [h6] at h
      · simp only [List.getElem?_cons_zero, List.getElem?_cons_succ, Option.some.injEq] at ho
        subst ho
        have h6 : L 6 = false := by cases h : L 6 with | false => rfl | true => exact absurd (no6 h).2.2.2.2.1 (by simp [hL])
        obtain ⟨d1, d2⟩ := hAd h6
        clear no6 c3 c5 c6 c7 hC he hAd
        have HW1 := Lib.hid (hw1 h6)
        clear hw1 hw2
        simp only [hL, h6, sel_f]
        gi_wp2
        refine ⟨tb, ?_, fun _ => HW1.out, fun h => ?_⟩
        · simp [h6, sel_t, sel_f]
        · simp [h6] at h
      · simp only [List.getElem?_cons_zero, List.getElem?_cons_succ, Option.some.injEq] at ho
        subst ho
        have h6 : L 6 = false := by cases h : L 6 with | false => rfl | true => exact absurd (no6 h).2.2.2.2.2 (by simp [hL])
        obtain ⟨d1, d2⟩ := hAd h6
        have hp34 : L 3 = true ∧ L 4 = true := by simp [Region.binds] at he; exact he
        obtain ⟨hp3, hp4⟩ := hp34
        clear no6 c3 c5 c6 c7 hC he hAd
        have HW1 := Lib.hid (hw1 h6)
        clear hw1 hw2
        simp only [hL, h6, hp3, hp4, sel_f, sel_t]
        gi_wp2_with (refine ⟨trivial, ?_⟩; gi_at_call 58; refine (CallsIn.inRound l2 (callsIn_wide.2 (HAT.out _))).mono ?_; rintro z W3 ⟨rfl, b3⟩; have A3 := Lib.hid (HW1.out.trans b3); clear b3)
        refine ⟨tb, ?_, fun _ => A3.out, fun h => ?_⟩
        · simp [hp3, hp4, h6, sel_t, sel_f]
        · simp [h6] at h
      · simp only [List.getElem?_cons_zero, List.getElem?_cons_succ, Option.some.injEq] at ho
        subst ho
        have hp : L 0 = true ∧ L 1 = true ∧ L 5 = true := by simp [Region.binds] at he; exact he
        obtain ⟨hp0, hp1, hp5⟩ := hp
        obtain ⟨fn, tmps, assign, body, hy, hR⟩ := HYY.out w (hw1 hL)
        dsimp only [epochV] at hy
        rw [HEY.out] at hy
        have HRR := Lib.hid hR
        have HW1 := Lib.hid (hw1 hL)
        have h7 : L 7 = false := by cases h : L 7 with | false => rfl | true => exact absurd (c7 h) (by simp [hL])
        clear no6 c3 c5 c6 c7 hC he hAd hR hw1 hw2
        simp only [hL, h7, hp0, hp1, hp5, sel_f, sel_t]
        gi_wp2_with (refine (RoundIn.wider HRR.out l2 _).mono ?_; rintro z W4 ⟨tb2, rfl, hf4, hh4, hh5⟩; have HH4 := Lib.hid (And.intro hf4 (And.intro hh4 hh5)); clear hf4 hh4 hh5)
        refine ⟨tb2, ?_, fun h => ?_, fun _ => ⟨w, HW1.out, HH4.out⟩⟩
        · simp [hp0, hp1, hp5, h7, sel_t, sel_f]
        · simp at h
      · simp only [List.getElem?_cons_zero, List.getElem?_cons_succ, Option.some.injEq] at ho
        subst ho
        have hp6 : L 6 = true := by simp [Region.binds] at he; exact he
        have HW2 := Lib.hid (hw2 hp6)
        clear no6 c3 c5 c6 c7 hC he hAd hw1 hw2
        simp only [hL, hp6, sel_f, sel_t]
        gi_wp2
        refine ⟨tb, ?_, fun h => ?_, fun _ => HW2.out⟩
        · simp [hp6, sel_t]
        · simp [hp6] at h
      · simp at ho
    case fin =>
      rintro b w ⟨tb, rfl, _, hw2⟩
      obtain ⟨W3, a3, hf, h1, h2⟩ := hw2 (by simp)
      have HF := Lib.hid (And.intro a3 (And.intro hf (And.intro h1 h2)))
      clear a3 hf h1 h2 hw2
      simp only [List.length_cons, List.length_nil, Nat.reduceAdd, Nat.reduceLT, decide_true, sel_t]
      have hk : KeepsFrom Wb.heap.size W2 w ∧ (tb = true → KeepC M W2 w) := by
        obtain ⟨a3, hf, h1, _⟩ := HF.out
        exact ⟨((KeepsOthers.drew W2).from _).trans ((keepsFrom_adds _ a3).trans (KeepsFrom.higher hf (by omega))), fun h => (KeepC.of_below (M := M) ((Adds.drew W2).trans a3)).trans (h1 h).2⟩
      have HKF := Lib.hid hk; clear hk
      cases tb
      · gi_wp2
        rw [← hsb]
        exact ⟨HKF.out.1, rfl, HF.out.2.2.2 (by simp)⟩
      · gi_wp2
        rw [← hsb]
        exact ⟨HKF.out.1, HKF.out.2 (by simp), (HF.out.2.2.1 (by simp)).1, HK2.out.trans (HKF.out.2 (by simp))⟩
  case done =>
    rintro D xs W2 hD rfl ⟨hJ2, hk2⟩ hK
    gi_wp2
    show LeavesInM _ _ _ _ _ _ _ _ _
    refine ⟨by simp, .inl ⟨_, _, rfl, run_takeDeferred hK, ?_⟩⟩
    exact ⟨_, results_none rfl _ _ _, ⟨_, rfl⟩, .inl ⟨_, rfl, HJ.out.putObj _ hJ2 (by omega) hK rfl⟩⟩
  case stop =>
    rintro D c pre W2 hD hpre ⟨rfl, hx⟩ hK
    gi_wp2
    show LeavesInM _ _ _ _ _ _ _ _ _
    refine ⟨by simp, .inl ⟨_, _, rfl, run_takeDeferred hK, ?_⟩⟩
    exact ⟨_, results_none rfl _ _ _, ⟨_, rfl⟩, .inr ⟨_, hpre, HJX.out.putObj _ hx (by omega) hK rfl⟩⟩

/-- Each itself. -/
def Each3Post (e m : Int) (w : World) (z : Ending) (w' : World) : Prop :=
  Adds w w' ∧ ∃ Bw, z = .returned (.func (.func 65) #[] #[.pointer (some ⟨Bw, 0, none⟩)]) ∧ w.heap.size ≤ Bw ∧ Bw < w'.heap.size ∧ w'.cell? ⟨Bw, 0, none⟩ = some (.int .u64 e) ∧ w'.cell? ⟨Bw, 1, none⟩ = some (.int .u64 m)
set_option maxHeartbeats 1000000 in
theorem each3_any (e m : Int) (w : World) : Calls Tryd.prog 36 #[.int .u64 e, .int .u64 m] w (Each3Post e m w) := by
  go_enter Tryd.func36, Tryd.ntmps36
  go_wp2
  go_ret
  exact ⟨Adds.new _ _, w.heap.size, rfl, Nat.le_refl _, by simp, by simp, by simp⟩

theorem each3_seq (n : Nat) (hn : 4 ≤ n) (Bw : Nat) (M : Nat → Prop) (e m : Nat) (he : e < 18446744073709551616) (w : World) (hM : ∀ b, M b → b < w.heap.size) (hMw : ¬ M Bw)
    (cw0 : w.cell? ⟨Bw, 0, none⟩ = some (.int .u64 e)) (cw1 : w.cell? ⟨Bw, 1, none⟩ = some (.int .u64 m)) :
    SeqS Fence.wide n Tryd.prog 65 #[.pointer (some ⟨Bw, 0, none⟩)] (epochV e) (KeepC M) (fun xs => xs = List.range (cntE e m)) (fun pre => ∃ j, j ≤ cntE e m ∧ pre = List.range j)
      (AtIx (cntE e m)) w := fun l J Jx W hb hJ hJx hY h0 =>
  each3_in W.heap.size n hn l Bw M e m he J Jx W hJ hJx hY (Nat.le_refl _) (fun b h => Nat.lt_of_lt_of_le (hM b h) hb.size) hMw (Adds.cellAt hb cw0) (Adds.cellAt hb cw1) h0
end Go.Proofs.YtlbloehhmpnkgaaDoor
