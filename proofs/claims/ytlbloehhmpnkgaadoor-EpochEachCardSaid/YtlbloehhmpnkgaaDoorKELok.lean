/- The law EpochEach, walked: an end that may be. -/
import Derived.Test.YtlbloehhmpnkgaaDoorKEA
namespace Go.Proofs.YtlbloehhmpnkgaaDoor
open Go Go.RowKit Go.Shelf
attribute [local go_sem] Oper.semAt_some

set_option maxRecDepth 100000 in
set_option maxHeartbeats 16000000 in
theorem law_each_ok (e : Nat) (he : e < 18446744073709551616) (f : Int) (many : Int) (w : World) (hv : EpVars w) (m : Nat) (h1 : 0 ≤ f) (h2 : f ≤ 300) (hm : (m : Int) = ((eC e : Nat) : Int) + f) (hm1 : 1 ≤ m) (hm2 : m < 281474976710656) :
    Calls Tryd.prog 8 #[.int .u64 e, .int .i64 f, .int .i64 many] w (TrueAdds w) := by
  have HP := Lib.hid (refParts_any e he)
  have HL := Lib.hid he
  have HVV := Lib.hid hv; clear hv
  obtain ⟨a, c, ha, hc⟩ := gets e
  have HCNT := Lib.hid (show ((cntE e m : Nat) : Int) = f + 1 from by unfold cntE; rw [if_pos ⟨hm1, hm2, by omega⟩]; omega)
  obtain ⟨y, hy⟩ : ∃ y : Int, (m : Int) = y := ⟨_, rfl⟩
  have HE := Lib.hid (fun W => each3_any e m W)
  rw [← ha, ← hc] at HP
  rw [hy] at HE
  have k1 : IntKind.u64.wrap (c + f) = y := by rw [IntKind.wrap_u64]; omega
  have k2 : c + f = y := by omega
  have k3 : 1 ≤ y := by omega
  have k4 : y ≤ 281474976710655 := by omega
  have k0 : max 0 f = f := by omega
  have HY := Lib.hid hy
  clear ha hc hy hm hm1 hm2
  clear he
  refine (callsIn_wide (n := 6)).1 ?_
  refine callsIn_of_wp_marks Tryd.func8 rfl trivial ?_ rfl
  simp only [Tryd.ntmps8, List.size_toArray, List.length_cons, List.length_nil, Nat.reduceAdd, Nat.reduceSub, Array.replicate_succ, Array.replicate_zero, List.push_toArray, List.append_toArray, List.nil_append, List.cons_append]
  generalize hw0 : ((w.alloc (.cells #[.int .u64 e] 48)).alloc (.cells #[.int .i64 many] 3)).alloc (.cells #[.bool false] 4) = w0
  have hbx : Boxes3 w w0 48 3 4 (.int .u64 e) (.int .i64 many) (.bool false) := hw0 ▸ Boxes3.new w _ _ _ _ _ _
  have c2 := hbx.v.cell
  have c3 := hbx.m.cell
  have c4 := hbx.r.cell
  have f4 := hbx.r.frozen
  have A0 := Lib.hid (hw0 ▸ (Adds.new _ _).trans ((Adds.new _ _).trans (Adds.new _ _)) : Adds w w0)
  have HBX := Lib.hid hbx; clear hbx
  have HS0 := Lib.hid (show w0.heap.size = w.heap.size + 3 by rw [← hw0]; simp)
  have hnn := seq3_not_nil
  have hz0 : w.heap.size < w0.heap.size := by rw [HS0.out]; omega
  have hz1 : w.heap.size + 1 < w0.heap.size := by rw [HS0.out]; omega
  have hz2 : w.heap.size + 1 + 1 < w0.heap.size := by rw [HS0.out]; omega
  have HBQ := Lib.hid (show Boxed (w0.alloc (.cells #[.int .i64 (f + 1)] 3)) w0.heap.size 3 (.int .i64 (f + 1)) from Boxed.new _ _ _)
  gi_wp2_with (refine ⟨trivial, ?_⟩; gi_at_call 26; refine (callsIn_wide.2 (HP.out _)).mono ?_; rintro z w' ⟨rfl, rfl⟩)
  refine ⟨trivial, ?_⟩
  refine (callsIn_wide.2 (HE.out _)).mono ?_
  rintro z w1 ⟨a1, Bk, rfl, hk1, hk2, ck0, ck1⟩
  have HBX1 := Lib.hid (show Boxes3 w w1 _ _ _ _ _ _ from ⟨boxed_adds (HBX.out.v.alloc _) a1, boxed_adds (HBX.out.m.alloc _) a1, boxed_adds (HBX.out.r.alloc _) a1⟩)
  have HBQ1 := Lib.hid (boxed_adds HBQ.out a1)
  have A1 := Lib.hid ((Adds.new _ _).trans a1)
  have hk1' : w0.heap.size < Bk := by simp at hk1; omega
  clear a1 hk1
  gi_wp2
  have hs1 : w0.heap.size < w1.heap.size := by omega
  have HW1 := Lib.hid ((HVV.out.below A0.out).below A1.out)
  have HSZ1 := Lib.hid (show w.heap.size + 3 < w1.heap.size by rw [← HS0.out]; exact hs1)
  rw [← HCNT.out] at HBQ1
  clear c2 c3 c4 f4 hnn hw0 k0 k1 k2 k3 k4 h1 h2
  have HNL := Lib.hid (cnt_lt e m HL.out)
  obtain ⟨N, hN⟩ : ∃ N, cntE e m = N := ⟨_, rfl⟩
  rw [hN] at HBQ1 HNL
  have HNN := Lib.hid hN; clear hN
  refine wpIn_loop_ghost (EachTurn w.heap.size w0.heap.size Bk w1) 2 ?start ?round
  case start =>
    exact ⟨0, w1.heap.size, [], _, _, _, _, _, _, _, _, _, _, _, _, _, _, _, _, _, _, _, _, _, _, _, _, _, _, _, _, _, _, _, _, _, _, _, _, _, _, _, _, _, _, _, _, _, _, _, _, _, _, _, _, _, _, _, _, _, _, _, _, _, _, _, _, _, _, _, _, _, _, _, _, _, _, _, _, _, _, _, _, _, _, _, _, _, _, _, _, _, _, _, _, _, _, _, _, _, _, rfl, rfl, Adds.new _ _, Nat.le_refl _, Boxed.new _ _ _, trivial⟩
  case round =>
    rintro g a W ⟨t, Bt, ds, u0, u1, u2, u4, u7, u8, u9, u13, u14, u15, u16, u17, u18, u19, u20, u21, u22, u23, u24, u25, u26, u27, u28, u29, u30, u31, u32, u33, u34, u35, u36, u37, u38, u39, u40, u41, u42, u43, u44, u45, u46, u47, u48, u49, u50, u51, u52, u53, u54, u55, u56, u57, u58, u59, u60, u61, u62, u63, u64, u65, u66, u67, u68, u69, u70, u71, u72, u73, u74, u75, u76, u77, u78, u79, u80, u81, u82, u83, u84, u85, u86, u87, u88, u89, u90, u91, u92, u93, u94, u95, u96, u97, u98, u99, u100, u101, u102, u103, hg, rfl, hb, hBt, bt, hm⟩
    have HG := Lib.hid hg; clear hg
    have ct := bt.cell
    have ft := bt.frozen
    have HBT := Lib.hid bt; clear bt
    have HM := Lib.hid hm; clear hm
    have HB := Lib.hid hb; clear hb
    have HSW := Lib.hid HB.out.size
    have hsz := HSW.out
    by_cases ht : t < 2
    · gi_wp2
      rw [show decide ((t : Int) < 2) = true by rw [decide_eq_true_eq]; omega]
      generalize hWr : W.alloc (Obj.cells #[Value.int IntKind.i64 0] 3) = Wr
      have bn0 : Boxed Wr W.heap.size 3 (.int .i64 (([] : List Nat).length : Nat)) := hWr ▸ Boxed.new W _ _
      have bt0 : Boxed Wr Bt 3 (.int .i64 (t : Nat)) := hWr ▸ HBT.out.alloc _
      have AR := Lib.hid (hWr ▸ Adds.new W _ : Adds W Wr)
      have HSR := Lib.hid (show Wr.heap.size = W.heap.size + 1 by rw [← hWr]; simp)
      clear hWr
      have HB0 := Lib.hid (And.intro bt0 bn0); clear bt0 bn0
      have HBR := Lib.hid (HB.out.trans (Below.mono AR.out hsz))
      have hBtl := HBT.out.lt
      refine rangeFunc_S rfl (by omega) (gf := 65) (lb := #[.pointer (some ⟨Bk, 0, none⟩)]) rfl trivial (enters_of Tryd.func65 (by kernel_rfl) rfl)
        (each3_seq 5 (by omega) Bk (fun k => k = W.heap.size) e m HL.out Wr ?hM ?hMk ((HBR.out.cell (p := ⟨Bk, 0, none⟩) hk2).trans ck0) ((HBR.out.cell (p := ⟨Bk, 1, none⟩) hk2).trans (by rw [HY.out]; exact ck1)))
        KeepC.trans (fun W l o o' _ h hc _ => KeepC.put W l o o' h hc) (Below.refl _ _) (fun _ => rfl)
        (fun pre V => Below w1.heap.size w1 V ∧ Boxed V Bt 3 (.int .i64 (t : Nat)) ∧ Boxed V W.heap.size 3 (.int .i64 (pre.length : Nat)) ∧ (t = 0 → pre = [] ∨ (pre.length : Int) < many) ∧ Marks w1.heap.size W.heap.size V ds)
        (fun c pre V => c = .exit 2 ∧ Below w1.heap.size w1 V ∧ Boxed V Bt 3 (.int .i64 (t : Nat)) ∧ Boxed V W.heap.size 3 (.int .i64 (pre.length : Nat)) ∧ (t = 0 ∧ (pre.length : Int) = max 1 many) ∧ Marks w1.heap.size W.heap.size V ds)
        ?own ?ownx ?h0 (fun x => { tmps := #[u0, u1, u2, Value.pointer (some { block := w.heap.size, off := 0 }), u4, Value.pointer (some { block := w.heap.size + 1, off := 0 }), Value.pointer (some { block := w.heap.size + 1 + 1, off := 0 }), u7, u8, u9, Value.pointer (some { block := w0.heap.size, off := 0 }), Value.func (Fn.func 65) #[] #[Value.pointer (some { block := Bk, off := 0 })], Value.pointer (some { block := Bt, off := 0 }), Value.pointer (some { block := W.heap.size, off := 0 }), Value.int IntKind.i64 ((x : Nat) : Int), Value.int IntKind.u64 ((eN e x : Nat) : Int), u16, u17, u18, u19, u20, u21, u22, u23, u24, u25, u26, u27, u28, u29, u30, u31, u32, u33, u34, u35, u36, u37, u38, u39, u40, u41, u42, u43, u44, u45, u46, u47, u48, u49, u50, Value.int IntKind.i64 ↑t, Value.bool true, u53, u54, Value.func (Fn.func 65) #[] #[Value.pointer (some { block := Bk, off := 0 })], Value.int IntKind.i64 ((x : Nat) : Int), Value.int IntKind.u64 ((eN e x : Nat) : Int), u58, u59, u60, u61, u62, u63, u64, u65, u66, u67, u68, u69, u70, u71, u72, u73, u74, u75, u76, u77, u78, u79, u80, u81, u82, u83, u84, u85, u86, u87, u88, u89, u90, u91, u92, u93, u94, u95, u96, u97, u98, u99, u100, u101, u102, u103], defers := [] }) ?assign ?body ?done ?stop
      case hM => intro b hb; rw [hb, HSR.out]; omega
      case hMk => intro h; omega
      case own => exact fun s A B hs hb => ⟨hs.1.trans (hb.mono (by rw [HSR.out]; omega)), boxed_below hs.2.1 hb (by rw [HSR.out]; omega), boxed_below hs.2.2.1 hb (by rw [HSR.out]; omega), hs.2.2.2.1, hs.2.2.2.2.below hb (by rw [HSR.out]; omega)⟩
      case ownx => exact fun c s A B hs hb => ⟨hs.1, hs.2.1.trans (hb.mono (by rw [HSR.out]; omega)), boxed_below hs.2.2.1 hb (by rw [HSR.out]; omega), boxed_below hs.2.2.2.1 hb (by rw [HSR.out]; omega), hs.2.2.2.2.1, hs.2.2.2.2.2.below hb (by rw [HSR.out]; omega)⟩
      case h0 => exact ⟨HBR.out, HB0.out.1, HB0.out.2, fun _ => .inl rfl, HM.out.below AR.out (Nat.le_refl _)⟩
      case assign =>
        intro l2 x W2 K hK
        gi_wp2
        exact hK
      case body =>
        clear ct ft
        rintro l2 pre x W2 ⟨hb2, bt2, bn2, hpm, hm2⟩ hgx
        rw [HNN.out] at hgx
        obtain ⟨hx1, hpre⟩ := id hgx
        have hpl : pre.length = x := by rw [hpre, List.length_range]
        rw [hpl] at bn2 hpm
        have HPL := Lib.hid hpl; clear hpl hpre hgx
        have ct := bt2.cell
        have cn := bn2.cell
        have fn := bn2.frozen
        have HBB := Lib.hid (And.intro hb2 (And.intro bt2 (And.intro bn2 hm2))); clear bt2 bn2 hm2
        have HPM := Lib.hid hpm; clear hpm
        have c22 := (boxed_adds HBX1.out.v HBB.out.1).cell
        have c23 := (boxed_adds HBX1.out.m HBB.out.1).cell
        have c24 := (boxed_adds HBQ1.out HBB.out.1).cell
        clear hb2
        have hd : 1 ≤ 6 - 1 - 1 := by omega
        obtain ⟨ey, hey⟩ : ∃ y : Int, ((eN e x : Nat) : Int) = y := ⟨_, rfl⟩
        have q1 : IntKind.u64.wrap ey = ey := by rw [IntKind.wrap_u64, ← hey]; have := HNL.out.2 x hx1; unfold eN; omega
        have q2 : (e : Int) + (x : Int) = ey := by rw [← hey]; unfold eN; omega
        have hx3 : (x : Int) ≤ 281474976710656 := by have := HNL.out.1; omega
        have hx4 : decide (N ≤ x) = false := by rw [decide_eq_false_iff_not]; omega
        simp only [hey]
        clear hey hx1
        have hkf : KeepsFrom Wr.heap.size W2 (W2.setCell ⟨W.heap.size, 0, none⟩ (.int .i64 ((x : Int) + 1))) := (KeepsOthers.setCell _ _ _).from _
        have hb3 : Below w1.heap.size w1 (W2.setCell ⟨W.heap.size, 0, none⟩ (.int .i64 ((x : Int) + 1))) := HBB.out.1.setCell (p := ⟨W.heap.size, 0, none⟩) hsz _
        have ht3 : Boxed (W2.setCell ⟨W.heap.size, 0, none⟩ (.int .i64 ((x : Int) + 1))) Bt 3 (.int .i64 (t : Nat)) := HBB.out.2.1.other (by omega) _
        have hn3 : Boxed (W2.setCell ⟨W.heap.size, 0, none⟩ (.int .i64 ((x : Int) + 1))) W.heap.size 3 (.int .i64 ((pre ++ [x]).length : Nat)) := by
          have := HBB.out.2.2.1.set (.int .i64 ((x : Int) + 1))
          rw [List.length_append, HPL.out]
          exact this
        have hm3 : Marks w1.heap.size W.heap.size (W2.setCell ⟨W.heap.size, 0, none⟩ (.int .i64 ((x : Int) + 1))) ds :=
          HBB.out.2.2.2.below ((Below.refl W.heap.size W2).setCell (p := ⟨W.heap.size, 0, none⟩) (Nat.le_refl _) _) (Nat.le_refl _)
        have hln : ((pre ++ [x]).length : Int) = (x : Int) + 1 := by rw [List.length_append, HPL.out]; simp
        have hp0 : pre = [] ↔ x = 0 := by rw [← List.length_eq_zero_iff, HPL.out]
        have HE := Lib.hid (And.intro hkf (And.intro hb3 (And.intro ht3 (And.intro hn3 (And.intro hm3 (And.intro hln hp0)))))); clear hkf hb3 ht3 hn3 hm3 hln hp0
        by_cases ht0 : t = 0
        · subst ht0
          by_cases hmx : many ≤ (x : Int) + 1
          · gi_wp2
            obtain ⟨hkf, hb3, ht3, hn3, hm3, hln, hp0⟩ := HE.out
            exact ⟨hkf, rfl, hb3, ht3, hn3, (by rw [hln]; rcases HPM.out (by simp) with h | h; (· rw [hp0] at h; omega); omega), hm3⟩
          · gi_wp2
            obtain ⟨hkf, hb3, ht3, hn3, hm3, hln, hp0⟩ := HE.out
            exact ⟨hkf, keepC_set3 _ _ _, hb3, ht3, hn3, .inr (by rw [hln]; omega), hm3⟩
        · obtain rfl : t = 1 := by omega
          gi_wp2
          obtain ⟨hkf, hb3, ht3, hn3, hm3, hln, hp0⟩ := HE.out
          exact ⟨hkf, keepC_set3 _ _ _, hb3, ht3, hn3, (fun h => by cases h), hm3⟩
      case done =>
        clear ct ft
        rintro D xs W2 hD rfl ⟨hb2, bt2, bn2, hpm, hm2⟩ hK
        rw [HNN.out] at bn2 hpm
        rw [List.length_range] at bn2 hpm
        have hN : t = 0 → min (N : Int) (max 1 many) = (N : Int) := by
          intro h0
          rcases hpm h0 with h | h
          · have : N = 0 := by cases N with | zero => rfl | succ k => rw [List.range_succ] at h; simp at h
            omega
          · omega
        have HEND := Lib.hid (turn_end3 (a := #[]) hb2 (by rw [HSR.out] at hD; omega) hD hK hm2 (by rw [HSR.out]; omega))
        have ct := bt2.cell
        have cn := bn2.cell
        have c22 := (boxed_adds HBX1.out.v hb2).cell
        have c23 := (boxed_adds HBX1.out.m hb2).cell
        have c24 := (boxed_adds HBQ1.out hb2).cell
        clear hpm hK hm2 hb2 bt2 bn2
        by_cases ht0 : t = 0
        · subst ht0
          have hN0 := hN rfl
          clear hN
          gi_wp2
          all_goals
            obtain ⟨e1, e2, e3⟩ := HEND.out
            exact ⟨1, by have := HG.out; omega, 1, W2.heap.size, _, _, _, _, _, _, _, _, _, _, _, _, _, _, _, _, _, _, _, _, _, _, _, _, _, _, _, _, _, _, _, _, _, _, _, _, _, _, _, _, _, _, _, _, _, _, _, _, _, _, _, _, _, _, _, _, _, _, _, _, _, _, _, _, _, _, _, _, _, _, _, _, _, _, _, _, _, _, _, _, _, _, _, _, _, _, _, _, _, _, _, _, _, _, _, _, _, _, _, rfl, rfl, e1.alloc e1.size _, e1.size, Boxed.new _ _ _, (e3.below (Adds.new _ _) (Nat.le_refl _)).up (by simp)⟩
        · obtain rfl : t = 1 := by omega
          clear hN
          gi_wp2
          all_goals
            obtain ⟨e1, e2, e3⟩ := HEND.out
            exact ⟨0, by have := HG.out; omega, 2, W2.heap.size, _, _, _, _, _, _, _, _, _, _, _, _, _, _, _, _, _, _, _, _, _, _, _, _, _, _, _, _, _, _, _, _, _, _, _, _, _, _, _, _, _, _, _, _, _, _, _, _, _, _, _, _, _, _, _, _, _, _, _, _, _, _, _, _, _, _, _, _, _, _, _, _, _, _, _, _, _, _, _, _, _, _, _, _, _, _, _, _, _, _, _, _, _, _, _, _, _, _, _, rfl, rfl, e1.alloc e1.size _, e1.size, Boxed.new _ _ _, (e3.below (Adds.new _ _) (Nat.le_refl _)).up (by simp)⟩
      case stop =>
        clear ct ft
        rintro D c pre W2 hD ⟨j, hj, hpre⟩ ⟨rfl, hb2, bt2, bn2, ⟨ht0, hmx⟩, hm2⟩ hK
        rw [HNN.out] at hj
        have hpl : pre.length = j := by rw [hpre, List.length_range]
        rw [hpl] at bn2 hmx
        subst ht0
        have hN0 : min (N : Int) (max 1 many) = (j : Int) := by omega
        have HEND := Lib.hid (turn_end3 (a := #[]) hb2 (by rw [HSR.out] at hD; omega) hD hK hm2 (by rw [HSR.out]; omega))
        have ct := bt2.cell
        have cn := bn2.cell
        have c22 := (boxed_adds HBX1.out.v hb2).cell
        have c23 := (boxed_adds HBX1.out.m hb2).cell
        have c24 := (boxed_adds HBQ1.out hb2).cell
        clear hK hm2 hb2 bt2 bn2 hpl hpre hj hmx
        gi_wp2
        all_goals
          obtain ⟨e1, e2, e3⟩ := HEND.out
          exact ⟨1, by have := HG.out; omega, 1, W2.heap.size, _, _, _, _, _, _, _, _, _, _, _, _, _, _, _, _, _, _, _, _, _, _, _, _, _, _, _, _, _, _, _, _, _, _, _, _, _, _, _, _, _, _, _, _, _, _, _, _, _, _, _, _, _, _, _, _, _, _, _, _, _, _, _, _, _, _, _, _, _, _, _, _, _, _, _, _, _, _, _, _, _, _, _, _, _, _, _, _, _, _, _, _, _, _, _, _, _, _, _, rfl, rfl, e1.alloc e1.size _, e1.size, Boxed.new _ _ _, (e3.below (Adds.new _ _) (Nat.le_refl _)).up (by simp)⟩
    · have HK := Lib.hid (works3_any W (HW1.out.below HB.out))
      gi_wp2_with (refine ⟨trivial, ?_⟩; gi_at_call 29; refine (callsIn_wide.2 HK.out).mono ?_; rintro z w2 ⟨rfl, a2⟩; have hbr := boxed_adds (boxed_adds HBX1.out.r HB.out) a2; have c4 := hbr.cell; have f4 := hbr.frozen; have HBRR := Lib.hid hbr; clear hbr; have A2 := Lib.hid a2; clear a2)
      show LeavesInM _ _ _ _ _ _ _ _ _
      have hbs : Below w1.heap.size w1 w2 := HB.out.trans (Below.mono A2.out hsz)
      have hms : Marks w1.heap.size W.heap.size (w2.setCell ⟨w.heap.size + 1 + 1, 0, none⟩ (.bool true)) ds := marks_set3 (HM.out.below A2.out (Nat.le_refl _)) (by have := HSZ1.out; omega) _
      refine marks_leave ds _ _ hms fun W'' hb'' => ⟨.bool true, results_box rfl Tryd.underlying4 _ _ _ (.bool true) rfl (boxed_below (HBRR.out.set (.bool true)) hb'' (by have := HSZ1.out; omega)).cell, rfl, ?_⟩
      have h0 : Below w.heap.size w w1 := A0.out.trans (Below.mono A1.out (by have := HS0.out; omega))
      exact h0.trans (((hbs.mono (by have := HSZ1.out; omega)).setCell (p := ⟨w.heap.size + 1 + 1, 0, none⟩) (by show w.heap.size ≤ w.heap.size + 1 + 1; omega) _).trans (hb''.mono (by have := HSZ1.out; omega)))
end Go.Proofs.YtlbloehhmpnkgaaDoor
