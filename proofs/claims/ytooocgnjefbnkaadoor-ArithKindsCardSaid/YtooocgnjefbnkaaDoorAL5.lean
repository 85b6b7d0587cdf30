/- The law ArithKinds, walked. -/
import Derived.Laws.Build
import Derived.Sort.LoopGhostIn
import Derived.Test.YtooocgnjefbnkaaDoorAK2
import Derived.Test.YtooocgnjefbnkaaDoorMarks
import Derived.Test.YtooocgnjefbnkaaDoorTurn
namespace Go.Proofs.YtooocgnjefbnkaaDoor
open Go Go.RowKit Go.Shelf
attribute [local go_sem] Oper.semAt_some

theorem seqK_not_nil (fn : Fn) (a b : Array Value) (W : World) : (binOp .eql 50 (.func fn a b) .nilFunc).run Tryd.prog W = .ok (.bool false) W := by kernel_rfl

/-- How the law stands ahead of turn t. -/
def KindTurn (n0 Bl : Nat) (w7 : World) (g : Nat) (aa : Act) (W : World) : Prop :=
  ∃ (t Bt : Nat) (ds : List Deferred) (f : Nat → Value), t + g = 2 ∧ aa = { tmps := #[f 0, Value.pointer (some { block := n0, off := 0 }), Value.pointer (some { block := n0 + 1, off := 0 }), Value.pointer (some { block := Bl, off := 0 }), Value.func (Fn.func 33) #[] #[], Value.pointer (some { block := Bt, off := 0 }), f 6, f 7, f 8, f 9, f 10, f 11, f 12, f 13, f 14, f 15, f 16, f 17, f 18, f 19, f 20, f 21, f 22, f 23, f 24, f 25, f 26, f 27, f 28, f 29, f 30, f 31, f 32, f 33, f 34, f 35, f 36, f 37, f 38, f 39, f 40, f 41, f 42, f 43, f 44, f 45, f 46, f 47, f 48, f 49, f 50, f 51, f 52, f 53, f 54, f 55, f 56, f 57, f 58, f 59, f 60, f 61, f 62, f 63, f 64, f 65, f 66, f 67, f 68, f 69], defers := ds } ∧ Below w7.heap.size w7 W ∧ w7.heap.size ≤ Bt ∧ Boxed W Bt 3 (.int .i64 (t : Nat)) ∧ Marks w7.heap.size W.heap.size W ds
set_option maxRecDepth 100000 in
theorem KindTurn.mk (n0 Bl : Nat) (w7 : World) {g : Nat} {aa : Act} {W : World} (t Bt : Nat) (hg : t + g = 2) (hs : aa.tmps.size = 70) (h1 : aa.tmps[1]? = some (Value.pointer (some { block := n0, off := 0 }))) (h2 : aa.tmps[2]? = some (Value.pointer (some { block := n0 + 1, off := 0 }))) (h3 : aa.tmps[3]? = some (Value.pointer (some { block := Bl, off := 0 }))) (h4 : aa.tmps[4]? = some (Value.func (Fn.func 33) #[] #[])) (h5 : aa.tmps[5]? = some (Value.pointer (some { block := Bt, off := 0 })))
    (hb : Below w7.heap.size w7 W) (hB : w7.heap.size ≤ Bt) (hx : Boxed W Bt 3 (.int .i64 (t : Nat))) (hm : Marks w7.heap.size W.heap.size W aa.defers) : KindTurn n0 Bl w7 g aa W := by
  rcases aa with ⟨tmps, ds⟩
  obtain ⟨f, rfl⟩ := arr_fun tmps 70 hs
  have e1 : f 1 = Value.pointer (some { block := n0, off := 0 }) := Option.some.inj h1; have e2 : f 2 = Value.pointer (some { block := n0 + 1, off := 0 }) := Option.some.inj h2; have e3 : f 3 = Value.pointer (some { block := Bl, off := 0 }) := Option.some.inj h3; have e4 : f 4 = Value.func (Fn.func 33) #[] #[] := Option.some.inj h4; have e5 : f 5 = Value.pointer (some { block := Bt, off := 0 }) := Option.some.inj h5
  refine ⟨t, Bt, ds, f, hg, ?_, hb, hB, hx, hm⟩
  show ({ tmps := #[f 0, f 1, f 2, f 3, f 4, f 5, f 6, f 7, f 8, f 9, f 10, f 11, f 12, f 13, f 14, f 15, f 16, f 17, f 18, f 19, f 20, f 21, f 22, f 23, f 24, f 25, f 26, f 27, f 28, f 29, f 30, f 31, f 32, f 33, f 34, f 35, f 36, f 37, f 38, f 39, f 40, f 41, f 42, f 43, f 44, f 45, f 46, f 47, f 48, f 49, f 50, f 51, f 52, f 53, f 54, f 55, f 56, f 57, f 58, f 59, f 60, f 61, f 62, f 63, f 64, f 65, f 66, f 67, f 68, f 69], defers := ds } : Act) = _
  simp only [e1, e2, e3, e4, e5]


set_option maxRecDepth 100000 in
set_option maxHeartbeats 16000000 in
theorem law_kinds5 (m : Int) (w : World) (hN : NamesW w) :
    Calls Tryd.prog 5 #[.int .i64 m] w (TrueAdds5 w) := by
  have HN := Lib.hid hN; clear hN
  have hnn := seqK_not_nil
  refine (callsIn_wide (n := 6)).1 ?_
  refine callsIn_of_wp_marks Tryd.func5 rfl trivial ?_ rfl
  simp only [Tryd.ntmps5, List.size_toArray, List.length_cons, List.length_nil, Nat.reduceAdd, Nat.reduceSub, Array.replicate_succ, Array.replicate_zero, List.push_toArray, List.append_toArray, List.nil_append, List.cons_append]
  gi_wp2_with (first
    | (refine ⟨trivial, ?_⟩; gi_at_call 18; refine (callsIn_wide.2 (refNames_any _)).mono ?_; rintro e w1 ⟨v, rfl, ⟨b, rfl, hb, hc⟩, h1⟩; have A1 := Lib.hid h1; have HC := Lib.hid hc; clear h1 hc hb)
    | (refine ⟨trivial, ?_⟩; gi_at_call 22; refine (callsIn_wide.2 (kinds_any _)).mono ?_; rintro e w' ⟨rfl, rfl⟩))
  have A0 := Lib.hid ((Adds.new w (.cells #[.int .i64 m] 3)).trans (Adds.new _ (.cells #[.bool false] 4)))
  have BM0 := (Boxed.new w 3 (.int .i64 m)).alloc (.cells #[.bool false] 4)
  have BR0 := Boxed.new (w.alloc (.cells #[.int .i64 m] 3)) 4 (.bool false)
  rw [World.size_alloc] at BR0
  have hs0 : ((w.alloc (.cells #[.int .i64 m] 3)).alloc (.cells #[.bool false] 4)).heap.size = w.heap.size + 2 := by simp
  have hs1 := A1.out.size
  rw [hs0] at hs1
  have HS1 := Lib.hid hs1
  obtain ⟨w7, hw7⟩ : ∃ x, w1.alloc (.cells #[.slice (some ⟨b, 0, none⟩) 12 12] 43) = x := ⟨_, rfl⟩
  have A7 := Lib.hid (hw7 ▸ Adds.new _ _ : Adds w1 w7)
  have HS7 := Lib.hid (show w7.heap.size = w1.heap.size + 1 by rw [← hw7]; simp)
  have BL := Lib.hid (show Boxed w7 w1.heap.size 43 (.slice (some ⟨b, 0, none⟩) 12 12) from hw7 ▸ Boxed.new _ _ _)
  have BM := Lib.hid (boxed_adds (boxed_adds BM0 A1.out) A7.out)
  have BR := Lib.hid (boxed_adds (boxed_adds BR0 A1.out) A7.out)
  have HC7 := Lib.hid (fun i hi => A7.out.cellAt (HC.out i hi))
  have AW7 := Lib.hid (A0.out.trans (A1.out.trans A7.out))
  have HN7 := Lib.hid (HN.out.adds AW7.out)
  clear BM0 BR0 hs0 hs1
  rw [hw7]
  have HW7 := Lib.hid hw7; clear hw7
  refine wpIn_loop_ghost (KindTurn w.heap.size w1.heap.size w7) 2 ?start ?round
  case start => exact KindTurn.mk _ _ w7 0 (w1.heap.size + 1) rfl rfl rfl rfl rfl rfl rfl (Adds.new _ _) (by rw [HS7.out]; omega) (by have h := Boxed.new w7 3 (.int .i64 0); rw [HS7.out] at h; exact h) trivial
  case round =>
    rintro g aa W ⟨t, Bt, ds, f, hg, rfl, hb, hBt, bt, hm⟩
    have HG := Lib.hid hg; clear hg
    have ct := bt.cell
    have ft := bt.frozen
    have HBT := Lib.hid bt; clear bt
    have HM := Lib.hid hm; clear hm
    have HB := Lib.hid hb; clear hb
    have HSW := Lib.hid HB.out.size
    by_cases ht : t < 2
    · have hsz := HSW.out
      have hwW : w.heap.size < W.heap.size ∧ w1.heap.size < W.heap.size := by have := HS7.out; have := HS1.out; omega
      obtain ⟨hwW, hw1W⟩ := hwW
      gi_wp2
      rw [show decide ((t : Int) < 2) = true by rw [decide_eq_true_eq]; omega]
      generalize hWr : W.alloc (Obj.cells #[Value.int IntKind.i64 0] 3) = Wr
      have bn0 : Boxed Wr W.heap.size 3 (.int .i64 (([] : List Nat).length : Nat)) := hWr ▸ Boxed.new W _ _
      have bt0 : Boxed Wr Bt 3 (.int .i64 (t : Nat)) := hWr ▸ HBT.out.alloc _
      have AR := Lib.hid (hWr ▸ Adds.new W _ : Adds W Wr)
      have HSR := Lib.hid (show Wr.heap.size = W.heap.size + 1 by rw [← hWr]; simp)
      clear hWr
      have HB0 := Lib.hid (And.intro bt0 bn0); clear bt0 bn0
      have HBR := Lib.hid (HB.out.trans (Below.mono AR.out hsz))
      have hBtl := HBT.out.lt
      have HBTL := Lib.hid hBtl
      have HSQ := Lib.hid (kinds_seq 5 (by omega) (fun _ _ => True) Wr (HN7.out.adds HBR.out))
      refine' rangeFunc_S rfl (by omega) (gf := 33) (lb := #[]) rfl trivial (enters_of Tryd.func33 (by kernel_rfl) rfl) HSQ.out
        (fun _ _ => trivial) (fun _ _ _ _ _ _ _ _ => trivial) (Below.refl _ _) (fun _ => rfl)
        (fun pre V => Below w7.heap.size w7 V ∧ Boxed V Bt 3 (.int .i64 (t : Nat)) ∧ Boxed V W.heap.size 3 (.int .i64 (pre.length : Nat)) ∧ (t = 0 → pre = [] ∨ (pre.length : Int) < m) ∧ Marks w7.heap.size W.heap.size V ds)
        (fun c pre V => c = .exit 2 ∧ Below w7.heap.size w7 V ∧ Boxed V Bt 3 (.int .i64 (t : Nat)) ∧ Boxed V W.heap.size 3 (.int .i64 (pre.length : Nat)) ∧ (t = 0 ∧ (pre.length : Int) = max 1 m) ∧ Marks w7.heap.size W.heap.size V ds)
        ?own ?ownx ?h0 _ ?assign ?body ?done ?stop
      case assign =>
        intro l2 x W2 K hK
        have HK := Lib.hid hK; clear hK
        gi_wp2
        exact HK.out
      case own => exact fun s A B hs hb => ⟨hs.1.trans (hb.mono (by rw [HSR.out]; omega)), boxed_below hs.2.1 hb (by rw [HSR.out]; omega), boxed_below hs.2.2.1 hb (by rw [HSR.out]; omega), hs.2.2.2.1, hs.2.2.2.2.below hb (by rw [HSR.out]; omega)⟩
      case ownx => exact fun c s A B hs hb => ⟨hs.1, hs.2.1.trans (hb.mono (by rw [HSR.out]; omega)), boxed_below hs.2.2.1 hb (by rw [HSR.out]; omega), boxed_below hs.2.2.2.1 hb (by rw [HSR.out]; omega), hs.2.2.2.2.1, hs.2.2.2.2.2.below hb (by rw [HSR.out]; omega)⟩
      case h0 => exact ⟨HBR.out, HB0.out.1, HB0.out.2, fun _ => .inl rfl, HM.out.below AR.out (Nat.le_refl _)⟩
      case body =>
        clear ct ft
        rintro l2 pre x W2 ⟨hb2, bt2, bn2, hpm, hm2⟩ ⟨hx, hpre⟩
        have hpl : pre.length = x := by rw [hpre, List.length_range]
        rw [hpl] at bn2 hpm
        have HPL := Lib.hid hpl; clear hpl hpre
        have ct := bt2.cell
        have cn := bn2.cell
        have fn := bn2.frozen
        have c3 := (boxed_adds BL.out hb2).cell
        have c1 := (boxed_adds BM.out hb2).cell
        have cx := Adds.cellAt hb2 (HC7.out x hx)
        unfold nmV at cx ⊢
        obtain ⟨y, hy⟩ : ∃ y, nm x = y := ⟨_, rfl⟩
        rw [hy] at cx ⊢
        clear hy
        have HBB := Lib.hid (And.intro hb2 (And.intro bt2 (And.intro bn2 hm2))); clear bt2 bn2 hm2 hb2
        have HPM := Lib.hid hpm; clear hpm
        have hx12 : (x : Int) < 12 := by omega
        have hx12' : ¬ (12 : Int) ≤ (x : Int) := by omega
        have hd : 1 ≤ 6 - 1 - 1 := by omega
        have e1 : (1 : Int) + (x : Int) = (x : Int) + 1 := by omega
        rw [e1]
        have HE := Lib.hid (show KeepsFrom Wr.heap.size W2 (W2.setCell ⟨W.heap.size, 0, none⟩ (.int .i64 ((x : Int) + 1))) ∧ Below w7.heap.size w7 (W2.setCell ⟨W.heap.size, 0, none⟩ (.int .i64 ((x : Int) + 1))) ∧ Boxed (W2.setCell ⟨W.heap.size, 0, none⟩ (.int .i64 ((x : Int) + 1))) Bt 3 (.int .i64 (t : Nat)) ∧
            Boxed (W2.setCell ⟨W.heap.size, 0, none⟩ (.int .i64 ((x : Int) + 1))) W.heap.size 3 (.int .i64 ((pre ++ [x]).length : Nat)) ∧ Marks w7.heap.size W.heap.size (W2.setCell ⟨W.heap.size, 0, none⟩ (.int .i64 ((x : Int) + 1))) ds from by
          refine ⟨(KeepsOthers.setCell _ _ _).from _, HBB.out.1.setCell (p := ⟨W.heap.size, 0, none⟩) hsz _, HBB.out.2.1.other (by have := HBTL.out; omega) _, ?_, ?_⟩
          · have := HBB.out.2.2.1.set (.int .i64 ((x : Int) + 1))
            rw [List.length_append, HPL.out]
            exact this
          · exact HBB.out.2.2.2.below ((Below.refl W.heap.size W2).setCell (p := ⟨W.heap.size, 0, none⟩) (Nat.le_refl _) _) (Nat.le_refl _))
        have HF2 := Lib.hid (show ((pre ++ [x]).length : Int) = (x : Int) + 1 by rw [List.length_append, HPL.out]; simp)
        have HX := Lib.hid (And.intro hx (show pre = [] ↔ x = 0 by rw [← List.length_eq_zero_iff, HPL.out])); clear hx
        by_cases ht0 : t = 0
        · subst ht0
          by_cases hmx : m ≤ (x : Int) + 1
          · gi_wp2
            obtain ⟨hkf, hb3, ht3, hn3, hm3⟩ := HE.out
            have hln := HF2.out
            obtain ⟨_, hp0⟩ := HX.out
            exact ⟨hkf, rfl, hb3, ht3, hn3, (by rw [hln]; rcases HPM.out (by simp) with h | h; (· rw [hp0] at h; omega); omega), hm3⟩
          · gi_wp2
            obtain ⟨hkf, hb3, ht3, hn3, hm3⟩ := HE.out
            have hln := HF2.out
            exact ⟨hkf, trivial, hb3, ht3, hn3, .inr (by rw [hln]; omega), hm3⟩
        · obtain rfl : t = 1 := by omega
          gi_wp2
          obtain ⟨hkf, hb3, ht3, hn3, hm3⟩ := HE.out
          exact ⟨hkf, trivial, hb3, ht3, hn3, hm3⟩
      case done =>
        clear ct ft
        rintro D xs W2 hD rfl ⟨hb2, bt2, bn2, hpm, hm2⟩ hK
        rw [List.length_range] at bn2 hpm
        have hN : t = 0 → min (12 : Int) (max 1 m) = (12 : Int) := by
          intro h0
          rcases hpm h0 with h | h
          · cases h
          · omega
        have HEND := Lib.hid (turn_endT (a := #[]) hb2 (by rw [HSR.out] at hD; omega) hD hK hm2 (by rw [HSR.out]; omega))
        have ct := bt2.cell
        have cn := bn2.cell
        have c3 := (boxed_adds BL.out hb2).cell
        have c1 := (boxed_adds BM.out hb2).cell
        clear hpm hK hm2 hb2 bt2 bn2
        by_cases ht0 : t = 0
        · subst ht0
          have hN0 := hN rfl
          clear hN
          gi_wp2
          all_goals
            obtain ⟨e1, e2, e3⟩ := HEND.out
            exact ⟨1, by have := HG.out; omega, KindTurn.mk _ _ w7 1 W2.heap.size (by omega) rfl rfl rfl rfl rfl rfl (e1.alloc e1.size _) e1.size (Boxed.new _ _ _) ((e3.below (Adds.new _ _) (Nat.le_refl _)).up (by simp))⟩
        · obtain rfl : t = 1 := by omega
          clear hN
          gi_wp2
          all_goals
            obtain ⟨e1, e2, e3⟩ := HEND.out
            exact ⟨0, by have := HG.out; omega, KindTurn.mk _ _ w7 2 W2.heap.size (by omega) rfl rfl rfl rfl rfl rfl (e1.alloc e1.size _) e1.size (Boxed.new _ _ _) ((e3.below (Adds.new _ _) (Nat.le_refl _)).up (by simp))⟩
      case stop =>
        clear ct ft
        rintro D c9 pre W2 hD ⟨x, hx1, hx3⟩ ⟨rfl, hb2, bt2, bn2, ⟨ht0, hmx⟩, hm2⟩ hK
        obtain ⟨j, hpl⟩ : ∃ j, pre.length = j := ⟨_, rfl⟩
        have hj : j ≤ 12 := by rw [← hpl, hx3, List.length_range]; omega
        rw [hpl] at bn2 hmx
        subst ht0
        have hN0 : min (12 : Int) (max 1 m) = (j : Int) := by omega
        have HEND := Lib.hid (turn_endT (a := #[]) hb2 (by rw [HSR.out] at hD; omega) hD hK hm2 (by rw [HSR.out]; omega))
        have ct := bt2.cell
        have cn := bn2.cell
        have c3 := (boxed_adds BL.out hb2).cell
        have c1 := (boxed_adds BM.out hb2).cell
        clear hK hm2 hb2 bt2 bn2 hpl hx1 hx3 hj hmx
        gi_wp2
        all_goals
          obtain ⟨e1, e2, e3⟩ := HEND.out
          exact ⟨1, by have := HG.out; omega, KindTurn.mk _ _ w7 1 W2.heap.size (by omega) rfl rfl rfl rfl rfl rfl (e1.alloc e1.size _) e1.size (Boxed.new _ _ _) ((e3.below (Adds.new _ _) (Nat.le_refl _)).up (by simp))⟩
    · have HK := Lib.hid (works5_any W)
      have HBW := Lib.hid (boxed_adds BR.out HB.out)
      gi_wp2_with (refine ⟨trivial, ?_⟩; gi_at_call 16; refine (callsIn_wide.2 HK.out).mono ?_; rintro z w2 ⟨rfl, a2⟩; have hbr := boxed_adds HBW.out a2; have c4 := hbr.cell; have f4 := hbr.frozen; have HBRR := Lib.hid hbr; clear hbr; have A2 := Lib.hid a2; clear a2)
      show LeavesInM _ _ _ _ _ _ _ _ _
      have hz7 := HS7.out
      have hz1 := HS1.out
      have hbs : Below w7.heap.size w7 w2 := HB.out.trans (Below.mono A2.out HSW.out)
      have hms : Marks w7.heap.size W.heap.size (w2.setCell ⟨w.heap.size + 1, 0, none⟩ (.bool true)) ds := marks_setT (HM.out.below A2.out (Nat.le_refl _)) (by omega) _
      refine marks_leave ds _ _ hms fun W'' hb'' => ⟨.bool true, results_box rfl Tryd.underlying4 _ _ _ (.bool true) rfl (boxed_below (HBRR.out.set (.bool true)) hb'' (by omega)).cell, rfl, ?_⟩
      exact Below.trans AW7.out (((hbs.mono (by omega)).setCell (p := ⟨w.heap.size + 1, 0, none⟩) (by show w.heap.size ≤ w.heap.size + 1; omega) _).trans (hb''.mono (by omega)))
end Go.Proofs.YtooocgnjefbnkaaDoor
