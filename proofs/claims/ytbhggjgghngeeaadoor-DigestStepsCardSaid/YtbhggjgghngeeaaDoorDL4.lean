/- The law DigestSteps, walked. -/
import Derived.Sort.LoopGhostIn
import Derived.Test.YtbhggjgghngeeaaDoorDE3
import Derived.Test.YtbhggjgghngeeaaDoorMarks
namespace Go.Proofs.YtbhggjgghngeeaaDoor
open Go Go.RowKit Go.Shelf
attribute [local go_sem] Oper.semAt_some

theorem keepC_set (W : World) (b : Nat) (u : Value) : KeepC (fun k => k = b) W (W.setCell ⟨b, 0, none⟩ u) := fun k c e f hk hc => (Below.heap_setCell W _ u k hk).trans hc
theorem seq_not_nil (fn : Fn) (a b : Array Value) (W : World) : (binOp .eql 30 (.func fn a b) .nilFunc).run Tryd.prog W = .ok (.bool false) W := by kernel_rfl

theorem turn_end {B0 C : Nat} {w1 W2 : World} {D : Nat} {ds : List Deferred} {a : Array Value} (hb : Below B0 w1 W2) (h1 : B0 ≤ D) {E : Nat} (hD : E ≤ D) (hK : W2.heap[D]? = some (.deferred (some []))) (hm : Marks B0 C W2 ds) (hC : C ≤ E) :
    Below B0 w1 W2 ∧ D < W2.heap.size ∧ Marks B0 W2.heap.size W2 ({ target := .collected D, args := a } :: ds) :=
  ⟨hb, (Array.getElem?_eq_some_iff.1 hK).1, D, rfl, h1, (Array.getElem?_eq_some_iff.1 hK).1, hK, hm.up (by omega)⟩
theorem marks_set {B C b : Nat} {W : World} {ds : List Deferred} (h : Marks B C W ds) (hb : b < B) (u : Value) : Marks B C (W.setCell ⟨b, 0, none⟩ u) ds := by
  induction ds generalizing C with
  | nil => trivial
  | cons d ds ih =>
    obtain ⟨D, h1, h2, h3, h4, h5⟩ := h
    exact ⟨D, h1, h2, h3, (Below.heap_setCell W _ u D (by show D ≠ b; omega)).trans h4, ih h5⟩

/-- How the law stands ahead of turn t. -/
def StepsTurn (ao : Option Addr) (l : List UInt8) (cap : Nat) (m : Int) (n0 Bk : Nat) (w1 : World) (g : Nat) (a : Act) (W : World) : Prop :=
  ∃ (t Bt : Nat) (ds : List Deferred) (u7 u8 u9 u18 u19 u20 u21 u22 u23 u24 u25 u26 u27 u28 u29 u30 u31 u32 u33 u34 u35 u36 u37 u38 u39 u40 u41 u42 u43 u44 u45 u46 u47 u48 u49 u50 u51 u52 u53 u54 u55 u56 u57 u58 u59 u60 u61 u62 u63 u64 u65 u66 u67 u68 u69 u70 u71 u72 u73 u74 u75 : Value), t + g = 2 ∧
    a = { tmps := #[Value.slice ao l.length cap, Value.int IntKind.i64 m, Value.pointer (some { block := n0, off := 0 }), Value.pointer (some { block := n0 + 1, off := 0 }), Value.pointer (some { block := n0 + 1 + 1, off := 0 }), Value.func (Fn.func 34) #[] #[Value.pointer (some { block := Bk, off := 0 })], Value.pointer (some { block := Bt, off := 0 }), u7, u8, u9, Value.slice ao l.length cap, Value.int IntKind.i64 ↑l.length, Value.bool false, undef, Value.slice ao l.length cap, Value.func (Fn.func 34) #[] #[Value.pointer (some { block := Bk, off := 0 })], Value.func (Fn.func 34) #[] #[Value.pointer (some { block := Bk, off := 0 })], Value.bool false, u18, u19, u20, u21, u22, u23, u24, u25, u26, u27, u28, u29, u30, u31, u32, u33, u34, u35, u36, u37, u38, u39, u40, u41, u42, u43, u44, u45, u46, u47, u48, u49, u50, u51, u52, u53, u54, u55, u56, u57, u58, u59, u60, u61, u62, u63, u64, u65, u66, u67, u68, u69, u70, u71, u72, u73, u74, u75], defers := ds } ∧
    Below w1.heap.size w1 W ∧ w1.heap.size ≤ Bt ∧ Boxed W Bt 3 (.int .i64 (t : Nat)) ∧ Marks w1.heap.size W.heap.size W ds

set_option maxRecDepth 100000 in
set_option maxHeartbeats 16000000 in
theorem law_steps {nb : Nat} (v : Value) (l : List UInt8) (m : Int) (w : World) (hv : Bytes nb w v l) (hw : Widths w) :
    Calls Tryd.prog 5 #[v, .int .i64 m] w (TrueAdds w) := by
  obtain ⟨ao, cap, rfl, h1, h2, h3⟩ := id hv
  have HV := Lib.hid hv; clear hv h3
  have HW := Lib.hid hw; clear hw
  unfold maxLen at h2
  refine (callsIn_wide (n := 6)).1 ?_
  refine callsIn_of_wp_marks Tryd.func5 rfl trivial ?_ rfl
  simp only [Tryd.ntmps5, List.size_toArray, List.length_cons, List.length_nil, Nat.reduceAdd, Nat.reduceSub, Array.replicate_succ, Array.replicate_zero, List.push_toArray, List.append_toArray, List.nil_append, List.cons_append]
  generalize hw0 : ((w.alloc (.cells #[.slice ao l.length cap] 22)).alloc (.cells #[.int .i64 m] 3)).alloc (.cells #[.bool false] 4) = w0
  have hbx : Boxes3 w w0 22 3 4 (.slice ao l.length cap) (.int .i64 m) (.bool false) := hw0 ▸ Boxes3.new w _ _ _ _ _ _
  have c2 := hbx.v.cell
  have c3 := hbx.m.cell
  have c4 := hbx.r.cell
  have f4 := hbx.r.frozen
  have A0 := Lib.hid (hw0 ▸ (Adds.new _ _).trans ((Adds.new _ _).trans (Adds.new _ _)) : Adds w w0)
  have HBX := Lib.hid hbx; clear hbx
  have HS0 := Lib.hid (show w0.heap.size = w.heap.size + 3 by rw [← hw0]; simp)
  have HVW := Lib.hid (bytes_adds HV.out A0.out)
  by_cases hlen : 60 < l.length
  · have HK := Lib.hid (works2_any w0 (HW.out.below A0.out))
    gi_wp2_with (refine ⟨trivial, ?_⟩; gi_at_call 12; refine (callsIn_wide.2 HK.out).mono ?_; rintro e w1 ⟨rfl, a1⟩; have c41 := (boxed_adds HBX.out.r a1).cell; have f41 := (boxed_adds HBX.out.r a1).frozen; have A1 := Lib.hid a1; clear a1)
    refine ⟨_, results_box rfl Tryd.underlying4 _ _ _ (.bool true) rfl (World.cell?_setCell_same _ _ _ c41), rfl, ?_⟩
    exact Turns.own A0.out (Nat.le_trans (by omega) (Nat.le_refl (w.heap.size + 1 + 1))) ((Turns.of_adds _ A1.out).trans (Turns.setCell _ _ _ _))
  · have hnn := seq_not_nil
    have HST := Lib.hid (steps_any _ _ l w0 HVW.out (by omega))
    gi_wp2_with (refine ⟨trivial, ?_⟩; gi_at_call 15; refine (callsIn_wide.2 HST.out).mono ?_; rintro e w1 ⟨a1, Bk, ao1, cap1, rfl, hk1, hk2, ck, hvk, hak⟩; have HBX1 := Lib.hid (show Boxes3 w w1 _ _ _ _ _ _ from ⟨boxed_adds HBX.out.v a1, boxed_adds HBX.out.m a1, boxed_adds HBX.out.r a1⟩); have A1 := Lib.hid a1; clear a1; have HVK := Lib.hid hvk; clear hvk; have HAK := Lib.hid hak; clear hak)
    have hs1 : w.heap.size + 3 ≤ w1.heap.size := by have := A1.out.size; rw [HS0.out] at this; exact this
    have HVW1 := Lib.hid (bytes_adds HVW.out A1.out)
    have HW1 := Lib.hid ((HW.out.below A0.out).below A1.out)
    clear c2 c3 c4 f4 hw0 hnn
    rw [show decide ((60 : Int) < (l.length : Int)) = false by rw [decide_eq_false_iff_not]; omega]
    refine wpIn_loop_ghost (StepsTurn ao l cap m w.heap.size Bk w1) 2 ?start ?round
    case start =>
      exact ⟨0, w1.heap.size, [], _, _, _, _, _, _, _, _, _, _, _, _, _, _, _, _, _, _, _, _, _, _, _, _, _, _, _, _, _, _, _, _, _, _, _, _, _, _, _, _, _, _, _, _, _, _, _, _, _, _, _, _, _, _, _, _, _, _, _, _, _, rfl, rfl, Adds.new _ _, Nat.le_refl _, Boxed.new _ _ _, trivial⟩
    case round =>
      rintro g a W ⟨t, Bt, ds, u7, u8, u9, u18, u19, u20, u21, u22, u23, u24, u25, u26, u27, u28, u29, u30, u31, u32, u33, u34, u35, u36, u37, u38, u39, u40, u41, u42, u43, u44, u45, u46, u47, u48, u49, u50, u51, u52, u53, u54, u55, u56, u57, u58, u59, u60, u61, u62, u63, u64, u65, u66, u67, u68, u69, u70, u71, u72, u73, u74, u75, hg, rfl, hb, hBt, bt, hm⟩
      have HG := Lib.hid hg; clear hg
      have ct := bt.cell
      have ft := bt.frozen
      have HBT := Lib.hid bt; clear bt
      have HM := Lib.hid hm; clear hm
      have HB := Lib.hid hb; clear hb
      have HSW := Lib.hid HB.out.size
      have c2 := (boxed_adds HBX1.out.v HB.out).cell
      have c3 := (boxed_adds HBX1.out.m HB.out).cell
      have hsz := HSW.out
      by_cases ht : t < 2
      · gi_wp2
        rw [show decide ((t : Int) < 2) = true by rw [decide_eq_true_eq]; omega]
        generalize hWr : W.alloc (Obj.cells #[Value.int IntKind.i64 0] 3) = Wr
        have bn0 : Boxed Wr W.heap.size 3 (.int .i64 (([] : List Nat).length : Nat)) := hWr ▸ Boxed.new W _ _
        have bt0 : Boxed Wr Bt 3 (.int .i64 (t : Nat)) := hWr ▸ HBT.out.alloc _
        have AR := Lib.hid (hWr ▸ Adds.new W _ : Adds W Wr)
        have HSR := Lib.hid (show Wr.heap.size = W.heap.size + 1 by rw [← hWr]; simp)
        clear hWr
        have HB0 := Lib.hid (And.intro bt0 bn0); clear bt0 bn0
        have HBR := Lib.hid (HB.out.trans (Below.mono AR.out hsz))
        have hBtl := HBT.out.lt
        refine rangeFunc_S rfl (by omega) (gf := 34) (lb := #[.pointer (some ⟨Bk, 0, none⟩)]) rfl trivial (enters_of Tryd.func34 (by kernel_rfl) rfl)
          (steps_seq 5 (by omega) Bk (fun k => k = W.heap.size) ao1 cap1 l Wr _ ?hM (Bytes.below HVK.out HBR.out) ?hvM ?hMk ((HBR.out.cell (p := ⟨Bk, 0, none⟩) hk2).trans ck) (by omega))
          KeepC.trans (fun W l o o' _ h hc _ => KeepC.put W l o o' h hc) (Below.refl _ _) (fun _ => rfl)
          (fun pre V => Below w1.heap.size w1 V ∧ Boxed V Bt 3 (.int .i64 (t : Nat)) ∧ Boxed V W.heap.size 3 (.int .i64 (pre.length : Nat)) ∧ (t = 0 → pre = [] ∨ (pre.length : Int) < m) ∧ Marks w1.heap.size W.heap.size V ds)
          (fun c pre V => c = .exit 2 ∧ Below w1.heap.size w1 V ∧ Boxed V Bt 3 (.int .i64 (t : Nat)) ∧ Boxed V W.heap.size 3 (.int .i64 (pre.length : Nat)) ∧ (t = 0 ∧ (pre.length : Int) = max 1 m) ∧ Marks w1.heap.size W.heap.size V ds)
          ?own ?ownx ?h0 (fun x => { tmps := #[Value.slice ao l.length cap, Value.int IntKind.i64 m, Value.pointer (some { block := w.heap.size, off := 0 }), Value.pointer (some { block := w.heap.size + 1, off := 0 }), Value.pointer (some { block := w.heap.size + 1 + 1, off := 0 }), Value.func (Fn.func 34) #[] #[Value.pointer (some { block := Bk, off := 0 })], Value.pointer (some { block := Bt, off := 0 }), Value.pointer (some { block := W.heap.size, off := 0 }), Value.int IntKind.i64 ((x : Nat) : Int), Value.int IntKind.u64 ((sumS (l.take x) : Nat) : Int), Value.slice ao l.length cap, Value.int IntKind.i64 ↑l.length, Value.bool false, undef, Value.slice ao l.length cap, Value.func (Fn.func 34) #[] #[Value.pointer (some { block := Bk, off := 0 })], Value.func (Fn.func 34) #[] #[Value.pointer (some { block := Bk, off := 0 })], Value.bool false, Value.int IntKind.i64 ↑t, Value.bool true, u20, u21, Value.func (Fn.func 34) #[] #[Value.pointer (some { block := Bk, off := 0 })], Value.int IntKind.i64 ((x : Nat) : Int), Value.int IntKind.u64 ((sumS (l.take x) : Nat) : Int), u25, u26, u27, u28, u29, u30, u31, u32, u33, u34, u35, u36, u37, u38, u39, u40, u41, u42, u43, u44, u45, u46, u47, u48, u49, u50, u51, u52, u53, u54, u55, u56, u57, u58, u59, u60, u61, u62, u63, u64, u65, u66, u67, u68, u69, u70, u71, u72, u73, u74, u75], defers := [] }) ?assign ?body ?done ?stop
        case hM => intro b hb; rw [hb, HSR.out]; omega
        case hvM => intro b o e hb; have := HAK.out b o e; omega
        case hMk => omega
        case own => exact fun s A B hs hb => ⟨hs.1.trans (hb.mono (by rw [HSR.out]; omega)), boxed_below hs.2.1 hb (by rw [HSR.out]; omega), boxed_below hs.2.2.1 hb (by rw [HSR.out]; omega), hs.2.2.2.1, hs.2.2.2.2.below hb (by rw [HSR.out]; omega)⟩
        case ownx => exact fun c s A B hs hb => ⟨hs.1, hs.2.1.trans (hb.mono (by rw [HSR.out]; omega)), boxed_below hs.2.2.1 hb (by rw [HSR.out]; omega), boxed_below hs.2.2.2.1 hb (by rw [HSR.out]; omega), hs.2.2.2.2.1, hs.2.2.2.2.2.below hb (by rw [HSR.out]; omega)⟩
        case h0 => exact ⟨HBR.out, HB0.out.1, HB0.out.2, fun _ => .inl rfl, HM.out.below AR.out (Nat.le_refl _)⟩
        case assign =>
          intro l2 x W2 K hK
          gi_wp2
          exact hK
        case body =>
          clear ct ft c2 c3
          rintro l2 pre x W2 ⟨hb2, bt2, bn2, hpm, hm2⟩ hgx
          obtain ⟨hx1, hpre⟩ := id hgx
          have hpl : pre.length = x := by rw [hpre, List.length_range]
          rw [hpl] at bn2 hpm
          have HPL := Lib.hid hpl; clear hpl hpre hgx
          have ct := bt2.cell
          have cn := bn2.cell
          have fn := bn2.frozen
          have HBB := Lib.hid (And.intro hb2 (And.intro bt2 (And.intro bn2 hm2))); clear bt2 bn2 hm2
          have HPM := Lib.hid hpm; clear hpm
          have c22 := (boxed_adds HBX1.out.v HBB.out.1).cell
          have c23 := (boxed_adds HBX1.out.m HBB.out.1).cell
          clear hb2
          have hd : 1 ≤ 6 - 1 - 1 := by omega
          have hxl : x ≤ l.length := by omega
          have hdl : decide (l.length < x) = false := by rw [decide_eq_false_iff_not]; omega
          have HRO := Lib.hid (refOf_any _ _ W2 (bytes_pre (Bytes.below HVW1.out HBB.out.1) hxl))
          obtain ⟨sv, hsv⟩ : ∃ sv, sumS (l.take x) = sv := ⟨_, rfl⟩
          rw [hsv] at HRO
          simp only [hsv]
          clear hsv hx1
          have hkf : KeepsFrom Wr.heap.size W2 (W2.setCell ⟨W.heap.size, 0, none⟩ (.int .i64 ((x : Int) + 1))) := (KeepsOthers.setCell _ _ _).from _
          have hb3 : Below w1.heap.size w1 (W2.setCell ⟨W.heap.size, 0, none⟩ (.int .i64 ((x : Int) + 1))) := HBB.out.1.setCell (p := ⟨W.heap.size, 0, none⟩) hsz _
          have ht3 : Boxed (W2.setCell ⟨W.heap.size, 0, none⟩ (.int .i64 ((x : Int) + 1))) Bt 3 (.int .i64 (t : Nat)) := HBB.out.2.1.other (by omega) _
          have hn3 : Boxed (W2.setCell ⟨W.heap.size, 0, none⟩ (.int .i64 ((x : Int) + 1))) W.heap.size 3 (.int .i64 ((pre ++ [x]).length : Nat)) := by
            have := HBB.out.2.2.1.set (.int .i64 ((x : Int) + 1))
            rw [List.length_append, HPL.out]
            exact this
          have hm3 : Marks w1.heap.size W.heap.size (W2.setCell ⟨W.heap.size, 0, none⟩ (.int .i64 ((x : Int) + 1))) ds :=
            HBB.out.2.2.2.below ((Below.refl W.heap.size W2).setCell (p := ⟨W.heap.size, 0, none⟩) (Nat.le_refl _) _) (Nat.le_refl _)
          have hln : ((pre ++ [x]).length : Int) = (x : Int) + 1 := by rw [List.length_append, HPL.out]; simp
          have hp0 : pre = [] ↔ x = 0 := by rw [← List.length_eq_zero_iff, HPL.out]
          have HE := Lib.hid (And.intro hkf (And.intro hb3 (And.intro ht3 (And.intro hn3 (And.intro hm3 (And.intro hln hp0)))))); clear hkf hb3 ht3 hn3 hm3 hln hp0
          by_cases ht0 : t = 0
          · subst ht0
            by_cases hmx : m ≤ (x : Int) + 1
            · gi_wp2_with (refine ⟨trivial, ?_⟩; gi_at_call 13; refine (CallsIn.inRound l2 (callsIn_wide.2 HRO.out)).mono ?_; rintro e w' ⟨rfl, rfl⟩)
              obtain ⟨hkf, hb3, ht3, hn3, hm3, hln, hp0⟩ := HE.out
              exact ⟨hkf, rfl, hb3, ht3, hn3, (by rw [hln]; rcases HPM.out (by simp) with h | h; (· rw [hp0] at h; omega); omega), hm3⟩
            · gi_wp2_with (refine ⟨trivial, ?_⟩; gi_at_call 13; refine (CallsIn.inRound l2 (callsIn_wide.2 HRO.out)).mono ?_; rintro e w' ⟨rfl, rfl⟩)
              obtain ⟨hkf, hb3, ht3, hn3, hm3, hln, hp0⟩ := HE.out
              exact ⟨hkf, keepC_set _ _ _, hb3, ht3, hn3, .inr (by rw [hln]; omega), hm3⟩
          · obtain rfl : t = 1 := by omega
            gi_wp2_with (refine ⟨trivial, ?_⟩; gi_at_call 13; refine (CallsIn.inRound l2 (callsIn_wide.2 HRO.out)).mono ?_; rintro e w' ⟨rfl, rfl⟩)
            obtain ⟨hkf, hb3, ht3, hn3, hm3, hln, hp0⟩ := HE.out
            exact ⟨hkf, keepC_set _ _ _, hb3, ht3, hn3, (fun h => by cases h), hm3⟩
        case done =>
          clear ct ft c2 c3
          rintro D xs W2 hD rfl ⟨hb2, bt2, bn2, hpm, hm2⟩ hK
          rw [List.length_range] at bn2 hpm
          have hN : t = 0 → ((l.length + 1 : Nat) : Int) = min ((l.length : Int) + 1) (max 1 m) := by
            intro h0
            rcases hpm h0 with h | h
            · rw [List.range_succ] at h; simp at h
            · omega
          have HEND := Lib.hid (turn_end (a := #[]) hb2 (by rw [HSR.out] at hD; omega) hD hK hm2 (by rw [HSR.out]; omega))
          have ct := bt2.cell
          have cn := bn2.cell
          have c22 := (boxed_adds HBX1.out.v hb2).cell
          have c23 := (boxed_adds HBX1.out.m hb2).cell
          clear hpm hK hm2 hb2 bt2 bn2
          by_cases ht0 : t = 0
          · subst ht0
            have hN0 := hN rfl
            clear hN
            gi_wp2
            all_goals
              obtain ⟨e1, e2, e3⟩ := HEND.out
              exact ⟨1, by have := HG.out; omega, 1, W2.heap.size, _, _, _, _, _, _, _, _, _, _, _, _, _, _, _, _, _, _, _, _, _, _, _, _, _, _, _, _, _, _, _, _, _, _, _, _, _, _, _, _, _, _, _, _, _, _, _, _, _, _, _, _, _, _, _, _, _, _, _, _, _, _, rfl, rfl, e1.alloc e1.size _, e1.size, Boxed.new _ _ _, (e3.below (Adds.new _ _) (Nat.le_refl _)).up (by simp)⟩
          · obtain rfl : t = 1 := by omega
            clear hN
            gi_wp2
            all_goals
              obtain ⟨e1, e2, e3⟩ := HEND.out
              exact ⟨0, by have := HG.out; omega, 2, W2.heap.size, _, _, _, _, _, _, _, _, _, _, _, _, _, _, _, _, _, _, _, _, _, _, _, _, _, _, _, _, _, _, _, _, _, _, _, _, _, _, _, _, _, _, _, _, _, _, _, _, _, _, _, _, _, _, _, _, _, _, _, _, _, _, rfl, rfl, e1.alloc e1.size _, e1.size, Boxed.new _ _ _, (e3.below (Adds.new _ _) (Nat.le_refl _)).up (by simp)⟩
        case stop =>
          clear ct ft c2 c3
          rintro D c pre W2 hD ⟨j, hj, hpre⟩ ⟨rfl, hb2, bt2, bn2, ⟨ht0, hmx⟩, hm2⟩ hK
          have hpl : pre.length = j := by rw [hpre, List.length_range]
          rw [hpl] at bn2 hmx
          subst ht0
          have hN0 : (j : Int) = min ((l.length : Int) + 1) (max 1 m) := by omega
          have HEND := Lib.hid (turn_end (a := #[]) hb2 (by rw [HSR.out] at hD; omega) hD hK hm2 (by rw [HSR.out]; omega))
          have ct := bt2.cell
          have cn := bn2.cell
          have c22 := (boxed_adds HBX1.out.v hb2).cell
          have c23 := (boxed_adds HBX1.out.m hb2).cell
          clear hK hm2 hb2 bt2 bn2 hpl hpre hj hmx
          gi_wp2
          all_goals
            obtain ⟨e1, e2, e3⟩ := HEND.out
            exact ⟨1, by have := HG.out; omega, 1, W2.heap.size, _, _, _, _, _, _, _, _, _, _, _, _, _, _, _, _, _, _, _, _, _, _, _, _, _, _, _, _, _, _, _, _, _, _, _, _, _, _, _, _, _, _, _, _, _, _, _, _, _, _, _, _, _, _, _, _, _, _, _, _, _, _, rfl, rfl, e1.alloc e1.size _, e1.size, Boxed.new _ _ _, (e3.below (Adds.new _ _) (Nat.le_refl _)).up (by simp)⟩
      · have HK := Lib.hid (works2_any W (HW1.out.below HB.out))
        gi_wp2_with (refine ⟨trivial, ?_⟩; gi_at_call 12; refine (callsIn_wide.2 HK.out).mono ?_; rintro e w2 ⟨rfl, a2⟩; have hbr := boxed_adds (boxed_adds HBX1.out.r HB.out) a2; have c4 := hbr.cell; have f4 := hbr.frozen; have HBRR := Lib.hid hbr; clear hbr; have A2 := Lib.hid a2; clear a2)
        show LeavesInM _ _ _ _ _ _ _ _ _
        have hbs : Below w1.heap.size w1 w2 := HB.out.trans (Below.mono A2.out hsz)
        have hms : Marks w1.heap.size W.heap.size (w2.setCell ⟨w.heap.size + 1 + 1, 0, none⟩ (.bool true)) ds := marks_set (HM.out.below A2.out (Nat.le_refl _)) (by omega) _
        refine marks_leave ds _ _ hms fun W'' hb'' => ⟨.bool true, results_box rfl Tryd.underlying4 _ _ _ (.bool true) rfl (boxed_below (HBRR.out.set (.bool true)) hb'' (by omega)).cell, rfl, ?_⟩
        have h0 : Below w.heap.size w w1 := A0.out.trans (Below.mono A1.out (by omega))
        exact h0.trans (((hbs.mono (by omega)).setCell (p := ⟨w.heap.size + 1 + 1, 0, none⟩) (by show w.heap.size ≤ w.heap.size + 1 + 1; omega) _).trans (hb''.mono (by omega)))
end Go.Proofs.YtbhggjgghngeeaaDoor
