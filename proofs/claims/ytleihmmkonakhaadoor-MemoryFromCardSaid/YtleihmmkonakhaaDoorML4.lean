/- The law MemoryFrom, walked. -/
import Derived.Sort.LoopGhostIn
import Derived.Test.YtleihmmkonakhaaDoorMRA
import Derived.Test.YtleihmmkonakhaaDoorTurn
namespace Go.Proofs.YtleihmmkonakhaaDoor
open Go Go.RowKit Go.Shelf Go.Maps
attribute [local go_sem] Oper.semAt_some

theorem HasM.store_iter {w0 w1 w : World} {vm lv : Value} {S : Nat → Nat} {l : List (Nat × Nat)} (h : HasM w0 w1 vm S) (ha : Adds w1 w) (hl : CellsW (fun g => g < w0.heap.size ∨ w1.heap.size ≤ g) w lv l) (hok : cellsOk l)
    {n0 : Nat} {fv : Value} {S' : Nat → Nat} {a' : Nat} (hi : IterAt w n0 fv S' a') (hn : w1.heap.size ≤ n0) :
    Calls Tryd.prog 12 #[vm, lv] w fun e w' => e = .returned (.int .i64 0) ∧ HasM w0 w' vm (storeAll S l) ∧ KeepT w w' ∧ IterAt w' n0 fv S' a' := by
  obtain ⟨⟨bm, b, L, h1, h2⟩, h3⟩ := h
  have k1 := h1.adds ha
  refine (storeM_any bm b vm lv l S L w k1 (hl.mono fun g hg hx hf => ?_) hok).mono ?_
  · rcases hx with hx | hx
    · have := h2 g hf; omega
    · have := h1.foot_lt hf; omega
  · rintro e w' ⟨he, K', m1, f1, n1⟩
    refine ⟨he, ⟨⟨bm, b, K', m1, fun k hk => ?_⟩, Frm.adds (Adds.trans h3 ha) f1 (fun i hi => h2 i (.inr hi))⟩, frm_keepT k1.mem f1, hi.frm f1 (fun k hk _ hf => by have := h1.foot_lt (.inr hf); omega)⟩
    rcases hk with rfl | hk
    · exact h2 _ (.inl rfl)
    · rcases n1 k hk with hk | hk
      · exact h2 k (.inr hk)
      · exact Nat.le_trans (Nat.le_trans h3.size ha.size) hk
theorem IterAt.func {w : World} {n0 : Nat} {fv : Value} {S : Nat → Nat} {a : Nat} (h : IterAt w n0 fv S a) : ∃ fn x y, fv = .func fn x y := by
  obtain ⟨b, L, B1, B2, rfl, _⟩ := h; exact ⟨_, _, _, rfl⟩
theorem boxed_keepT {w w' : World} {B : Nat} {t : TypeId} {v : Value} (h : Boxed w B t v) (hk : KeepT w w') (ht : t ≠ 76) : Boxed w' B t v := hk B _ t ht h

/-- How the law stands ahead of turn t. -/
def FromTurn (n0 n1 B10 : Nat) (fv : Value) (w7 : World) (g : Nat) (aa : Act) (W : World) : Prop :=
  ∃ (t Bt : Nat) (ds : List Deferred) (f : Nat → Value), t + g = 2 ∧ aa = { tmps := #[f 0, f 1, f 2, f 3, f 4, Value.pointer (some { block := n0, off := 0 }), Value.pointer (some { block := n1, off := 0 }), f 7, f 8, fv, Value.pointer (some { block := B10, off := 0 }), Value.pointer (some { block := Bt, off := 0 }), f 12, f 13, f 14, f 15, f 16, f 17, f 18, f 19, f 20, f 21, f 22, f 23, f 24, f 25, f 26, f 27, f 28, f 29, f 30, f 31, f 32, f 33, f 34, f 35, f 36, f 37, f 38, f 39, f 40, f 41, f 42, f 43, f 44, f 45, f 46, f 47, f 48, f 49, f 50, f 51, f 52, f 53, f 54, f 55, f 56, f 57, f 58, f 59, f 60, f 61, f 62, f 63, f 64, f 65, f 66, f 67, f 68, f 69, f 70, f 71, f 72, f 73, f 74, f 75, f 76, f 77, f 78, f 79, f 80, f 81, f 82, f 83, f 84, f 85, f 86, f 87, f 88, f 89, f 90, f 91, f 92, f 93, f 94, f 95, f 96, f 97, f 98, f 99, f 100, f 101, f 102], defers := ds } ∧ Below w7.heap.size w7 W ∧ w7.heap.size ≤ Bt ∧ Boxed W Bt 3 (.int .i64 (t : Nat)) ∧ Marks w7.heap.size W.heap.size W ds
set_option maxRecDepth 100000 in
theorem FromTurn.mk (n0 n1 B10 : Nat) (fv : Value) (w7 : World) {g : Nat} {aa : Act} {W : World} (t Bt : Nat) (hg : t + g = 2) (hs : aa.tmps.size = 103) (h5 : aa.tmps[5]? = some (Value.pointer (some { block := n0, off := 0 }))) (h6 : aa.tmps[6]? = some (Value.pointer (some { block := n1, off := 0 }))) (h9 : aa.tmps[9]? = some (fv)) (h10 : aa.tmps[10]? = some (Value.pointer (some { block := B10, off := 0 }))) (h11 : aa.tmps[11]? = some (Value.pointer (some { block := Bt, off := 0 })))
    (hb : Below w7.heap.size w7 W) (hB : w7.heap.size ≤ Bt) (hx : Boxed W Bt 3 (.int .i64 (t : Nat))) (hm : Marks w7.heap.size W.heap.size W aa.defers) : FromTurn n0 n1 B10 fv w7 g aa W := by
  rcases aa with ⟨tmps, ds⟩
  obtain ⟨f, rfl⟩ := arr_fun tmps 103 hs
  have e5 : f 5 = Value.pointer (some { block := n0, off := 0 }) := Option.some.inj h5; have e6 : f 6 = Value.pointer (some { block := n1, off := 0 }) := Option.some.inj h6; have e9 : f 9 = fv := Option.some.inj h9; have e10 : f 10 = Value.pointer (some { block := B10, off := 0 }) := Option.some.inj h10; have e11 : f 11 = Value.pointer (some { block := Bt, off := 0 }) := Option.some.inj h11
  refine ⟨t, Bt, ds, f, hg, ?_, hb, hB, hx, hm⟩
  show ({ tmps := #[f 0, f 1, f 2, f 3, f 4, f 5, f 6, f 7, f 8, f 9, f 10, f 11, f 12, f 13, f 14, f 15, f 16, f 17, f 18, f 19, f 20, f 21, f 22, f 23, f 24, f 25, f 26, f 27, f 28, f 29, f 30, f 31, f 32, f 33, f 34, f 35, f 36, f 37, f 38, f 39, f 40, f 41, f 42, f 43, f 44, f 45, f 46, f 47, f 48, f 49, f 50, f 51, f 52, f 53, f 54, f 55, f 56, f 57, f 58, f 59, f 60, f 61, f 62, f 63, f 64, f 65, f 66, f 67, f 68, f 69, f 70, f 71, f 72, f 73, f 74, f 75, f 76, f 77, f 78, f 79, f 80, f 81, f 82, f 83, f 84, f 85, f 86, f 87, f 88, f 89, f 90, f 91, f 92, f 93, f 94, f 95, f 96, f 97, f 98, f 99, f 100, f 101, f 102], defers := ds } : Act) = _
  simp only [e5, e6, e9, e10, e11]

set_option maxRecDepth 100000 in
set_option maxHeartbeats 16000000 in
theorem law_fromM (v : Value) (l : List (Nat × Nat)) (a : Nat) (m : Int) (w : World) (hl : CellsW (fun g => g < w.heap.size) w v l) (hok : cellsOk l) (ha : a < 4294967296) (hw : Widths w) :
    Calls Tryd.prog 4 #[v, .int .u32 ((a : Nat) : Int), .int .i64 m] w (TrueM w) := by
  have HW := Lib.hid hw; have HOK := Lib.hid hok; have HAa := Lib.hid ha
  have HNum := Lib.hid numM_any
  have hnn := seq2_not_nil
  clear hw hok ha
  obtain ⟨ao, cap, rfl, h1, h2, _⟩ := id hl
  have HL := Lib.hid hl
  clear hl
  unfold maxLen at h2
  refine (callsIn_wide (n := 9)).1 ?_
  refine callsIn_of_wp_marks Tryd.func4 rfl trivial ?_ rfl
  simp only [Tryd.ntmps4, List.size_toArray, List.length_cons, List.length_nil, Nat.reduceAdd, Nat.reduceSub, Array.replicate_succ, Array.replicate_zero, List.push_toArray, List.append_toArray, List.nil_append, List.cons_append]
  obtain ⟨w1, hw1⟩ : ∃ w1, (w.alloc (.cells #[.int .i64 m] 3)).alloc (.cells #[.bool false] 4) = w1 := ⟨_, rfl⟩
  have A1 := Lib.hid (show Adds w w1 by rw [← hw1]; exact Adds.trans (Adds.new _ _) (Adds.new _ _))
  have HS1 := Lib.hid (show w1.heap.size = w.heap.size + 1 + 1 by rw [← hw1]; simp)
  have HB5 := Lib.hid (show Boxed w1 w.heap.size 3 (.int .i64 m) by rw [← hw1]; exact (Below.block (Adds.new _ _) _ (by simp)).trans (heap_alloc_new w _))
  have HB6 := Lib.hid (show Boxed w1 (w.heap.size + 1) 4 (.bool false) by rw [← hw1]; have := heap_alloc_new (w.alloc (.cells #[.int .i64 m] 3)) (.cells #[.bool false] 4); unfold Boxed; simpa using this)
  have HW1 := Lib.hid hw1
  have HWk := Lib.hid (fun (W : World) (h : Adds w W) => worksM_any W (HW.out.below h))
  by_cases h30 : 30 < l.length
  · have h30' : (30 : Int) < (l.length : Int) := by omega
    clear h30
    have HK := Lib.hid (hw1 ▸ HWk.out w1 A1.out)
    clear hw1
    gi_wp2_with (refine ⟨trivial, ?_⟩; gi_at_call 8; refine (callsIn_wide.2 HK.out).mono ?_; rintro z w2 ⟨rfl, a2⟩; rw [HW1.out] at a2; have hbr := boxed_adds HB6.out a2; have c4 := hbr.cell; have f4 := hbr.frozen; have HBRR := Lib.hid hbr; clear hbr; have A2 := Lib.hid a2; clear a2)
    show LeavesInM _ _ _ _ _ _ _ _ _
    refine marks_leave [] w.heap.size _ (B := w.heap.size + 1 + 1) trivial fun W'' hb'' => ⟨.bool true, results_box rfl Tryd.underlying4 _ _ _ (.bool true) rfl (boxed_below (HBRR.out.set (.bool true)) hb'' (by omega)).cell, rfl, ?_⟩
    have h0 : Below w.heap.size w w2 := Adds.trans A1.out A2.out
    exact h0.trans (((Below.refl w.heap.size w2).setCell (p := ⟨w.heap.size + 1, 0, none⟩) (by show w.heap.size ≤ w.heap.size + 1; omega) _).trans (hb''.mono (by omega)))
  · have h30' : ¬ (30 : Int) < (l.length : Int) := by omega
    clear h30
    have HPl := Lib.hid (played_any (.slice ao l.length cap) l w1 ((HL.out.mono (fun g _ h => Nat.lt_of_lt_of_le h A1.out.size)).frm (Frm.of_adds (fun _ => False) A1.out) (fun _ _ => id)) HOK.out)
    obtain ⟨S, hS⟩ : ∃ S, storeAll (fun _ => 0) l = S := ⟨_, rfl⟩
    obtain ⟨cs, hcs⟩ : ∃ cs, refC l = cs := ⟨_, rfl⟩
    rw [hS, hcs, ← hw1] at HPl
    clear hS hcs hw1
    gi_wp2_with (refine ⟨trivial, ?_⟩; gi_at_call 17; refine (callsIn_wide.2 HPl.out).mono ?_; rintro e w2 ⟨vm, rv, rfl, q1⟩; rw [HW1.out] at q1; have Q1 := Lib.hid q1; obtain ⟨rp, rn, rc, rfl⟩ := q1.ref.slice; clear q1)
    have HA12 := Lib.hid Q1.out.mem.low
    obtain ⟨W3, hW3⟩ : ∃ W3, w2.alloc (.cells #[.slice rp rn rc] 27) = W3 := ⟨_, rfl⟩
    have HA23 := Lib.hid (show Adds w2 W3 by rw [← hW3]; exact Adds.new _ _)
    have HX8 := Lib.hid (show Boxed W3 w2.heap.size 27 (.slice rp rn rc) by rw [← hW3]; exact heap_alloc_new _ _)
    have HFr := Lib.hid ((Q1.out.mem.adds HA23.out).from a)
    rw [← hW3] at HFr
    have HW3 := Lib.hid hW3
    clear hW3
    gi_wp2_with (refine ⟨trivial, ?_⟩; gi_at_call 18; refine (callsIn_wide.2 HFr.out).mono ?_; rintro e w4 ⟨fv, rfl, h4, h5⟩; obtain ⟨fn, x1, x2, rfl⟩ := h4.func; rw [HW3.out] at h4 h5; have HI4 := Lib.hid h4; have HA34 := Lib.hid h5; have HSt := Lib.hid ((Q1.out.mem.adds HA23.out).store_iter (Adds.trans h5 (Adds.new w4 (.cells #[.int .u32 ((a : Nat) : Int), .int .u32 ((9 : Nat) : Int), .int .u32 ((4294967295 : Nat) : Int), .int .u32 ((8 : Nat) : Int)] 31))) (cells_lit2 _ w4 (a, 9) (4294967295, 8) (.inr h5.size)) (by intro y hy; simp at hy; rcases hy with rfl | rfl; (· exact ⟨HAa.out, by simp⟩); (· exact ⟨by simp, by simp⟩)) (h4.adds (Adds.new w4 _)) (Nat.le_refl _)); clear h4 h5)
    have HFew := Lib.hid (cells_few Q1.out.cells)
    have HRF := Lib.hid (fun (W : World) (h : CellsW (fun _ => True) W (.slice rp rn rc) cs) => refFrom_any (.slice rp rn rc) cs a W h Q1.out.cells.rise)
    obtain ⟨fl, hfl⟩ : ∃ fl, (cs.filter fun x => decide (a ≤ x.1)) = fl := ⟨_, rfl⟩
    rw [hfl] at HRF
    have HFL := Lib.hid hfl
    clear hfl
    gi_wp2_with (first
      | (refine ⟨trivial, ?_⟩; gi_at_call 12; refine (callsIn_wide.2 HSt.out).mono ?_; rintro e w5 ⟨rfl, q1, q2, q3⟩; have HM5 := Lib.hid q1; have HI5 := Lib.hid q3; have HK45 := Lib.hid q2; have HK35 := Lib.hid (KeepT.trans (KeepT.of_adds (Adds.trans HA34.out (Adds.new w4 _))) q2); have HO5 := Lib.hid ((Q1.out.ref.adds HA23.out).keepA (KeepT.trans (KeepT.of_adds (Adds.trans HA34.out (Adds.new w4 _))) q2).a); have hx8 := boxed_keepT HX8.out HK35.out (by decide); have HX85 := Lib.hid hx8; have c8 := hx8.cell; clear q1 q2 q3 hx8)
      | (refine ⟨trivial, ?_⟩; gi_at_call 11; refine (callsIn_wide.2 (HNum.out _ _)).mono ?_; rintro e w3 ⟨rfl, rfl⟩)
      | (refine ⟨trivial, ?_⟩; gi_at_call 19; refine (callsIn_wide.2 (HRF.out w5 (HO5.out.cells.mono fun _ _ _ => trivial))).mono ?_; rintro e w6 ⟨u, rfl, q1, q2⟩; obtain ⟨ao9, cap9, rfl, _⟩ := id q1; have HU6 := Lib.hid q1; have HA56 := Lib.hid q2; clear q1 q2 c8))
    have hiter := HI5.out
    obtain ⟨b, L, B1, B2, hfv, q1, q2, q3, _⟩ := hiter
    injection hfv with hf1 hf2 hf3
    subst hf1 hf2 hf3
    obtain ⟨w7, hw7⟩ : ∃ w7, w6.alloc (.cells #[.slice ao9 fl.length cap9] 22) = w7 := ⟨_, rfl⟩
    have HA67 := Lib.hid (show Adds w6 w7 by rw [← hw7]; exact Adds.new _ _)
    have HA57 := Lib.hid (Adds.trans HA56.out HA67.out)
    have HS7 := Lib.hid (show w7.heap.size = w6.heap.size + 1 by rw [← hw7]; simp)
    have H10 := Lib.hid (show Boxed w7 w6.heap.size 22 (.slice ao9 fl.length cap9) by rw [← hw7]; exact heap_alloc_new _ _)
    have AW7 := Lib.hid (show Adds w w7 from Adds.trans A1.out (Adds.trans HM5.out.low HA57.out))
    have HKA := Lib.hid (KeepT.trans (KeepT.of_adds (Adds.trans HA12.out HA23.out)) (KeepT.trans HK35.out (KeepT.of_adds HA57.out)))
    have BM := Lib.hid (boxed_keepT HB5.out HKA.out (by decide))
    have BR := Lib.hid (boxed_keepT HB6.out HKA.out (by decide))
    have HU7 := Lib.hid (cells_adds HU6.out HA67.out)
    have HQ1 := Lib.hid (q1.adds HA57.out)
    have HQ2 := Lib.hid (And.intro (HA57.out.cellAt q2) (HA57.out.cellAt q3))
    rw [hw7]
    clear hw7 q1 q2 q3 HU6
    obtain ⟨B10, hB10⟩ : ∃ B, w6.heap.size = B := ⟨_, rfl⟩
    have hB11 : w6.heap.size + 1 = w7.heap.size := HS7.out.symm
    rw [hB11, hB10]
    rw [hB10] at HS7 H10
    clear hB10 hB11
    obtain ⟨n0, hn0⟩ : ∃ n0, w.heap.size = n0 := ⟨_, rfl⟩
    have HN0 := Lib.hid hn0
    rw [hn0] at BM BR HS1 ⊢
    obtain ⟨n1, hn1⟩ : ∃ n1, n0 + 1 = n1 := ⟨_, rfl⟩
    have HN1 := Lib.hid hn1
    rw [hn1] at BR ⊢
    clear hn0 hn1 HPl HSt HFr HRF HI5 HI4 HO5 HX8 HX85 HK45 HK35 HW3
    have hfull : psL S a (sortU (L.map (·.1))) = fl := by rw [from_cells HQ1.out Q1.out.cells a]; exact HFL.out
    have HFN := Lib.hid (show fl.length ≤ 4294967296 by have h1 := HFew.out; have h2 : fl.length ≤ cs.length := (by rw [← HFL.out]; exact List.length_filter_le _ _); omega)
    have hm0 := BM.out.lt
    have hm1 := BR.out.lt
    have hm2 := H10.out.lt
    refine wpIn_loop_ghost (FromTurn n0 n1 B10 (.func (.func 49) #[] #[.pointer (some ⟨B1, 0, none⟩), .pointer (some ⟨B2, 0, none⟩)]) w7) 2 ?start ?round
    case start => exact FromTurn.mk _ _ _ _ w7 0 w7.heap.size rfl rfl rfl rfl rfl rfl rfl (Adds.new _ _) (Nat.le_refl _) (Boxed.new _ _ _) trivial
    case round =>
      rintro g aa W ⟨t, Bt, ds, f, hg, rfl, hb, hBt, bt, hm⟩
      have HG := Lib.hid hg; clear hg
      have ct := bt.cell
      have ft := bt.frozen
      have HBT := Lib.hid bt; clear bt
      have HM := Lib.hid hm; clear hm
      have HB := Lib.hid hb; clear hb
      have HSW := Lib.hid HB.out.size
      by_cases ht : t < 2
      · have hsz := HSW.out
        gi_wp2
        rw [show decide ((t : Int) < 2) = true by rw [decide_eq_true_eq]; omega]
        generalize hWr : W.alloc (Obj.cells #[Value.int IntKind.i64 0] 3) = Wr
        have bn0 : Boxed Wr W.heap.size 3 (.int .i64 (([] : List (Nat × Nat)).length : Nat)) := hWr ▸ Boxed.new W _ _
        have bt0 : Boxed Wr Bt 3 (.int .i64 (t : Nat)) := hWr ▸ HBT.out.alloc _
        have AR := Lib.hid (hWr ▸ Adds.new W _ : Adds W Wr)
        have HSR := Lib.hid (show Wr.heap.size = W.heap.size + 1 by rw [← hWr]; simp)
        clear hWr
        have HB0 := Lib.hid (And.intro bt0 bn0); clear bt0 bn0
        have HBR := Lib.hid (HB.out.trans (Below.mono AR.out hsz))
        have hBtl := HBT.out.lt
        have HBTL := Lib.hid hBtl
        have hq1l := HQ1.out.map.lt
        have HSQ := Lib.hid (from_seqS 8 (by omega) B1 B2 b (fun k => k = W.heap.size) S L a HAa.out Wr (fun k h => by rw [h, HSR.out]; omega) (fun h => by have h0 : B1 < w7.heap.size := World.block_lt_of_cell? w7 _ HQ2.out.1; omega) (fun h => by have h0 : B2 < w7.heap.size := World.block_lt_of_cell? w7 _ HQ2.out.2; omega)
          (fun x hx h => by have := HQ1.out.foot_lt (k := x.2) (.inr (List.mem_map.2 ⟨x, hx, rfl⟩)); omega) (Adds.cellAt HBR.out HQ2.out.1) (Adds.cellAt HBR.out HQ2.out.2) (HQ1.out.adds HBR.out))
        rw [hfull] at HSQ
        refine' rangeFunc_S rfl (by omega) (gf := 49) (lb := #[.pointer (some ⟨B1, 0, none⟩), .pointer (some ⟨B2, 0, none⟩)]) rfl trivial (enters_of Tryd.func49 (by kernel_rfl) rfl) HSQ.out
          KeepF.trans (fun W l o o' hl h hc _ => KeepF.put W l o o' h hc (by have := HSR.out; omega)) (Below.refl _ _) (fun _ => rfl)
          (fun pre V => Below w7.heap.size w7 V ∧ Boxed V Bt 3 (.int .i64 (t : Nat)) ∧ Boxed V W.heap.size 3 (.int .i64 (pre.length : Nat)) ∧ (t = 0 → pre = [] ∨ (pre.length : Int) < m) ∧ Marks w7.heap.size W.heap.size V ds)
          (fun c pre V => c = .exit 2 ∧ Below w7.heap.size w7 V ∧ Boxed V Bt 3 (.int .i64 (t : Nat)) ∧ Boxed V W.heap.size 3 (.int .i64 (pre.length : Nat)) ∧ (t = 0 ∧ (pre.length : Int) = max 1 m) ∧ Marks w7.heap.size W.heap.size V ds)
          ?own ?ownx ?h0 _ ?assign ?body ?done ?stop
        case assign =>
          intro l2 x W2 K hK
          have HK := Lib.hid hK; clear hK
          gi_wp2
          exact HK.out
        case own => exact fun s A B hs hb => ⟨hs.1.trans (hb.mono (by rw [HSR.out]; omega)), boxed_below hs.2.1 hb (by rw [HSR.out]; omega), boxed_below hs.2.2.1 hb (by rw [HSR.out]; omega), hs.2.2.2.1, hs.2.2.2.2.below hb (by rw [HSR.out]; omega)⟩
        case ownx => exact fun c s A B hs hb => ⟨hs.1, hs.2.1.trans (hb.mono (by rw [HSR.out]; omega)), boxed_below hs.2.2.1 hb (by rw [HSR.out]; omega), boxed_below hs.2.2.2.1 hb (by rw [HSR.out]; omega), hs.2.2.2.2.1, hs.2.2.2.2.2.below hb (by rw [HSR.out]; omega)⟩
        case h0 => exact ⟨HBR.out, HB0.out.1, HB0.out.2, fun _ => .inl rfl, HM.out.below AR.out (Nat.le_refl _)⟩
        case body =>
          clear ct ft
          rintro l2 pre ⟨y1, y2⟩ W2 ⟨hb2, bt2, bn2, hpm, hm2⟩ ⟨r, hr⟩
          have hlen : pre.length < fl.length := by rw [hr]; simp
          obtain ⟨gq, off, rfl, k0, k1⟩ := cells_read HU7.out hb2 hlen
          have hat : atL fl pre.length = (y1, y2) := by unfold atL; rw [hr]; simp [List.getD_eq_getElem?_getD]
          rw [hat] at k0 k1
          simp only at k0 k1
          obtain ⟨x, hpl⟩ : ∃ x, pre.length = x := ⟨_, rfl⟩
          rw [hpl] at bn2 hpm k0 k1 hlen
          have HPL := Lib.hid hpl; clear hpl hat hr
          have ct := bt2.cell
          have cn := bn2.cell
          have fn := bn2.frozen
          have c10 := (boxed_adds H10.out hb2).cell
          have c5 := (boxed_adds BM.out hb2).cell
          obtain ⟨N, hN⟩ : ∃ N, fl.length = N := ⟨_, rfl⟩
          have HNN := Lib.hid hN
          rw [hN] at c10 hlen
          have hlI : ¬ ((N : Int) ≤ (x : Int)) := by omega
          have hlI2 : (x : Int) < (N : Int) := by omega
          have hn9 : (N : Int) ≤ 4294967296 := by have h1 := HFN.out; omega
          have HBB := Lib.hid (And.intro hb2 (And.intro bt2 (And.intro bn2 hm2))); clear bt2 bn2 hm2 hb2 hN hlen
          have HPM := Lib.hid hpm; clear hpm
          have HE := Lib.hid (show KeepsFrom Wr.heap.size W2 (W2.setCell ⟨W.heap.size, 0, none⟩ (.int .i64 ((x : Int) + 1))) ∧ Below w7.heap.size w7 (W2.setCell ⟨W.heap.size, 0, none⟩ (.int .i64 ((x : Int) + 1))) ∧ Boxed (W2.setCell ⟨W.heap.size, 0, none⟩ (.int .i64 ((x : Int) + 1))) Bt 3 (.int .i64 (t : Nat)) ∧
              Boxed (W2.setCell ⟨W.heap.size, 0, none⟩ (.int .i64 ((x : Int) + 1))) W.heap.size 3 (.int .i64 ((pre ++ [(y1, y2)]).length : Nat)) ∧ Marks w7.heap.size W.heap.size (W2.setCell ⟨W.heap.size, 0, none⟩ (.int .i64 ((x : Int) + 1))) ds from by
            refine ⟨(KeepsOthers.setCell _ _ _).from _, HBB.out.1.setCell (p := ⟨W.heap.size, 0, none⟩) hsz _, HBB.out.2.1.other (by have := HBTL.out; omega) _, ?_, ?_⟩
            · have := HBB.out.2.2.1.set (.int .i64 ((x : Int) + 1))
              rw [List.length_append, HPL.out]
              exact this
            · exact HBB.out.2.2.2.below ((Below.refl W.heap.size W2).setCell (p := ⟨W.heap.size, 0, none⟩) (Nat.le_refl _) _) (Nat.le_refl _))
          have HKF := Lib.hid (show KeepF (fun k => k = W.heap.size) b W2 (W2.setCell ⟨W.heap.size, 0, none⟩ (.int .i64 ((x : Int) + 1))) from ⟨keepC_setT _ _ _, Below.heap_setCell W2 _ _ b (show b ≠ W.heap.size by omega)⟩)
          have HF2 := Lib.hid (show ((pre ++ [(y1, y2)]).length : Int) = (x : Int) + 1 by rw [List.length_append, HPL.out]; simp)
          have HX := Lib.hid (show pre = [] ↔ x = 0 by rw [← List.length_eq_zero_iff, HPL.out])
          have c5s : (W2.setCell ⟨W.heap.size, 0, none⟩ (.int .i64 ((x : Int) + 1))).cell? ⟨n0, 0, none⟩ = some (.int .i64 m) := turns_cell (Turns.setCell W.heap.size 0 W2 _) (by omega) c5
          have cts : (W2.setCell ⟨W.heap.size, 0, none⟩ (.int .i64 ((x : Int) + 1))).cell? ⟨Bt, 0, none⟩ = some (.int .i64 (t : Nat)) := turns_cell (Turns.setCell W.heap.size 0 W2 _) (by have := HBTL.out; omega) ct
          by_cases ht0 : t = 0
          · subst ht0
            by_cases hmx : m ≤ (x : Int) + 1
            · gi_wp2
              obtain ⟨hkf, hb3, ht3, hn3, hm3⟩ := HE.out
              have hln := HF2.out
              have hp0 := HX.out
              exact ⟨hkf, rfl, hb3, ht3, hn3, (by rw [hln]; rcases HPM.out (by simp) with h | h; (· rw [hp0] at h; omega); omega), hm3⟩
            · gi_wp2
              obtain ⟨hkf, hb3, ht3, hn3, hm3⟩ := HE.out
              have hln := HF2.out
              exact ⟨hkf, HKF.out, hb3, ht3, hn3, .inr (by rw [hln]; omega), hm3⟩
          · obtain rfl : t = 1 := by omega
            gi_wp2
            obtain ⟨hkf, hb3, ht3, hn3, hm3⟩ := HE.out
            exact ⟨hkf, HKF.out, hb3, ht3, hn3, hm3⟩
        case done =>
          clear ct ft
          rintro D xs W2 hD rfl ⟨hb2, bt2, bn2, hpm, hm2⟩ hK
          obtain ⟨N, hN⟩ : ∃ N, xs.length = N := ⟨_, rfl⟩
          rw [hN] at bn2 hpm
          have hn9 : (N : Int) ≤ 4294967296 := by have h1 := HFN.out; omega
          have hNm : t = 0 → min (N : Int) (max 1 m) = (N : Int) := by
            intro h0
            rcases hpm h0 with h | h
            · rw [h] at hN; simp at hN; omega
            · omega
          have HEND := Lib.hid (turn_endT (a := #[]) hb2 (by rw [HSR.out] at hD; omega) hD hK hm2 (by rw [HSR.out]; omega))
          have ct := bt2.cell
          have cn := bn2.cell
          have c10 := (boxed_adds H10.out hb2).cell
          rw [hN] at c10
          have c5 := (boxed_adds BM.out hb2).cell
          clear hpm hK hm2 hb2 bt2 bn2 hN
          by_cases ht0 : t = 0
          · subst ht0
            have hN0 := hNm rfl
            clear hNm
            gi_wp2
            all_goals
              obtain ⟨e1, e2, e3⟩ := HEND.out
              exact ⟨1, by have := HG.out; omega, FromTurn.mk _ _ _ _ w7 1 W2.heap.size (by omega) rfl rfl rfl rfl rfl rfl (e1.alloc e1.size _) e1.size (Boxed.new _ _ _) ((e3.below (Adds.new _ _) (Nat.le_refl _)).up (by simp))⟩
          · obtain rfl : t = 1 := by omega
            clear hNm
            gi_wp2
            all_goals
              obtain ⟨e1, e2, e3⟩ := HEND.out
              exact ⟨0, by have := HG.out; omega, FromTurn.mk _ _ _ _ w7 2 W2.heap.size (by omega) rfl rfl rfl rfl rfl rfl (e1.alloc e1.size _) e1.size (Boxed.new _ _ _) ((e3.below (Adds.new _ _) (Nat.le_refl _)).up (by simp))⟩
        case stop =>
          clear ct ft
          rintro D c9 pre W2 hD ⟨r, hr⟩ ⟨rfl, hb2, bt2, bn2, ⟨ht0, hmx⟩, hm2⟩ hK
          have hle : pre.length ≤ fl.length := by rw [hr]; simp
          obtain ⟨j, hpl⟩ : ∃ j, pre.length = j := ⟨_, rfl⟩
          obtain ⟨N, hN⟩ : ∃ N, fl.length = N := ⟨_, rfl⟩
          have hn9 : (N : Int) ≤ 4294967296 := by have h1 := HFN.out; omega
          rw [hpl] at bn2 hmx hle
          rw [hN] at hle
          subst ht0
          have hN0 : min (N : Int) (max 1 m) = (j : Int) := by omega
          have HEND := Lib.hid (turn_endT (a := #[]) hb2 (by rw [HSR.out] at hD; omega) hD hK hm2 (by rw [HSR.out]; omega))
          have ct := bt2.cell
          have cn := bn2.cell
          have c10 := (boxed_adds H10.out hb2).cell
          rw [hN] at c10
          have c5 := (boxed_adds BM.out hb2).cell
          clear hK hm2 hb2 bt2 bn2 hpl hr hle hmx hN
          gi_wp2
          all_goals
            obtain ⟨e1, e2, e3⟩ := HEND.out
            exact ⟨1, by have := HG.out; omega, FromTurn.mk _ _ _ _ w7 1 W2.heap.size (by omega) rfl rfl rfl rfl rfl rfl (e1.alloc e1.size _) e1.size (Boxed.new _ _ _) ((e3.below (Adds.new _ _) (Nat.le_refl _)).up (by simp))⟩
      · have HK := Lib.hid (HWk.out W (Adds.trans AW7.out (show Adds w7 W from HB.out)))
        have HBW := Lib.hid (boxed_adds BR.out HB.out)
        gi_wp2_with (refine ⟨trivial, ?_⟩; gi_at_call 8; refine (callsIn_wide.2 HK.out).mono ?_; rintro z w2 ⟨rfl, a2⟩; have hbr := boxed_adds HBW.out a2; have c4 := hbr.cell; have f4 := hbr.frozen; have HBRR := Lib.hid hbr; clear hbr; have A2 := Lib.hid a2; clear a2)
        show LeavesInM _ _ _ _ _ _ _ _ _
        have hz7 := HS7.out
        have hbs : Below w7.heap.size w7 w2 := HB.out.trans (Below.mono A2.out HSW.out)
        have hms : Marks w7.heap.size W.heap.size (w2.setCell ⟨n1, 0, none⟩ (.bool true)) ds := marks_setT (HM.out.below A2.out (Nat.le_refl _)) (by omega) _
        refine marks_leave ds _ _ hms fun W'' hb'' => ⟨.bool true, results_box rfl Tryd.underlying4 _ _ _ (.bool true) rfl (boxed_below (HBRR.out.set (.bool true)) hb'' (by omega)).cell, rfl, ?_⟩
        exact Below.trans AW7.out (((hbs.mono AW7.out.size).setCell (p := ⟨n1, 0, none⟩) (by show w.heap.size ≤ n1; have := HN0.out; have := HN1.out; omega) _).trans (hb''.mono AW7.out.size))
end Go.Proofs.YtleihmmkonakhaaDoor
