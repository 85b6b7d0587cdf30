/- The law ProgramSites, walked. (genN5.py wrote this.) -/
import Derived.Laws.Build
import Derived.Sort.LoopGhostIn
import Derived.Test.YtkodjmdghjcndaaGN4
import Derived.Test.YtkodjmdghjcndaaGN1
import Derived.Test.YtkodjmdghjcndaaG11
import Derived.Test.YtkodjmdghjcndaaIEq
import Derived.Test.YtkodjmdghjcndaaSI2
import Derived.OwnWalkIn
namespace Go.Proofs.Ytkodjmdghjcndaa
open Go Go.RowKit Go.Shelf
attribute [local go_sem] Oper.semAt_some

def Same9 (b a : Act) (w2 w : World) : Prop := b = a ∧ w2 = w
theorem seq9_not_nil (fn : Fn) (a b : Array Value) (W : World) : (binOp .eql 30 (.func fn a b) .nilFunc).run Try.prog W = .ok (.bool false) W := by kernel_rfl
theorem SiteO.form {n : Nat} {w : World} {v : Value} {l : List (Nat × Nat)} (h : SiteO n w v l) : ∃ ao cap, v = .slice ao l.length cap ∧ (0 < l.length → ∃ g, ao = some ⟨g, 0, none⟩) := by
  rcases h.2 with ⟨rfl, h0⟩ | ⟨g, cap, cur, rfl, _⟩
  · exact ⟨none, 0, by rw [h0], fun h => by omega⟩
  · exact ⟨_, cap, rfl, fun _ => ⟨g, rfl⟩⟩
theorem SiteO.at {n g cap : Nat} {w : World} {l : List (Nat × Nat)} (h : SiteO n w (.slice (some ⟨g, 0, none⟩) l.length cap) l) {i : Nat} (hi : i < l.length) : w.cell? ⟨g, i * 2, none⟩ = some (.int .i64 ((l.getD i (0, 0)).1 : Int)) ∧ w.cell? ⟨g, i * 2 + 1, none⟩ = some (.int .i64 ((l.getD i (0, 0)).2 : Int)) := by
  have key : ∀ j, j < 2 → ∀ u, (siP (l.getD i (0, 0)))[j]? = some u → w.cell? ⟨g, i * 2 + j, none⟩ = some u := by
    intro j hj u hu
    refine ownsRow_cell h (i * 2 + j) ?_
    rw [flat_get siP 2 siP_len l i j hj, List.getElem?_eq_getElem hi]
    rw [List.getD_eq_getElem?_getD, List.getElem?_eq_getElem hi] at hu
    exact hu
  exact ⟨key 0 (by decide) _ rfl, key 1 (by decide) _ rfl⟩
theorem site_eqIn (n : Nat) (w : World) (a b : Int) : (Op.equalIn (n + 2) 34 (.agg #[.int .i64 a, .int .i64 b]) (.agg #[.int .i64 a, .int .i64 b])).run Try.prog w = .ok true w := by
  have u3 := Try.underlying3
  have a3 := Try.isAgg3
  have z3 := Try.sizeOf3
  have hS : Try.prog.underlying 34 = some (.struct (Try.prog.fieldsOf 34)) := by kernel_rfl
  have hp : Try.prog.stoodInHeld 34 = false := by kernel_rfl
  rw [show n + 2 = (n + 1) + 1 from rfl, run_equalIn_agg w (n + 1) 34 _ _ hS hp]
  simp only [Program.fieldsOf, Try.underlying34]
  go_simp
theorem site_neq (a b : Int) (W : World) : (binOp .neq 34 (.agg #[.int .i64 a, .int .i64 b]) (.agg #[.int .i64 a, .int .i64 b])).run Try.prog W = .ok (.bool false) W := by
  rw [run_neq_struct8, show (10000 : Nat) = 9998 + 2 from rfl, site_eqIn]
  rfl

/-- How the law stands ahead of turn t. -/
def EachTurn9 (vp : Value) (n0 B5 Bk : Nat) (w7 : World) (g : Nat) (aa : Act) (W : World) : Prop :=
  ∃ (t Bt : Nat) (ds : List Deferred) (f : Nat → Value), t + g = 2 ∧ aa = { tmps := #[vp, f 1, Value.pointer (some { block := n0, off := 0 }), Value.pointer (some { block := n0 + 1, off := 0 }), Value.pointer (some { block := n0 + 1 + 1, off := 0 }), Value.pointer (some { block := B5, off := 0 }), Value.func (Fn.func 18) #[] #[Value.pointer (some { block := Bk, off := 0 })], Value.pointer (some { block := Bt, off := 0 }), f 8, f 9, f 10, f 11, f 12, f 13, f 14, f 15, f 16, f 17, f 18, f 19, f 20, f 21, f 22, f 23, f 24, f 25, f 26, f 27, f 28, f 29, f 30, f 31, f 32, f 33, f 34, f 35, f 36, f 37, f 38, f 39, f 40, f 41, f 42, f 43, f 44, f 45, f 46, f 47, f 48, f 49, f 50, f 51, f 52, f 53, f 54, f 55, f 56, f 57, f 58, f 59, f 60, f 61, f 62, f 63, f 64, f 65, f 66, f 67, f 68, f 69, f 70, f 71, f 72, f 73, f 74, f 75, f 76, f 77, f 78, f 79, f 80, f 81, f 82, f 83], defers := ds } ∧ Below w7.heap.size w7 W ∧ w7.heap.size ≤ Bt ∧ Boxed W Bt 3 (.int .i64 (t : Nat)) ∧ Marks w7.heap.size W.heap.size W ds
set_option maxRecDepth 100000 in
theorem EachTurn9.mk (vp : Value) (n0 B5 Bk : Nat) (w7 : World) {g : Nat} {aa : Act} {W : World} (t Bt : Nat) (hg : t + g = 2) (hs : aa.tmps.size = 84) (h0 : aa.tmps[0]? = some (vp)) (h2 : aa.tmps[2]? = some (Value.pointer (some { block := n0, off := 0 }))) (h3 : aa.tmps[3]? = some (Value.pointer (some { block := n0 + 1, off := 0 }))) (h4 : aa.tmps[4]? = some (Value.pointer (some { block := n0 + 1 + 1, off := 0 }))) (h5 : aa.tmps[5]? = some (Value.pointer (some { block := B5, off := 0 }))) (h6 : aa.tmps[6]? = some (Value.func (Fn.func 18) #[] #[Value.pointer (some { block := Bk, off := 0 })])) (h7 : aa.tmps[7]? = some (Value.pointer (some { block := Bt, off := 0 })))
    (hb : Below w7.heap.size w7 W) (hB : w7.heap.size ≤ Bt) (hx : Boxed W Bt 3 (.int .i64 (t : Nat))) (hm : Marks w7.heap.size W.heap.size W aa.defers) : EachTurn9 vp n0 B5 Bk w7 g aa W := by
  rcases aa with ⟨tmps, ds⟩
  obtain ⟨f, rfl⟩ := arr_fun tmps 84 hs
  have e0 : f 0 = vp := Option.some.inj h0; have e2 : f 2 = Value.pointer (some { block := n0, off := 0 }) := Option.some.inj h2; have e3 : f 3 = Value.pointer (some { block := n0 + 1, off := 0 }) := Option.some.inj h3; have e4 : f 4 = Value.pointer (some { block := n0 + 1 + 1, off := 0 }) := Option.some.inj h4; have e5 : f 5 = Value.pointer (some { block := B5, off := 0 }) := Option.some.inj h5; have e6 : f 6 = Value.func (Fn.func 18) #[] #[Value.pointer (some { block := Bk, off := 0 })] := Option.some.inj h6; have e7 : f 7 = Value.pointer (some { block := Bt, off := 0 }) := Option.some.inj h7
  refine ⟨t, Bt, ds, f, hg, ?_, hb, hB, hx, hm⟩
  show ({ tmps := #[f 0, f 1, f 2, f 3, f 4, f 5, f 6, f 7, f 8, f 9, f 10, f 11, f 12, f 13, f 14, f 15, f 16, f 17, f 18, f 19, f 20, f 21, f 22, f 23, f 24, f 25, f 26, f 27, f 28, f 29, f 30, f 31, f 32, f 33, f 34, f 35, f 36, f 37, f 38, f 39, f 40, f 41, f 42, f 43, f 44, f 45, f 46, f 47, f 48, f 49, f 50, f 51, f 52, f 53, f 54, f 55, f 56, f 57, f 58, f 59, f 60, f 61, f 62, f 63, f 64, f 65, f 66, f 67, f 68, f 69, f 70, f 71, f 72, f 73, f 74, f 75, f 76, f 77, f 78, f 79, f 80, f 81, f 82, f 83], defers := ds } : Act) = _
  simp only [e0, e2, e3, e4, e5, e6, e7]

set_option maxRecDepth 100000 in
set_option maxHeartbeats 16000000 in
theorem law_sites {nb : Nat} (u : Value) (p : Pg) (m : Int) (w : World) (hf : FuncsW nb w u p.1) (hsp : ∀ f ∈ p.1, f.2.length ≤ 4398046511104) :
    Calls Try.prog 3 #[pgV u p, .int .i64 m] w fun e w' => e = .returned (.bool true) ∧ Adds w w' := by
  have HFw0 := fun W (h : Adds w W) => few_ex u p W (hf.adds h) hsp
  have HRS0 := fun W (h : Adds w W) => refSites_any u p W (hf.adds h)
  have HSi0 := fun W (h : Adds w W) => sites_any u p W (hf.adds h)
  have HLn0 := fun W (h : Adds w W) => len_small u p W (hf.adds h)
  have HRL0 := fun W (h : Adds w W) => refLen_small u p W (hf.adds h)
  obtain ⟨fs, x1, x2, x3⟩ := p
  obtain ⟨ao, cap, rfl, _, _, _⟩ := hf
  simp only at HFw0 HRS0 HSi0 HLn0 HRL0
  have HFw := Lib.hid HFw0
  have HRS := Lib.hid HRS0
  have HSi := Lib.hid HSi0
  have HLn := Lib.hid HLn0
  have HRL := Lib.hid HRL0
  clear HFw0 HRS0 HSi0 HLn0 HRL0 hsp
  refine (callsIn_wide (n := 7)).1 ?_
  refine callsIn_of_wp_marks Try.func3 rfl trivial ?_ rfl
  simp only [Try.ntmps3, List.size_toArray, List.length_cons, List.length_nil, Nat.reduceAdd, Nat.reduceSub, Array.replicate_succ, Array.replicate_zero, List.push_toArray, List.append_toArray, List.nil_append, List.cons_append]
  obtain ⟨w0, hw0⟩ : ∃ x, ((w.alloc (.cells #[.slice ao fs.length cap, .int .i64 x1, .int .i64 x2, .int .i64 x3] 24)).alloc (.cells #[.int .i64 m] 3)).alloc (.cells #[.bool false] 4) = x := ⟨_, rfl⟩
  have HP0 := Lib.hid (show BkS 24 w0 w.heap.size [.slice ao fs.length cap, .int .i64 x1, .int .i64 x2, .int .i64 x3] by rw [← hw0]; exact (BkS.new _ _ _).adds ((Gr.new _ _).alloc _).adds)
  have hbm : Boxed w0 (w.heap.size + 1) 3 (.int .i64 m) := hw0 ▸ (by simpa using (Boxed.new (w.alloc (.cells #[.slice ao fs.length cap, .int .i64 x1, .int .i64 x2, .int .i64 x3] 24)) 3 (.int .i64 m)).alloc (.cells #[.bool false] 4))
  have hbr : Boxed w0 (w.heap.size + 1 + 1) 4 (.bool false) := hw0 ▸ (by simpa using Boxed.new ((w.alloc (.cells #[.slice ao fs.length cap, .int .i64 x1, .int .i64 x2, .int .i64 x3] 24)).alloc (.cells #[.int .i64 m] 3)) 4 (.bool false))
  have A0 := Lib.hid (show Adds w w0 by rw [← hw0]; exact (((Gr.new _ _).alloc _).alloc _).adds)
  have HS0 := Lib.hid (show w0.heap.size = w.heap.size + 3 by rw [← hw0]; simp)
  have HBX := Lib.hid (And.intro hbm hbr); clear hbm hbr
  have a0 : w0.cell? ⟨w.heap.size, 0, none⟩ = some (.slice ao fs.length cap) := HP0.out.cell 0
  have a1 : w0.cell? ⟨w.heap.size, 1, none⟩ = some (.int .i64 x1) := HP0.out.cell 1
  have a2 : w0.cell? ⟨w.heap.size, 2, none⟩ = some (.int .i64 x2) := HP0.out.cell 2
  have a3 : w0.cell? ⟨w.heap.size, 3, none⟩ = some (.int .i64 x3) := HP0.out.cell 3
  gi_wp2
  try rw [hw0]
  clear hw0
  gi_wp2_with (first
    | (refine ⟨trivial, ?_⟩; gi_at_call 5; refine (callsIn_wide.2 (HFw.out _ A0.out)).mono ?_; clear HFw; rintro z w1 ⟨⟨b, rfl, hb⟩, q⟩; have HBa := Lib.hid hb; have A1 := Lib.hid q; clear a0 a1 a2 a3; have a0 : w1.cell? ⟨w.heap.size, 0, none⟩ = some (.slice ao fs.length cap) := (HP0.out.adds q).cell 0; have a1 : w1.cell? ⟨w.heap.size, 1, none⟩ = some (.int .i64 x1) := (HP0.out.adds q).cell 1; have a2 : w1.cell? ⟨w.heap.size, 2, none⟩ = some (.int .i64 x2) := (HP0.out.adds q).cell 2; have a3 : w1.cell? ⟨w.heap.size, 3, none⟩ = some (.int .i64 x3) := (HP0.out.adds q).cell 3; clear q hb; cases b)
    | (refine ⟨trivial, ?_⟩; gi_at_call 6; refine (callsIn_wide.2 (worksP _)).mono ?_; rintro z w2 ⟨rfl, q⟩; have hbr := boxed_adds (boxed_adds HBX.out.2 A1.out) q; have c4 := hbr.cell; have f4 := hbr.frozen; have HBRR := Lib.hid hbr; clear hbr; have A2 := Lib.hid (Adds.trans A1.out q); clear q a0 a1 a2 a3)
    | (refine ⟨trivial, ?_⟩; gi_at_call 7; go_must (refine (callsIn_wide.2 (HRS.out _ (Adds.trans A0.out A1.out) (HBa.out trivial).1 (HBa.out trivial).2)).mono ?_; clear HRS; rintro z w3 ⟨v5, rfl, ho, q⟩; obtain ⟨a5, c5, rfl, hg5⟩ := ho.form; have HO := Lib.hid ho; have HG5 := Lib.hid hg5; have A3 := Lib.hid (Adds.trans A1.out q); have E3 := Lib.hid (show Adds w3 (w3.alloc (.cells #[.slice a5 (sitesL fs).length c5] 27)) from (Gr.new _ _).adds); have D3 := Lib.hid (Boxed.new w3 27 (.slice a5 (sitesL fs).length c5)); have A4 := Lib.hid (Adds.trans A3.out E3.out); clear a0 a1 a2 a3; have a0 : (w3.alloc (.cells #[.slice a5 (sitesL fs).length c5] 27)).cell? ⟨w.heap.size, 0, none⟩ = some (.slice ao fs.length cap) := (HP0.out.adds A4.out).cell 0; have a1 : (w3.alloc (.cells #[.slice a5 (sitesL fs).length c5] 27)).cell? ⟨w.heap.size, 1, none⟩ = some (.int .i64 x1) := (HP0.out.adds A4.out).cell 1; have a2 : (w3.alloc (.cells #[.slice a5 (sitesL fs).length c5] 27)).cell? ⟨w.heap.size, 2, none⟩ = some (.int .i64 x2) := (HP0.out.adds A4.out).cell 2; have a3 : (w3.alloc (.cells #[.slice a5 (sitesL fs).length c5] 27)).cell? ⟨w.heap.size, 3, none⟩ = some (.int .i64 x3) := (HP0.out.adds A4.out).cell 3; clear q ho hg5))
    | (refine ⟨trivial, ?_⟩; gi_at_call 8; go_must (refine (callsIn_wide.2 (HSi.out _ (Adds.trans A0.out A4.out) (HBa.out trivial).1 (HBa.out trivial).2)).mono ?_; clear HSi; rintro z w6 ⟨a6, Bk, ao2, cap2, q2, rfl, hk1, hk2, hB6, hK6⟩; have A6 := Lib.hid (Adds.trans A4.out a6); have HK6 := Lib.hid hK6; have HB6 := Lib.hid hB6; have D6 := Lib.hid (boxed_adds D3.out a6); have HO6 := Lib.hid ((HO.out.adds E3.out).adds a6); have HZ6 := Lib.hid (And.intro hk1 hk2); have H36 := Lib.hid (And.intro E3.out.size a6.size); clear a0 a1 a2 a3 hk1 hk2 hB6 hK6 a6)))
  · show LeavesInM _ _ _ _ _ _ _ _ _
    refine marks_leave [] w.heap.size _ (B := w.heap.size + 3) trivial fun W'' hb'' => ⟨.bool true, results_box rfl Try.underlying4 _ _ _ (.bool true) rfl (boxed_below (HBRR.out.set (.bool true)) hb'' (by omega)).cell, rfl, ?_⟩
    have h0 : Below w.heap.size w w2 := Below.trans A0.out (Below.mono A2.out (by have := HS0.out; omega))
    exact h0.trans (((Below.refl w.heap.size w2).setCell (p := ⟨w.heap.size + 1 + 1, 0, none⟩) (by show w.heap.size ≤ w.heap.size + 1 + 1; omega) _).trans (hb''.mono (by omega)))
  · have HLs := Lib.hid (fun W (h : Adds w6 W) => show Calls Try.prog 9 #[.agg #[.slice ao fs.length cap, .int .i64 x1, .int .i64 x2, .int .i64 x3]] W fun e w' => e = .returned (.int .i64 (sumL fs : Nat)) ∧ Adds W w' from HLn.out W (Adds.trans A0.out (Adds.trans A6.out h)) (HBa.out trivial).1 (HBa.out trivial).2)
    have HRs := Lib.hid (fun W (h : Adds w6 W) => show Calls Try.prog 10 #[.agg #[.slice ao fs.length cap, .int .i64 x1, .int .i64 x2, .int .i64 x3]] W fun e w' => e = .returned (.int .i64 (sumL fs : Nat)) ∧ Adds W w' from HRL.out W (Adds.trans A0.out (Adds.trans A6.out h)) (HBa.out trivial).1 (HBa.out trivial).2)
    have HNn := Lib.hid (show (sitesL fs).length ≤ 64000 from sitesL_len fs (HBa.out trivial).1 (HBa.out trivial).2)
    generalize sumL fs = sm at HLs HRs
    have HCe : Hid (∀ W, Adds w6 W → W.cell? ⟨w.heap.size, 0, none⟩ = some (.slice ao fs.length cap) ∧ W.cell? ⟨w.heap.size, 1, none⟩ = some (.int .i64 x1) ∧ W.cell? ⟨w.heap.size, 2, none⟩ = some (.int .i64 x2) ∧ W.cell? ⟨w.heap.size, 3, none⟩ = some (.int .i64 x3)) := Lib.hid fun W h => by
      have hb := (HP0.out.adds A6.out).adds h
      exact ⟨hb.cell 0, hb.cell 1, hb.cell 2, hb.cell 3⟩
    have hnn := seq9_not_nil
    refine wpIn_wide.2 ?_
    refine wp_region_loose [] (fun _ _ _ => True) Adds (by kernel_rfl) (by kernel_rfl) (by simp []) Adds.refl (fun _ _ _ h k => Adds.trans h k) (fun _ _ _ _ _ _ => trivial) ?_
    (repeat (refine wpL_step (fun K hK => ?_); first
      | (refine stepL_ex (v := .bool false) rfl rfl rfl Adds.refl ?_ ?_; (· (intro w' hw'; clear hK; go_simp)); go_simp; refine hK _ ?_; clear hK K)
      | (refine stepL_ex rfl rfl rfl Adds.refl (fun w' hw' => rfl) ?_; go_simp; refine hK _ ?_; clear hK K)
      | (refine stepL_ex (v := .agg #[.slice ao fs.length cap, .int .i64 x1, .int .i64 x2, .int .i64 x3]) rfl rfl rfl Adds.refl ?_ ?_; (· (intro w' hw'; clear hK; obtain ⟨u0, u1, u2, u3⟩ := HCe.out w' (Adds.trans (Adds.drew _) hw'); go_simp)); go_simp; refine hK _ ?_; clear hK K)
      | (refine stepL_call (v := .int .i64 (sm : Nat)) (f := 9) (args := #[.agg #[.slice ao fs.length cap, .int .i64 x1, .int .i64 x2, .int .i64 x3]]) rfl rfl rfl ?_ (fun w' hw' => HLs.out w' (Adds.trans (Adds.drew _) hw')) ?_; (· (intro w'; clear hK; go_simp)); go_simp; refine hK _ ?_; clear hK K)
      | (refine stepL_call (v := .int .i64 (sm : Nat)) (f := 10) (args := #[.agg #[.slice ao fs.length cap, .int .i64 x1, .int .i64 x2, .int .i64 x3]]) rfl rfl rfl ?_ (fun w' hw' => HRs.out w' (Adds.trans (Adds.drew _) hw')) ?_; (· (intro w'; clear hK; go_simp)); go_simp; refine hK _ ?_; clear hK K)))
    refine wpL_nil ?_
    intro w7 q7
    simp only [forL]
    have A7 := Lib.hid (Adds.trans (Adds.drew w6) q7)
    clear q7
    gi_wp2
    refine wpIn_loop_ghost (EachTurn9 (pgV (.slice ao fs.length cap) (fs, x1, x2, x3)) w.heap.size w3.heap.size Bk w7) 2 ?start ?round
    case start => exact EachTurn9.mk _ _ _ _ w7 0 w7.heap.size rfl rfl rfl rfl rfl rfl rfl rfl rfl (Gr.new _ _).adds (Nat.le_refl _) (Boxed.new _ _ _) trivial
    case round =>
      rintro g aa W ⟨t, Bt, ds, f, hg, rfl, hb, hBt, bt, hm⟩
      have HG := Lib.hid hg; clear hg
      have ct := bt.cell
      have ft := bt.frozen
      have HBT := Lib.hid bt; clear bt
      have HM := Lib.hid hm; clear hm
      have HB := Lib.hid hb; clear hb
      have HSW := Lib.hid HB.out.size
      have hsz := HSW.out
      have hz0 := HS0.out
      have hz6 := Below.size A6.out
      have hz7 := Below.size A7.out
      by_cases ht : t < 2
      · gi_wp2
        rw [show decide ((t : Int) < 2) = true by rw [decide_eq_true_eq]; omega]
        generalize hWr : W.alloc (Obj.cells #[Value.int IntKind.i64 0] 3) = Wr
        have bn0 : Boxed Wr W.heap.size 3 (.int .i64 (([] : List Nat).length : Nat)) := hWr ▸ Boxed.new W _ _
        have bt0 : Boxed Wr Bt 3 (.int .i64 (t : Nat)) := hWr ▸ HBT.out.alloc _
        have AR := Lib.hid (hWr ▸ (Gr.new W _).adds : Adds W Wr)
        have HSR := Lib.hid (show Wr.heap.size = W.heap.size + 1 by rw [← hWr]; simp)
        clear hWr
        have HB0 := Lib.hid (And.intro bt0 bn0); clear bt0 bn0
        have HBR := Lib.hid (HB.out.trans (Below.mono AR.out hsz))
        have hBtl := HBT.out.lt
        have AWr := Lib.hid (show Adds w6 Wr from Adds.trans A7.out HBR.out)
        have HSQ := Lib.hid (sites1_seq 6 (by omega) Bk (fun q => q = W.heap.size) ao2 cap2 fs x1 x2 x3 q2 (HBa.out trivial).1 (HBa.out trivial).2 Wr (by intro b hb; rw [hb, HSR.out]; omega) (by intro h; have := HZ6.out.2; omega)
          (HB6.out.adds AWr.out) ((HK6.out.more (M' := fun q => q = W.heap.size) (fun b hb _ h => by omega)).keep (KeepC.of_below AWr.out)))
        obtain ⟨N, hN⟩ : ∃ N, (sitesL fs).length = N := ⟨_, rfl⟩
        have hNl : N ≤ 64000 := by rw [← hN]; exact HNn.out
        rw [hN] at HSQ
        have HNN := Lib.hid hN; clear hN
        refine' rangeFunc_SB rfl (by omega) (gf := 18) (lb := #[.pointer (some ⟨Bk, 0, none⟩)]) rfl trivial (enters_of Try.func18 (by kernel_rfl) rfl) HSQ.out
          KeepC.trans (fun W l o o' _ h hc _ => KeepC.put W l o o' h hc) (Below.refl _ _) (fun _ => rfl)
          (fun pre V => Below w7.heap.size w7 V ∧ Boxed V Bt 3 (.int .i64 (t : Nat)) ∧ Boxed V W.heap.size 3 (.int .i64 (pre.length : Nat)) ∧ (t = 0 → pre = [] ∨ (pre.length : Int) < m) ∧ Marks w7.heap.size W.heap.size V ds)
          (fun c pre V => c = .exit 2 ∧ Below w7.heap.size w7 V ∧ Boxed V Bt 3 (.int .i64 (t : Nat)) ∧ Boxed V W.heap.size 3 (.int .i64 (pre.length : Nat)) ∧ (t = 0 ∧ (pre.length : Int) = max 1 m) ∧ Marks w7.heap.size W.heap.size V ds)
          ?own ?ownx ?h0 _ (fun x => .cells #[.int .i64 ((siX fs x).1 : Int), .int .i64 ((siX fs x).2 : Int)] 34 (0, 0)) (fun W o _ => KeepC.of_below (Gr.new W o).adds) ?assign ?body ?done ?stop
        case assign =>
          intro l2 x W2 bb K hbb hK
          have HK := Lib.hid hK; clear hK
          gi_wp2
          exact HK.out
        case own => exact fun s A B hs hb => ⟨hs.1.trans (hb.mono (by rw [HSR.out]; omega)), boxed_below hs.2.1 hb (by rw [HSR.out]; omega), boxed_below hs.2.2.1 hb (by rw [HSR.out]; omega), hs.2.2.2.1, hs.2.2.2.2.below hb (by rw [HSR.out]; omega)⟩
        case ownx => exact fun c s A B hs hb => ⟨hs.1, hs.2.1.trans (hb.mono (by rw [HSR.out]; omega)), boxed_below hs.2.2.1 hb (by rw [HSR.out]; omega), boxed_below hs.2.2.2.1 hb (by rw [HSR.out]; omega), hs.2.2.2.2.1, hs.2.2.2.2.2.below hb (by rw [HSR.out]; omega)⟩
        case h0 => exact ⟨HBR.out, HB0.out.1, HB0.out.2, fun _ => .inl rfl, HM.out.below AR.out (Nat.le_refl _)⟩
        case body =>
          clear ct ft
          rintro l2 pre x W2 bb ⟨hb2, bt2, bn2, hpm, hm2⟩ hgx hbb hbo
          obtain ⟨hx1, hpre⟩ := id hgx
          have hpl : pre.length = x := by rw [hpre, List.length_range]
          rw [hpl] at bn2 hpm
          have HPL := Lib.hid hpl; clear hpl hpre hgx
          have ct := bt2.cell
          have cn := bn2.cell
          have fn := bn2.frozen
          have bk : BkS 34 W2 bb [.int .i64 ((siX fs x).1 : Int), .int .i64 ((siX fs x).2 : Int)] := hbo
          obtain ⟨g5, e5⟩ := HG5.out (by rw [HNN.out]; omega)
          subst e5
          have hso := (HO6.out.adds A7.out).adds hb2
          obtain ⟨d80, d81⟩ := hso.at (i := x) (by rw [HNN.out]; exact hx1)
          have hx5 := boxed_adds (boxed_adds D6.out A7.out) hb2
          rw [HNN.out] at hx5
          have c5b := hx5.cell
          have c25 := (boxed_adds (boxed_adds (boxed_adds HBX.out.1 A6.out) A7.out) hb2).cell
          rw [show (sitesL fs).getD x (0, 0) = siX fs x from rfl] at d80 d81
          obtain ⟨s1, hs1⟩ : ∃ y : Int, ((siX fs x).1 : Int) = y := ⟨_, rfl⟩
          obtain ⟨s2, hs2⟩ : ∃ y : Int, ((siX fs x).2 : Int) = y := ⟨_, rfl⟩
          rw [hs1] at bk d80
          rw [hs2] at bk d81
          simp only [hs1, hs2]
          have e0 : W2.cell? ⟨bb, 0, none⟩ = some (.int .i64 s1) := bk.cell 0
          have e1 : W2.cell? ⟨bb, 1, none⟩ = some (.int .i64 s2) := bk.cell 1
          clear hso hx5 hs1 hs2 bk hbo hbb
          have HBB := Lib.hid (And.intro hb2 (And.intro bt2 (And.intro bn2 hm2))); clear bt2 bn2 hm2 hb2
          have HPM := Lib.hid hpm; clear hpm
          have hd : 1 ≤ 7 - 1 - 1 := by omega
          have hx3 : (x : Int) ≤ 1000000000 := by omega
          have hx4 : decide (N ≤ x) = false := by rw [decide_eq_false_iff_not]; omega
          have hx5 : ¬ ((N : Int) ≤ (x : Int)) := by omega
          have hx6 : (x : Int) < (N : Int) := by omega
          have hN3 : (N : Int) ≤ 64000 := by omega
          have hq := site_neq s1 s2
          have hkf : KeepsFrom Wr.heap.size W2 (W2.drew.setCell ⟨W.heap.size, 0, none⟩ (.int .i64 ((x : Int) + 1))) := ((KeepsOthers.drew W2).from _).trans ((KeepsOthers.setCell _ _ _).from _)
          have hb3 : Below w7.heap.size w7 (W2.drew.setCell ⟨W.heap.size, 0, none⟩ (.int .i64 ((x : Int) + 1))) := HBB.out.1.drew.setCell (p := ⟨W.heap.size, 0, none⟩) hsz _
          have bt2d : Boxed W2.drew Bt 3 (.int .i64 (t : Nat)) := HBB.out.2.1
          have bn2d : Boxed W2.drew W.heap.size 3 (.int .i64 (x : Nat)) := HBB.out.2.2.1
          have ht3 : Boxed (W2.drew.setCell ⟨W.heap.size, 0, none⟩ (.int .i64 ((x : Int) + 1))) Bt 3 (.int .i64 (t : Nat)) := bt2d.other (by omega) _
          have hn3 : Boxed (W2.drew.setCell ⟨W.heap.size, 0, none⟩ (.int .i64 ((x : Int) + 1))) W.heap.size 3 (.int .i64 ((pre ++ [x]).length : Nat)) := by
            have := bn2d.set (.int .i64 ((x : Int) + 1))
            rw [List.length_append, HPL.out]
            exact this
          have hm3 : Marks w7.heap.size W.heap.size (W2.drew.setCell ⟨W.heap.size, 0, none⟩ (.int .i64 ((x : Int) + 1))) ds :=
            HBB.out.2.2.2.below ((Below.refl W.heap.size W2).drew.setCell (p := ⟨W.heap.size, 0, none⟩) (Nat.le_refl _) _) (Nat.le_refl _)
          have hk3 : KeepC (fun q => q = W.heap.size) W2 (W2.drew.setCell ⟨W.heap.size, 0, none⟩ (.int .i64 ((x : Int) + 1))) := KeepC.trans (KeepC.of_below (Adds.drew W2)) (keepC_setT _ _ _)
          have hln : ((pre ++ [x]).length : Int) = (x : Int) + 1 := by rw [List.length_append, HPL.out]; simp
          have hp0 : pre = [] ↔ x = 0 := by rw [← List.length_eq_zero_iff, HPL.out]
          have HE := Lib.hid (And.intro hkf (And.intro hb3 (And.intro ht3 (And.intro hn3 (And.intro hm3 (And.intro hk3 (And.intro hln hp0))))))); clear hkf hb3 ht3 hn3 hm3 hk3 hln hp0 bt2d bn2d
          have hmx : Try.prog.follows .mixedOrders = true := by kernel_rfl
          gi_wp2
          refine wpIn_region_inv (fun L b w2 => Same9 b ({ tmps := #[pgV (.slice ao fs.length cap) (fs, x1, x2, x3), f 1, Value.pointer (some { block := w.heap.size, off := 0 }), Value.pointer (some { block := w.heap.size + 1, off := 0 }), Value.pointer (some { block := w.heap.size + 1 + 1, off := 0 }), Value.pointer (some { block := w3.heap.size, off := 0 }), Value.func (Fn.func 18) #[] #[Value.pointer (some { block := Bk, off := 0 })], Value.pointer (some { block := Bt, off := 0 }), Value.pointer (some { block := W.heap.size, off := 0 }), Value.int IntKind.i64 (x : Int), Value.pointer (some { block := bb, off := 0 }), f 11, f 12, f 13, f 14, f 15, f 16, f 17, f 18, f 19, f 20, f 21, f 22, f 23, f 24, f 25, f 26, f 27, Value.int IntKind.i64 (t : Int), Value.bool true, f 30, f 31, Value.func (Fn.func 18) #[] #[Value.pointer (some { block := Bk, off := 0 })], Value.int IntKind.i64 (x : Int), Value.agg #[Value.int IntKind.i64 s1, Value.int IntKind.i64 s2], sel2 (L 0) (Value.int IntKind.i64 (x : Int)) (f 35), sel2 (L 1) (Value.int IntKind.i64 (x : Int)) (f 36), sel2 (L 2) (Value.bool false) (f 37), sel2 (L 3) (Value.bool false) (f 38), sel2 (L 4) (Value.int IntKind.i64 (x : Int)) (f 39), sel2 (L 5) (Value.slice (some { block := g5, off := 0 }) N c5) (f 40), sel2 (L 6) (Value.int IntKind.i64 (N : Int)) (f 41), sel2 (L 7) (Value.bool false) (f 42), sel2 (L 8) (Value.bool false) (f 43), sel2 (L 9) (Value.bool false) (f 44), sel2 (L 10) (Value.agg #[Value.int IntKind.i64 s1, Value.int IntKind.i64 s2]) (f 45), sel2 (L 11) (Value.slice (some { block := g5, off := 0 }) N c5) (f 46), sel2 (L 12) (Value.int IntKind.i64 (x : Int)) (f 47), sel2 (L 13) (Value.pointer (some { block := g5, off := x * 2 })) (f 48), sel2 (L 14) (Value.agg #[Value.int IntKind.i64 s1, Value.int IntKind.i64 s2]) (f 49), sel2 (L 15) (Value.bool false) (f 50), sel2 (L 16) (Value.bool false) (f 51), f 52, f 53, f 54, f 55, f 56, f 57, f 58, f 59, f 60, f 61, f 62, f 63, f 64, f 65, f 66, f 67, f 68, f 69, f 70, f 71, f 72, f 73, f 74, f 75, f 76, f 77, f 78, f 79, f 80, f 81, f 82, f 83], defers := [] }) w2 W2.drew) hmx (by kernel_rfl) ?inv0 ?step ?fin
          case inv0 => exact ⟨rfl, rfl⟩
          case step =>
            rintro L b w2 i o ho hL hC he ⟨rfl, rfl⟩
            clear hC
            have k80 : W2.drew.cell? ⟨g5, x * 2, none⟩ = some (.int .i64 s1) := d80
            have k81 : W2.drew.cell? ⟨g5, x * 2 + 1, none⟩ = some (.int .i64 s2) := d81
            have j0 : W2.drew.cell? ⟨bb, 0, none⟩ = some (.int .i64 s1) := e0
            have j1 : W2.drew.cell? ⟨bb, 1, none⟩ = some (.int .i64 s2) := e1
            have kn : W2.drew.cell? ⟨W.heap.size, 0, none⟩ = some (.int .i64 (x : Nat)) := cn
            have kc5 : W2.drew.cell? ⟨w3.heap.size, 0, none⟩ = some (.slice (some ⟨g5, 0, none⟩) N c5) := c5b
            rcases i with _ | _ | _ | _ | _ | _ | _ | _ | _ | _ | _ | _ | _ | _ | _ | _ | _ | i
            all_goals try (simp only [List.getElem?_cons_zero, List.getElem?_cons_succ, Option.some.injEq] at ho; subst ho)
            all_goals try (simp at ho; done)
            all_goals
              try simp [Region.binds] at he
              try simp only [he, sel2_t]
              gi_wp2
              refine ⟨?_, rfl⟩
              simp [sel2, *]
          case fin =>
            rintro b w2 ⟨rfl, rfl⟩
            simp only [List.length_cons, List.length_nil, Nat.reduceAdd, Nat.reduceLT, decide_true, sel2_t]
            clear d80 d81 e0 e1 c5b
            by_cases ht0 : t = 0
            · subst ht0
              by_cases hmx : m ≤ (x : Int) + 1
              · gi_wp2
                obtain ⟨hkf, hb3, ht3, hn3, hm3, hk3, hln, hp0⟩ := HE.out
                exact ⟨hkf, rfl, hb3, ht3, hn3, (by rw [hln]; rcases HPM.out (by simp) with h | h; (· rw [hp0] at h; omega); omega), hm3⟩
              · gi_wp2
                obtain ⟨hkf, hb3, ht3, hn3, hm3, hk3, hln, hp0⟩ := HE.out
                exact ⟨hkf, hk3, hb3, ht3, hn3, .inr (by rw [hln]; omega), hm3⟩
            · obtain rfl : t = 1 := by omega
              gi_wp2
              obtain ⟨hkf, hb3, ht3, hn3, hm3, hk3, hln, hp0⟩ := HE.out
              first | exact ⟨hkf, hk3, hb3, ht3, hn3, (fun h => absurd h (by decide)), hm3⟩ | exact ⟨hkf, hk3, hb3, ht3, hn3, hm3⟩
        case done =>
          clear ct ft
          rintro D xs W2 hD rfl ⟨hb2, bt2, bn2, hpm, hm2⟩ hK
          rw [List.length_range] at bn2 hpm
          have hN : t = 0 → min (N : Int) (max 1 m) = (N : Int) := by
            intro h0
            rcases hpm h0 with h | h
            · have : N = 0 := by cases N with | zero => rfl | succ k => rw [List.range_succ] at h; simp at h
              omega
            · omega
          have HEND := Lib.hid (turn_endT (a := #[]) hb2 (by rw [HSR.out] at hD; omega) hD hK hm2 (by rw [HSR.out]; omega))
          have hx5 := boxed_adds (boxed_adds D6.out A7.out) hb2
          rw [HNN.out] at hx5
          have ct := bt2.cell
          have cn := bn2.cell
          have c5b := hx5.cell
          have c25 := (boxed_adds (boxed_adds (boxed_adds HBX.out.1 A6.out) A7.out) hb2).cell
          clear hpm hK hm2 hb2 bt2 bn2 hx5
          by_cases ht0 : t = 0
          · subst ht0
            have hN0 := hN rfl
            clear hN
            gi_wp2
            all_goals
              obtain ⟨e1, e2, e3⟩ := HEND.out
              exact ⟨1, by have := HG.out; omega, EachTurn9.mk _ _ _ _ w7 1 W2.heap.size (by omega) rfl rfl rfl rfl rfl rfl rfl rfl (e1.alloc e1.size _) e1.size (Boxed.new _ _ _) ((e3.below (Gr.new _ _).adds (Nat.le_refl _)).up (by simp))⟩
          · obtain rfl : t = 1 := by omega
            clear hN
            gi_wp2
            all_goals
              obtain ⟨e1, e2, e3⟩ := HEND.out
              exact ⟨0, by have := HG.out; omega, EachTurn9.mk _ _ _ _ w7 2 W2.heap.size (by omega) rfl rfl rfl rfl rfl rfl rfl rfl (e1.alloc e1.size _) e1.size (Boxed.new _ _ _) ((e3.below (Gr.new _ _).adds (Nat.le_refl _)).up (by simp))⟩
        case stop =>
          clear ct ft
          rintro D c pre W2 hD ⟨j, hj, hpre⟩ ⟨rfl, hb2, bt2, bn2, ⟨ht0, hmx⟩, hm2⟩ hK
          have hpl : pre.length = j := by rw [hpre, List.length_range]
          rw [hpl] at bn2 hmx
          subst ht0
          have hN0 : min (N : Int) (max 1 m) = (j : Int) := by omega
          have HEND := Lib.hid (turn_endT (a := #[]) hb2 (by rw [HSR.out] at hD; omega) hD hK hm2 (by rw [HSR.out]; omega))
          have hx5 := boxed_adds (boxed_adds D6.out A7.out) hb2
          rw [HNN.out] at hx5
          have ct := bt2.cell
          have cn := bn2.cell
          have c5b := hx5.cell
          have c25 := (boxed_adds (boxed_adds (boxed_adds HBX.out.1 A6.out) A7.out) hb2).cell
          clear hK hm2 hb2 bt2 bn2 hpl hpre hj hmx hx5
          gi_wp2
          all_goals
            obtain ⟨e1, e2, e3⟩ := HEND.out
            exact ⟨1, by have := HG.out; omega, EachTurn9.mk _ _ _ _ w7 1 W2.heap.size (by omega) rfl rfl rfl rfl rfl rfl rfl rfl (e1.alloc e1.size _) e1.size (Boxed.new _ _ _) ((e3.below (Gr.new _ _).adds (Nat.le_refl _)).up (by simp))⟩
      · have HBW := Lib.hid (boxed_adds (boxed_adds (boxed_adds HBX.out.2 A6.out) A7.out) HB.out)
        gi_wp2_with (refine ⟨trivial, ?_⟩; gi_at_call 6; refine (callsIn_wide.2 (worksP _)).mono ?_; rintro z w2 ⟨rfl, a2⟩; have hbr := boxed_adds HBW.out a2; have c4 := hbr.cell; have f4 := hbr.frozen; have HBRR := Lib.hid hbr; clear hbr; have A2 := Lib.hid a2; clear a2)
        show LeavesInM _ _ _ _ _ _ _ _ _
        have hbs : Below w7.heap.size w7 w2 := HB.out.trans (Below.mono A2.out HSW.out)
        have hms : Marks w7.heap.size W.heap.size (w2.setCell ⟨w.heap.size + 1 + 1, 0, none⟩ (.bool true)) ds := marks_setT (HM.out.below A2.out (Nat.le_refl _)) (by omega) _
        refine marks_leave ds _ _ hms fun W'' hb'' => ⟨.bool true, results_box rfl Try.underlying4 _ _ _ (.bool true) rfl (boxed_below (HBRR.out.set (.bool true)) hb'' (by omega)).cell, rfl, ?_⟩
        have h0 : Below w.heap.size w w7 := Below.trans A0.out ((Below.mono A6.out (by omega)).trans (Below.mono A7.out (by omega)))
        exact h0.trans (((hbs.mono (by omega)).setCell (p := ⟨w.heap.size + 1 + 1, 0, none⟩) (by show w.heap.size ≤ w.heap.size + 1 + 1; omega) _).trans (hb''.mono (by omega)))
end Go.Proofs.Ytkodjmdghjcndaa
