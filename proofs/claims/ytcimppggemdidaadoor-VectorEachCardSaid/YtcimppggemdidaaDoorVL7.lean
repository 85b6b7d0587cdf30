/- The law VectorEach, walked. -/
import Derived.Laws.Build
import Derived.Sort.LoopGhostIn
import Derived.Test.YtcimppggemdidaaDoorVE3
import Derived.Test.YtcimppggemdidaaDoorVL1
import Derived.Test.YtcimppggemdidaaDoorTurn
import Derived.Test.YtcimppggemdidaaDoorPair2
import Derived.Test.YtcimppggemdidaaDoorInvIn
namespace Go.Proofs.YtcimppggemdidaaDoor
open Go Go.RowKit Go.Shelf
attribute [local go_sem] Oper.semAt_some

theorem seqV_not_nil (fn : Fn) (a b : Array Value) (W : World) : (binOp .eql 30 (.func fn a b) .nilFunc).run Tryd.prog W = .ok (.bool false) W := by kernel_rfl
theorem infoIV : (Tryd.prog.info? 3).map (fun i => (i.zero, i.size, i.bytes)) = some (some (.int .i64 0), 1, 8) := by kernel_rfl
def iV (q : Nat) : Value := .int .i64 (q : Nat)
theorem nzT_split {c : List UInt64} {x : Nat} : ∀ (len : Nat), x < len → gD c x ≠ 0 → ∃ r, nzT c len = nzT c x ++ x :: r
  | 0, h, _ => by omega
  | len + 1, h, h0 => by
    rcases Nat.lt_or_ge x len with h1 | h1
    · obtain ⟨r, hr⟩ := nzT_split len h1 h0
      by_cases hz : gD c len = 0
      · rw [nzT_no hz]; exact ⟨r, hr⟩
      · rw [nzT_yes hz, hr]; exact ⟨r ++ [len], by simp⟩
    · obtain rfl : x = len := by omega
      exact ⟨[], nzT_yes h0⟩
theorem nzT_trim (c : List UInt64) (i : Nat) : nzT (vTrim c) i = nzT c i := by
  unfold nzT
  congr 1
  funext k
  rw [gD_trim]
theorem nzT_up {c : List UInt64} : ∀ (k : Nat), nzT c (tN c + k) = nzT c (tN c)
  | 0 => rfl
  | k + 1 => by rw [← Nat.add_assoc, nzT_no (tN_ge c _ (by omega)), nzT_up k]
theorem nzT_all (c : List UInt64) : nzT (vTrim c) (vTrim c).length = nzT c c.length := by
  rw [nzT_trim, len_trim]
  obtain ⟨k, hk⟩ : ∃ k, c.length = tN c + k := ⟨c.length - tN c, by have := tN_le c; omega⟩
  rw [hk, nzT_up]
theorem nz_ix {c : List UInt64} {x : Nat} {pre : List Nat} (h : AtNz (vTrim c) pre x) : (nzT c c.length)[pre.length]? = some x ∧ x < c.length ∧ gD c x ≠ 0 ∧ pre.length < (nzT c c.length).length := by
  obtain ⟨h1, h2, h3⟩ := h
  rw [gD_trim] at h2
  rw [nzT_trim] at h3
  have hx : x < c.length := by rw [len_trim] at h1; have := tN_le c; omega
  obtain ⟨r, hr⟩ := nzT_split c.length hx h2
  rw [hr, ← h3]
  exact ⟨by simp, hx, h2, by simp⟩
theorem nz_stop {c : List UInt64} {x : Nat} {pre : List Nat} (h1 : x < (vTrim c).length) (h2 : gD (vTrim c) x ≠ 0) (h3 : pre = nzT (vTrim c) (x + 1)) : pre.length ≤ (nzT c c.length).length := by
  rw [gD_trim] at h2
  rw [nzT_trim, nzT_yes h2] at h3
  have hx : x < c.length := by rw [len_trim] at h1; have := tN_le c; omega
  obtain ⟨r, hr⟩ := nzT_split c.length hx h2
  rw [hr, h3]
  simp

/-- A frame and a world that are these. -/
def Same2 (b a : Act) (w2 w : World) : Prop := b = a ∧ w2 = w
/-- How the law stands at a round's head of its first loop. -/
def EachHeadV (c : List UInt64) (n0 : Nat) (w1 : World) (i : Value) (wr : World) : Prop :=
  ∃ (k : Nat) (v5 : Value), k ≤ c.length ∧ i = .int .i64 (k : Nat) ∧ Boxed wr (n0 + 1 + 1 + 1 + 1) 24 v5 ∧
    wr.ownsRow (n0 + 1 + 1 + 1 + 1) 3 1 v5 (nzT c k).length ((nzT c k).map iV) ∧ Below (n0 + 1 + 1 + 1 + 1) w1 wr ∧ n0 + 5 ≤ wr.heap.size

/-- How the law stands ahead of turn t. -/
def EachTurnV (n0 Bk : Nat) (w7 : World) (g : Nat) (aa : Act) (W : World) : Prop :=
  ∃ (t Bt : Nat) (ds : List Deferred) (f : Nat → Value), t + g = 2 ∧ aa = { tmps := #[f 0, f 1, Value.pointer (some { block := n0, off := 0 }), Value.pointer (some { block := n0 + 1, off := 0 }), Value.pointer (some { block := n0 + 1 + 1, off := 0 }), Value.pointer (some { block := n0 + 1 + 1 + 1 + 1, off := 0 }), f 6, Value.func (Fn.func 79) #[] #[Value.pointer (some { block := Bk, off := 0 })], Value.pointer (some { block := Bt, off := 0 }), f 9, f 10, f 11, f 12, f 13, f 14, f 15, f 16, f 17, f 18, f 19, f 20, f 21, f 22, f 23, f 24, f 25, f 26, f 27, f 28, f 29, f 30, f 31, f 32, f 33, f 34, f 35, f 36, f 37, f 38, f 39, f 40, f 41, f 42, f 43, f 44, f 45, f 46, f 47, f 48, f 49, f 50, f 51, f 52, f 53, f 54, f 55, f 56, f 57, f 58, f 59, f 60, f 61, f 62, f 63, f 64, f 65, f 66, f 67, f 68, f 69, f 70, f 71, f 72, f 73, f 74, f 75, f 76, f 77, f 78, f 79, f 80, f 81, f 82, f 83, f 84, f 85, f 86, f 87, f 88, f 89, f 90, f 91, f 92, f 93, f 94, f 95, f 96, f 97], defers := ds } ∧ Below w7.heap.size w7 W ∧ w7.heap.size ≤ Bt ∧ Boxed W Bt 3 (.int .i64 (t : Nat)) ∧ Marks w7.heap.size W.heap.size W ds
set_option maxRecDepth 100000 in
theorem EachTurnV.mk (n0 Bk : Nat) (w7 : World) {g : Nat} {aa : Act} {W : World} (t Bt : Nat) (hg : t + g = 2) (hs : aa.tmps.size = 98) (h2 : aa.tmps[2]? = some (Value.pointer (some { block := n0, off := 0 }))) (h3 : aa.tmps[3]? = some (Value.pointer (some { block := n0 + 1, off := 0 }))) (h4 : aa.tmps[4]? = some (Value.pointer (some { block := n0 + 1 + 1, off := 0 }))) (h5 : aa.tmps[5]? = some (Value.pointer (some { block := n0 + 1 + 1 + 1 + 1, off := 0 }))) (h7 : aa.tmps[7]? = some (Value.func (Fn.func 79) #[] #[Value.pointer (some { block := Bk, off := 0 })])) (h8 : aa.tmps[8]? = some (Value.pointer (some { block := Bt, off := 0 })))
    (hb : Below w7.heap.size w7 W) (hB : w7.heap.size ≤ Bt) (hx : Boxed W Bt 3 (.int .i64 (t : Nat))) (hm : Marks w7.heap.size W.heap.size W aa.defers) : EachTurnV n0 Bk w7 g aa W := by
  rcases aa with ⟨tmps, ds⟩
  obtain ⟨f, rfl⟩ := arr_fun tmps 98 hs
  have e2 : f 2 = Value.pointer (some { block := n0, off := 0 }) := Option.some.inj h2; have e3 : f 3 = Value.pointer (some { block := n0 + 1, off := 0 }) := Option.some.inj h3; have e4 : f 4 = Value.pointer (some { block := n0 + 1 + 1, off := 0 }) := Option.some.inj h4; have e5 : f 5 = Value.pointer (some { block := n0 + 1 + 1 + 1 + 1, off := 0 }) := Option.some.inj h5; have e7 : f 7 = Value.func (Fn.func 79) #[] #[Value.pointer (some { block := Bk, off := 0 })] := Option.some.inj h7; have e8 : f 8 = Value.pointer (some { block := Bt, off := 0 }) := Option.some.inj h8
  refine ⟨t, Bt, ds, f, hg, ?_, hb, hB, hx, hm⟩
  show ({ tmps := #[f 0, f 1, f 2, f 3, f 4, f 5, f 6, f 7, f 8, f 9, f 10, f 11, f 12, f 13, f 14, f 15, f 16, f 17, f 18, f 19, f 20, f 21, f 22, f 23, f 24, f 25, f 26, f 27, f 28, f 29, f 30, f 31, f 32, f 33, f 34, f 35, f 36, f 37, f 38, f 39, f 40, f 41, f 42, f 43, f 44, f 45, f 46, f 47, f 48, f 49, f 50, f 51, f 52, f 53, f 54, f 55, f 56, f 57, f 58, f 59, f 60, f 61, f 62, f 63, f 64, f 65, f 66, f 67, f 68, f 69, f 70, f 71, f 72, f 73, f 74, f 75, f 76, f 77, f 78, f 79, f 80, f 81, f 82, f 83, f 84, f 85, f 86, f 87, f 88, f 89, f 90, f 91, f 92, f 93, f 94, f 95, f 96, f 97], defers := ds } : Act) = _
  simp only [e2, e3, e4, e5, e7, e8]

set_option maxRecDepth 100000 in
set_option maxHeartbeats 16000000 in
theorem law_veach {nb : Nat} (v : Value) (c : List UInt64) (m : Int) (w : World) (hv : Words nb w v c) (hw : How w) :
    Calls Tryd.prog 8 #[v, .int .i64 m] w (TrueAdds w) := by
  obtain ⟨ao, cap, rfl, h1, h2, _⟩ := id hv
  have HV := Lib.hid hv; clear hv
  have HW := Lib.hid (fun W (h : Adds w W) => works4_any W (hw.adds h)); clear hw
  unfold maxLen at h2
  refine (callsIn_wide (n := 6)).1 ?_
  refine callsIn_of_wp_marks Tryd.func8 rfl trivial ?_ rfl
  simp only [Tryd.ntmps8, List.size_toArray, List.length_cons, List.length_nil, Nat.reduceAdd, Nat.reduceSub, Array.replicate_succ, Array.replicate_zero, List.push_toArray, List.append_toArray, List.nil_append, List.cons_append]
  obtain ⟨w0, hw0⟩ : ∃ x, ((w.alloc (.cells #[.slice ao c.length cap] 48)).alloc (.cells #[.int .i64 m] 3)).alloc (.cells #[.bool false] 4) = x := ⟨_, rfl⟩
  have hbx : Boxes3 w w0 48 3 4 (.slice ao c.length cap) (.int .i64 m) (.bool false) := hw0 ▸ Boxes3.new w _ _ _ _ _ _
  have A0 := Lib.hid (hw0 ▸ (Adds.new _ _).trans ((Adds.new _ _).trans (Adds.new _ _)) : Adds w w0)
  have HS0 := Lib.hid (show w0.heap.size = w.heap.size + 1 + 1 + 1 by rw [← hw0]; simp)
  have HBX := Lib.hid hbx; clear hbx
  have HF0 := Lib.hid (fun k (hk : k = w0.heap.size) => few_any (.slice (some ⟨k, 0, none⟩) 1 1) [c] _ (hk ▸ listsW_1 w0 _ c (HV.out.here.adds A0.out)))
  have HF := Lib.hid (hw0 ▸ HF0.out (w.heap.size + 1 + 1 + 1) HS0.out.symm)
  clear HF0
  have HW0 := Lib.hid hw0; clear hw0
  by_cases hl : c.length ≤ 40
  · rw [few_one hl] at HF
    obtain ⟨w1, hw1⟩ : ∃ x, w0.alloc (.cells #[.slice ao c.length cap] 48) = x := ⟨_, rfl⟩
    have A1 := Lib.hid (hw1 ▸ Adds.new _ _ : Adds w0 w1)
    have HS1 := Lib.hid (show w1.heap.size = w.heap.size + 1 + 1 + 1 + 1 by rw [← hw1]; simp; exact HS0.out)
    have HBX1 := Lib.hid (show Boxes3 w w1 _ _ _ _ _ _ from ⟨boxed_adds HBX.out.v A1.out, boxed_adds HBX.out.m A1.out, boxed_adds HBX.out.r A1.out⟩)
    have HV1 := Lib.hid (show Words w.heap.size w1 (.slice ao c.length cap) c from HV.out.here.below (A0.out.trans A1.out))
    have HL := Lib.hid hl
    have HC2 := Lib.hid HBX1.out.v.cell
    gi_wp2_with (refine ⟨trivial, ?_⟩; gi_at_call 23; refine (callsIn_wide.2 HF.out).mono ?_; rintro e w' ⟨rfl, rfl⟩)
    gi_loopw [6] (fun i wr => EachHeadV c w.heap.size w1 i wr) (fun i _ => c.length - (intOf i).toNat)
    case atStart =>
      obtain rfl := HW0.out
      obtain rfl := hw1
      refine ⟨0, .slice none 0 0, Nat.zero_le _, rfl, ?_, World.ownsRow_nil _ _ _ _, ?_, ?_⟩
      · have := Boxed.new ((((w.alloc (.cells #[.slice ao c.length cap] 48)).alloc (.cells #[.int .i64 m] 3)).alloc (.cells #[.bool false] 4)).alloc (.cells #[.slice ao c.length cap] 48)) 24 (.slice none 0 0)
        simpa using this
      · exact (Below.refl _ _).alloc (by simp) _
      · simp
    case round =>
      obtain ⟨k, v5, hk, rfl, b5, r5, hb, hs⟩ := hrel
      have hw1 := HW0.out
      have c2 : wr.cell? ⟨w.heap.size, 0, none⟩ = some (.slice ao c.length cap) := (boxed_below HBX1.out.v hb (by omega)).cell
      have hvr : Words w.heap.size wr (.slice ao c.length cap) c := HV1.out.below (hb.mono (by omega))
      have HBL := Lib.hid hb; clear hb hw1
      have HB5 := Lib.hid b5
      have HR5 := Lib.hid r5; clear r5
      have c5 := b5.cell
      have f5 := b5.frozen
      clear b5
      by_cases hlt : k < c.length
      · obtain ⟨b, off, rfl, hc⟩ := word_cell hvr k hlt
        by_cases h00 : gD c k = 0
        · have hc' : wr.cell? ⟨b, off + k, none⟩ = some (.int .u64 0) := by rw [hc, h00]; rfl
          clear hc hvr
          gi_wp2
          go_roundw
          case rel => exact ⟨k + 1, v5, hlt, rfl, HB5.out, by rw [nzT_no h00]; exact HR5.out, HBL.out, hs⟩
          case measure => simp [intOf]; omega
        · obtain ⟨y, hy⟩ : ∃ y : Int, (((gD c k).toNat : Nat) : Int) = y := ⟨_, rfl⟩
          have hy0 : (0 : Int) < y := by
            have : (gD c k).toNat ≠ 0 := fun h => h00 (UInt64.toNat_inj.1 (by simpa using h))
            omega
          rw [hy] at hc
          clear hy hvr
          have H00 := Lib.hid h00; clear h00
          obtain ⟨i0, hi, hz0, hz1, hz2⟩ := info_parts infoIV
          have HRA := Lib.hid (show (wr.alloc (.cells #[.int .i64 (k : Nat)] 3)).ownsRow (w.heap.size + 1 + 1 + 1 + 1) 3 1 v5 (nzT c k).length ((nzT c k).map iV) from HR5.out.alloc _)
          have HLN := Lib.hid (show (nzT c k).length ≤ 40 from Nat.le_trans (nzT_length_le c k) (by have := HL.out; omega))
          have HZ := Lib.hid (And.intro hi (And.intro hz0 (And.intro hz1 hz2))); clear hi hz0 hz1 hz2
          have HSS := Lib.hid hs
          gi_wp2_with (gi_at_builtin; refine wpListIn_append_own _ rfl (.tmp 28) (.tmp 30) 24 rfl (w.heap.size + 1 + 1 + 1 + 1) 3 i0 (.int .i64 0) 1 8 Tryd.underlying24 HZ.out.1 HZ.out.2.1 HZ.out.2.2.1 HZ.out.2.2.2 rfl (by decide) v5 (nzT c k).length ((nzT c k).map iV) rfl (by exact HRA.out) ⟨wr.heap.size, 0, none⟩ 1 1 [.int .i64 (k : Nat)] rfl rfl (by intro j u hu; rcases j with _ | j; (· simp only [List.getElem?_cons_zero, Option.some.injEq] at hu; subst hu; simp [Addr.add]); (· simp at hu)) (by simp [Value.oneCell']) (by have := HLN.out; unfold maxLen; omega) (by have := HLN.out; omega) (by have := HSS.out; simp; omega) ?_; intro v' w' r1 g1 _; obtain ⟨g5, cap5, rfl⟩ := row_form r1 (by omega); have hbk := (HB5.out.alloc (.cells #[.int .i64 (k : Nat)] 3)).kept g1 ((HB5.out.alloc (.cells #[.int .i64 (k : Nat)] 3)).not_row (by decide) HRA.out); have c9 := hbk.cell; have f9 := hbk.frozen; have HBK := Lib.hid hbk; have HR1 := Lib.hid r1; have HG1 := Lib.hid g1; clear hbk r1 g1)
          go_roundw
          case rel =>
            have hs := HSS.out
            refine ⟨k + 1, _, hlt, rfl, HBK.out.set _, ?_, ?_, ?_⟩
            · rw [nzT_yes H00.out, List.length_append, List.map_append]
              exact ownsRow_setCell_other HR1.out (fun e => HBK.out.not_row (by decide) HR1.out e.symm) _
            · exact ((HBL.out.alloc (by omega) _).grown HG1.out (by simp; omega) fun j hj => (World.ownsRow.lt HRA.out j hj.symm.symm).1).setCell (p := ⟨w.heap.size + 1 + 1 + 1 + 1, 0, none⟩) (Nat.le_refl _) _
            · have := HG1.out.size
              simp at this ⊢
              omega
          case measure => simp [intOf]; omega
      · have hkl : k = c.length := by omega
        subst hkl
        clear hvr
        have HVR := Lib.hid (show Words w.heap.size wr (.slice ao c.length cap) c from HV1.out.below (HBL.out.mono (by omega)))
        have HEC := Lib.hid (eachV_any _ c wr HVR.out (by have := HL.out; omega))
        gi_wp2_with (refine ⟨trivial, ?_⟩; gi_at_call 43; refine (callsIn_wide.2 HEC.out).mono ?_; rintro e w7 ⟨a7, Bk, ak, ck, rfl, hk1, hk2, ck0, hwk, hak⟩; have A7 := Lib.hid a7; have HWK := Lib.hid hwk; have HAK := Lib.hid hak; have hnn := seqV_not_nil; clear a7 hwk hak)
        refine wpIn_loop_ghost (EachTurnV w.heap.size Bk w7) 2 ?start ?round
        case start => exact EachTurnV.mk _ _ w7 0 w7.heap.size rfl rfl rfl rfl rfl rfl rfl rfl (Adds.new _ _) (Nat.le_refl _) (Boxed.new _ _ _) trivial
        case round =>
          rintro g aa W ⟨t, Bt, ds, f, hg, rfl, hb, hBt, bt, hm⟩
          have HG := Lib.hid hg; clear hg
          have ct := bt.cell
          have ft := bt.frozen
          have HBT := Lib.hid bt; clear bt
          have HM := Lib.hid hm; clear hm
          have HB := Lib.hid hb; clear hb
          have HSW := Lib.hid HB.out.size
          have hz7 := A7.out.size
          have HX7 := Lib.hid (show Boxes3 w w7 _ _ _ _ _ _ from ⟨boxed_adds (boxed_below HBX1.out.v HBL.out (by omega)) A7.out, boxed_adds (boxed_below HBX1.out.m HBL.out (by omega)) A7.out, boxed_adds (boxed_below HBX1.out.r HBL.out (by omega)) A7.out⟩)
          have HB57 := Lib.hid (boxed_adds HB5.out A7.out)
          have HR57 := Lib.hid (row_adds HR5.out A7.out)
          have HV7 := Lib.hid (show Words w.heap.size w7 (.slice ao c.length cap) c from HVR.out.below (Below.mono A7.out (by omega)))
          by_cases ht : t < 2
          · have hsz := HSW.out
            gi_wp2
            rw [show decide ((t : Int) < 2) = true by rw [decide_eq_true_eq]; omega]
            generalize hWr : W.alloc (Obj.cells #[Value.int IntKind.i64 0] 3) = Wr
            have bn0 : Boxed Wr W.heap.size 3 (.int .i64 (([] : List Nat).length : Nat)) := hWr ▸ Boxed.new W _ _
            have bt0 : Boxed Wr Bt 3 (.int .i64 (t : Nat)) := hWr ▸ HBT.out.alloc _
            have AR := Lib.hid (hWr ▸ Adds.new W _ : Adds W Wr)
            have HSR := Lib.hid (show Wr.heap.size = W.heap.size + 1 by rw [← hWr]; simp)
            clear hWr
            have HB0 := Lib.hid (And.intro bt0 bn0); clear bt0 bn0
            have HBR := Lib.hid (HB.out.trans (Below.mono AR.out hsz))
            have hBtl := HBT.out.lt
            obtain ⟨p2, hp2⟩ : ∃ p2 : Nat → Int, p2 = fun x => (((gD (vTrim c) x).toNat : Nat) : Int) := ⟨_, rfl⟩
            have HVC := Lib.hid (show Words Wr.heap.size Wr (.slice ak (vTrim c).length ck) (vTrim c) from by rw [len_trim]; exact Words.here (HWK.out.below HBR.out))
            have HSQ := Lib.hid (eachV_seq 5 (by omega) Bk (fun q => q = W.heap.size) ak ck (vTrim c) Wr Wr.heap.size (by intro b hb; rw [hb, HSR.out]; omega) HVC.out (by intro b o _ hao hb; have := HAK.out b o hao; omega)
              (by intro h; omega) (by rw [len_trim]; exact (HBR.out.cell (p := ⟨Bk, 0, none⟩) hk2).trans ck0))
            rw [show nzV (vTrim c) = fun x => #[.int .i64 (x : Nat), .int .u64 (p2 x)] by rw [hp2], nzT_all] at HSQ
            have HP2 := Lib.hid hp2; clear hp2
            obtain ⟨N, hN⟩ : ∃ N, (nzT c c.length).length = N := ⟨_, rfl⟩
            have HNN := Lib.hid hN; clear hN
            refine' rangeFunc_S rfl (by omega) (gf := 79) (lb := #[.pointer (some ⟨Bk, 0, none⟩)]) rfl trivial (enters_of Tryd.func79 (by kernel_rfl) rfl) HSQ.out
              KeepC.trans (fun W l o o' _ h hc _ => KeepC.put W l o o' h hc) (Below.refl _ _) (fun _ => rfl)
              (fun pre V => Below w7.heap.size w7 V ∧ Boxed V Bt 3 (.int .i64 (t : Nat)) ∧ Boxed V W.heap.size 3 (.int .i64 (pre.length : Nat)) ∧ (t = 0 → pre = [] ∨ (pre.length : Int) < m) ∧ Marks w7.heap.size W.heap.size V ds)
              (fun c pre V => c = .exit 4 ∧ Below w7.heap.size w7 V ∧ Boxed V Bt 3 (.int .i64 (t : Nat)) ∧ Boxed V W.heap.size 3 (.int .i64 (pre.length : Nat)) ∧ (t = 0 ∧ (pre.length : Int) = max 1 m) ∧ Marks w7.heap.size W.heap.size V ds)
              ?own ?ownx ?h0 _ ?assign ?body ?done ?stop
            case assign =>
              intro l2 x W2 K hK
              have HK := Lib.hid hK; clear hK
              gi_wp2
              exact HK.out
            case own => exact fun s A B hs hb => ⟨hs.1.trans (hb.mono (by rw [HSR.out]; omega)), boxed_below hs.2.1 hb (by rw [HSR.out]; omega), boxed_below hs.2.2.1 hb (by rw [HSR.out]; omega), hs.2.2.2.1, hs.2.2.2.2.below hb (by rw [HSR.out]; omega)⟩
            case ownx => exact fun c s A B hs hb => ⟨hs.1, hs.2.1.trans (hb.mono (by rw [HSR.out]; omega)), boxed_below hs.2.2.1 hb (by rw [HSR.out]; omega), boxed_below hs.2.2.2.1 hb (by rw [HSR.out]; omega), hs.2.2.2.2.1, hs.2.2.2.2.2.below hb (by rw [HSR.out]; omega)⟩
            case h0 => exact ⟨HBR.out, HB0.out.1, HB0.out.2, fun _ => .inl rfl, HM.out.below AR.out (Nat.le_refl _)⟩
            case body =>
              clear ct ft
              rintro l2 pre x W2 ⟨hb2, bt2, bn2, hpm, hm2⟩ hgx
              obtain ⟨hix, hxc, hx0, hpN⟩ := nz_ix hgx
              rw [HNN.out] at hpN
              obtain ⟨n, hpl⟩ : ∃ n, pre.length = n := ⟨_, rfl⟩
              rw [hpl] at bn2 hpm hix hpN
              have HPL := Lib.hid hpl; clear hpl hgx hx0
              have ct := bt2.cell
              have cn := bn2.cell
              have fn := bn2.frozen
              have hr5 := row_adds HR57.out hb2
              have hx5 := boxed_adds HB57.out hb2
              rw [HNN.out] at hr5
              obtain ⟨g5, cap5, e5⟩ := row_form hr5 (by omega)
              rw [e5] at hr5 hx5
              have d5 : W2.cell? ⟨g5, n, none⟩ = some (.int .i64 (x : Nat)) := row_cell hr5 (by rw [List.getElem?_map, hix]; rfl)
              have c5 := hx5.cell
              have c2 := (boxed_adds HX7.out.v hb2).cell
              have c3 := (boxed_adds HX7.out.m hb2).cell
              obtain ⟨b1, off1, rfl, hcx⟩ := word_cell (HV7.out.below (hb2.mono (by omega))) x hxc
              rw [← gD_trim, show (((gD (vTrim c) x).toNat : Nat) : Int) = p2 x by rw [HP2.out]] at hcx
              clear e5 hr5 hx5 hix
              have HBB := Lib.hid (And.intro hb2 (And.intro bt2 (And.intro bn2 hm2))); clear bt2 bn2 hm2 hb2
              have HPM := Lib.hid hpm; clear hpm
              have hd : 1 ≤ 6 - 1 - 1 := by omega
              obtain ⟨y2, hy2⟩ : ∃ y, p2 x = y := ⟨_, rfl⟩
              rw [hy2] at hcx
              simp only [hy2]
              clear hy2
              have hx3 : (n : Int) ≤ 1000000000 := by
                have h1 := HNN.out
                have h2 := nzT_length_le c c.length
                have h3 := HL.out
                omega
              have hx4 : decide (N ≤ n) = false := by rw [decide_eq_false_iff_not]; omega
              have hx5 : ¬ ((N : Int) ≤ (n : Int)) := by omega
              have hx6 : (n : Int) < (N : Int) := by omega
              have hx7 : (x : Int) < (c.length : Int) := by omega
              have hmo : Tryd.prog.follows .mixedOrders = true := by kernel_rfl
              have HE := Lib.hid (show KeepsFrom Wr.heap.size W2 (W2.drew.setCell ⟨W.heap.size, 0, none⟩ (.int .i64 ((n : Int) + 1))) ∧ Below w7.heap.size w7 (W2.drew.setCell ⟨W.heap.size, 0, none⟩ (.int .i64 ((n : Int) + 1))) ∧ Boxed (W2.drew.setCell ⟨W.heap.size, 0, none⟩ (.int .i64 ((n : Int) + 1))) Bt 3 (.int .i64 (t : Nat)) ∧
                  Boxed (W2.drew.setCell ⟨W.heap.size, 0, none⟩ (.int .i64 ((n : Int) + 1))) W.heap.size 3 (.int .i64 ((pre ++ [x]).length : Nat)) ∧ Marks w7.heap.size W.heap.size (W2.drew.setCell ⟨W.heap.size, 0, none⟩ (.int .i64 ((n : Int) + 1))) ds ∧ KeepC (fun k => k = W.heap.size) W2 (W2.drew.setCell ⟨W.heap.size, 0, none⟩ (.int .i64 ((n : Int) + 1))) from by
                have hq : Below W.heap.size W2 W2.drew := (Below.refl _ _).drew
                refine ⟨(show KeepsFrom Wr.heap.size W2 W2.drew from (KeepsOthers.drew W2).from _).trans ((KeepsOthers.setCell _ _ _).from _), (HBB.out.1.trans (hq.mono hsz)).setCell (p := ⟨W.heap.size, 0, none⟩) hsz _, (boxed_below HBB.out.2.1 hq hBtl).other (by omega) _, ?_, ?_, ?_⟩
                · have := (show Boxed W2.drew W.heap.size 3 (.int .i64 (n : Nat)) from HBB.out.2.2.1).set (.int .i64 ((n : Int) + 1))
                  rw [List.length_append, HPL.out]
                  exact this
                · exact HBB.out.2.2.2.below (hq.setCell (p := ⟨W.heap.size, 0, none⟩) (Nat.le_refl _) _) (Nat.le_refl _)
                · exact KeepC.trans (KeepC.of_below ⟨rfl, rfl, rfl, Nat.le_refl _, fun _ _ => rfl⟩) (keepC_setT _ _ _))
              have hln : ((pre ++ [x]).length : Int) = (n : Int) + 1 := by rw [List.length_append, HPL.out]; simp
              have hp0 : pre = [] ↔ n = 0 := by rw [← List.length_eq_zero_iff, HPL.out]
              have HF2 := Lib.hid (And.intro hln hp0); clear hln hp0 hpN hxc
              gi_wp2
              refine wpIn_region_inv (fun L b w2 => Same2 b { tmps := #[f 0, f 1, Value.pointer (some { block := w.heap.size, off := 0 }), Value.pointer (some { block := w.heap.size + 1, off := 0 }), Value.pointer (some { block := w.heap.size + 1 + 1, off := 0 }), Value.pointer (some { block := w.heap.size + 1 + 1 + 1 + 1, off := 0 }), f 6, Value.func (Fn.func 79) #[] #[Value.pointer (some { block := Bk, off := 0 })], Value.pointer (some { block := Bt, off := 0 }), Value.pointer (some { block := W.heap.size, off := 0 }), Value.int IntKind.i64 (x : Nat), Value.int IntKind.u64 y2, f 12, f 13, f 14, f 15, f 16, f 17, f 18, f 19, f 20, f 21, f 22, f 23, f 24, f 25, f 26, f 27, f 28, f 29, f 30, f 31, f 32, f 33, f 34, f 35, Value.int IntKind.i64 (t : Nat), Value.bool true, f 38, f 39, Value.func (Fn.func 79) #[] #[Value.pointer (some { block := Bk, off := 0 })], Value.int IntKind.i64 (x : Nat), Value.int IntKind.u64 y2, sel2 (L 0) (Value.int IntKind.i64 (n : Nat)) (f 43), sel2 (L 1) (Value.slice (some { block := g5, off := 0 }) N cap5) (f 44), sel2 (L 2) (Value.int IntKind.i64 (N : Nat)) (f 45), sel2 (L 3) (Value.bool false) (f 46), sel2 (L 4) (Value.bool false) (f 47), sel2 (L 5) (Value.int IntKind.i64 (x : Nat)) (f 48), sel2 (L 6) (Value.slice (some { block := g5, off := 0 }) N cap5) (f 49), sel2 (L 7) (Value.int IntKind.i64 (n : Nat)) (f 50), sel2 (L 8) (Value.pointer (some { block := g5, off := n })) (f 51), sel2 (L 9) (Value.int IntKind.i64 (x : Nat)) (f 52), sel2 (L 10) (Value.bool false) (f 53), sel2 (L 11) (Value.bool false) (f 54), sel2 (L 12) (Value.bool false) (f 55), sel2 (L 13) (Value.int IntKind.u64 y2) (f 56), sel2 (L 14) (Value.slice (some { block := b1, off := off1 }) c.length cap) (f 57), sel2 (L 15) (Value.slice (some { block := g5, off := 0 }) N cap5) (f 58), sel2 (L 16) (Value.int IntKind.i64 (n : Nat)) (f 59), sel2 (L 17) (Value.pointer (some { block := g5, off := n })) (f 60), sel2 (L 18) (Value.int IntKind.i64 (x : Nat)) (f 61), sel2 (L 19) (Value.pointer (some { block := b1, off := off1 + x })) (f 62), sel2 (L 20) (Value.int IntKind.u64 y2) (f 63), sel2 (L 21) (Value.bool false) (f 64), sel2 (L 22) (Value.bool false) (f 65), f 66, f 67, f 68, f 69, f 70, f 71, f 72, f 73, f 74, f 75, f 76, f 77, f 78, f 79, f 80, f 81, f 82, f 83, f 84, f 85, f 86, f 87, f 88, f 89, f 90, f 91, f 92, f 93, f 94, f 95, f 96, f 97], defers := [] } w2 W2.drew) hmo (by kernel_rfl) ⟨rfl, rfl⟩ ?step ?fin
              case step =>
                rintro L b w2 i o ho hL hC he ⟨rfl, rfl⟩
                clear hC
                have ctd : W2.drew.cell? ⟨Bt, 0, none⟩ = some (.int .i64 (t : Nat)) := ct
                rcases i with _ | _ | _ | _ | _ | _ | _ | _ | _ | _ | _ | _ | _ | _ | _ | _ | _ | _ | _ | _ | _ | _ | _ | i
                all_goals try (simp only [List.getElem?_cons_zero, List.getElem?_cons_succ, Option.some.injEq] at ho; subst ho)
                all_goals try (simp at ho; done)
                all_goals
                  try simp [Region.binds] at he
                  try simp only [he, sel2_t]
                  gi_wp2
                  refine ⟨?_, rfl⟩
                  simp [sel2, *]
              case fin =>
                rintro b w2 ⟨rfl, rfl⟩
                simp only [List.length_cons, List.length_nil, Nat.reduceAdd, Nat.reduceLT, decide_true, sel2_t]
                by_cases ht0 : t = 0
                · subst ht0
                  by_cases hmx : m ≤ (n : Int) + 1
                  · gi_wp2
                    obtain ⟨hkf, hb3, ht3, hn3, hm3, hk3⟩ := HE.out
                    obtain ⟨hln, hp0⟩ := HF2.out
                    exact ⟨hkf, rfl, hb3, ht3, hn3, (by rw [hln]; rcases HPM.out (by simp) with h | h; (· rw [hp0] at h; omega); omega), hm3⟩
                  · gi_wp2
                    obtain ⟨hkf, hb3, ht3, hn3, hm3, hk3⟩ := HE.out
                    obtain ⟨hln, hp0⟩ := HF2.out
                    exact ⟨hkf, hk3, hb3, ht3, hn3, .inr (by rw [hln]; omega), hm3⟩
                · obtain rfl : t = 1 := by omega
                  gi_wp2
                  obtain ⟨hkf, hb3, ht3, hn3, hm3, hk3⟩ := HE.out
                  exact ⟨hkf, hk3, hb3, ht3, hn3, (fun h => by cases h), hm3⟩
            case done =>
              clear ct ft
              rintro D xs W2 hD rfl ⟨hb2, bt2, bn2, hpm, hm2⟩ hK
              rw [HNN.out] at bn2 hpm
              have hN : t = 0 → min (N : Int) (max 1 m) = (N : Int) := by
                intro h0
                rcases hpm h0 with h | h
                · have : N = 0 := by rw [← HNN.out, h]; rfl
                  omega
                · omega
              have HEND := Lib.hid (turn_endT (a := #[]) hb2 (by rw [HSR.out] at hD; omega) hD hK hm2 (by rw [HSR.out]; omega))
              have hr5 := row_adds HR57.out hb2
              rw [HNN.out] at hr5
              have hv5 : ∃ a5 c5, v5 = .slice a5 N c5 := by
                rcases hr5.2 with ⟨e, e0⟩ | ⟨g, cap, cur, e, _⟩
                · exact ⟨none, 0, by rw [e, e0]⟩
                · exact ⟨_, _, e⟩
              obtain ⟨a5, cp5, e5⟩ := hv5
              have hx5 := boxed_adds HB57.out hb2
              rw [e5] at hx5
              have ct := bt2.cell
              have cn := bn2.cell
              have c5 := hx5.cell
              have c3 := (boxed_adds HX7.out.m hb2).cell
              clear hpm hK hm2 hb2 bt2 bn2 e5 hr5 hx5
              by_cases ht0 : t = 0
              · subst ht0
                have hN0 := hN rfl
                clear hN
                gi_wp2
                all_goals
                  obtain ⟨e1, e2, e3⟩ := HEND.out
                  exact ⟨1, by have := HG.out; omega, EachTurnV.mk _ _ w7 1 W2.heap.size (by omega) rfl rfl rfl rfl rfl rfl rfl (e1.alloc e1.size _) e1.size (Boxed.new _ _ _) ((e3.below (Adds.new _ _) (Nat.le_refl _)).up (by simp))⟩
              · obtain rfl : t = 1 := by omega
                clear hN
                gi_wp2
                all_goals
                  obtain ⟨e1, e2, e3⟩ := HEND.out
                  exact ⟨0, by have := HG.out; omega, EachTurnV.mk _ _ w7 2 W2.heap.size (by omega) rfl rfl rfl rfl rfl rfl rfl (e1.alloc e1.size _) e1.size (Boxed.new _ _ _) ((e3.below (Adds.new _ _) (Nat.le_refl _)).up (by simp))⟩
            case stop =>
              clear ct ft
              rintro D c9 pre W2 hD ⟨x, hx1, hx2, hx3⟩ ⟨rfl, hb2, bt2, bn2, ⟨ht0, hmx⟩, hm2⟩ hK
              have hj := nz_stop hx1 hx2 hx3
              rw [HNN.out] at hj
              obtain ⟨j, hpl⟩ : ∃ j, pre.length = j := ⟨_, rfl⟩
              rw [hpl] at bn2 hmx hj
              subst ht0
              have hN0 : min (N : Int) (max 1 m) = (j : Int) := by omega
              have HEND := Lib.hid (turn_endT (a := #[]) hb2 (by rw [HSR.out] at hD; omega) hD hK hm2 (by rw [HSR.out]; omega))
              have hr5 := row_adds HR57.out hb2
              rw [HNN.out] at hr5
              have hv5 : ∃ a5 c5, v5 = .slice a5 N c5 := by
                rcases hr5.2 with ⟨e, e0⟩ | ⟨g, cap, cur, e, _⟩
                · exact ⟨none, 0, by rw [e, e0]⟩
                · exact ⟨_, _, e⟩
              obtain ⟨a5, cp5, e5⟩ := hv5
              have hx5 := boxed_adds HB57.out hb2
              rw [e5] at hx5
              have ct := bt2.cell
              have cn := bn2.cell
              have c5 := hx5.cell
              have c3 := (boxed_adds HX7.out.m hb2).cell
              clear hK hm2 hb2 bt2 bn2 hpl hx1 hx2 hx3 hj hmx e5 hr5 hx5
              gi_wp2
              all_goals
                obtain ⟨e1, e2, e3⟩ := HEND.out
                exact ⟨1, by have := HG.out; omega, EachTurnV.mk _ _ w7 1 W2.heap.size (by omega) rfl rfl rfl rfl rfl rfl rfl (e1.alloc e1.size _) e1.size (Boxed.new _ _ _) ((e3.below (Adds.new _ _) (Nat.le_refl _)).up (by simp))⟩
          · have h7 : Adds w w7 := Below.trans A0.out ((Below.mono A1.out (by have := HS0.out; omega)).trans ((HBL.out.mono (by omega)).trans (Below.mono A7.out (by omega))))
            have HK := Lib.hid (HW.out W (Below.trans h7 (HB.out.mono h7.size)))
            have HBW := Lib.hid (boxed_adds HX7.out.r HB.out)
            have HH7 := Lib.hid h7; clear h7
            gi_wp2_with (refine ⟨trivial, ?_⟩; gi_at_call 24; refine (callsIn_wide.2 HK.out).mono ?_; rintro z w2 ⟨rfl, a2⟩; have hbr := boxed_adds HBW.out a2; have c4 := hbr.cell; have f4 := hbr.frozen; have HBRR := Lib.hid hbr; clear hbr; have A2 := Lib.hid a2; clear a2)
            show LeavesInM _ _ _ _ _ _ _ _ _
            have hbs : Below w7.heap.size w7 w2 := HB.out.trans (Below.mono A2.out HSW.out)
            have hms : Marks w7.heap.size W.heap.size (w2.setCell ⟨w.heap.size + 1 + 1, 0, none⟩ (.bool true)) ds := marks_setT (HM.out.below A2.out (Nat.le_refl _)) (by omega) _
            refine marks_leave ds _ _ hms fun W'' hb'' => ⟨.bool true, results_box rfl Tryd.underlying4 _ _ _ (.bool true) rfl (boxed_below (HBRR.out.set (.bool true)) hb'' (by omega)).cell, rfl, ?_⟩
            exact Below.trans HH7.out (((hbs.mono (by omega)).setCell (p := ⟨w.heap.size + 1 + 1, 0, none⟩) (by show w.heap.size ≤ w.heap.size + 1 + 1; omega) _).trans (hb''.mono (by omega)))
  · rw [few_not hl] at HF
    obtain rfl := HW0.out
    have HK := Lib.hid (HW.out _ (A0.out.trans (Adds.new _ (.cells #[.slice ao c.length cap] 48))))
    have HBR := Lib.hid (boxed_adds HBX.out.r (Adds.new _ (.cells #[.slice ao c.length cap] 48)))
    gi_wp2_with (first
      | (refine ⟨trivial, ?_⟩; gi_at_call 23; refine (callsIn_wide.2 HF.out).mono ?_; rintro e w' ⟨rfl, rfl⟩)
      | (refine ⟨trivial, ?_⟩; gi_at_call 24; refine (callsIn_wide.2 HK.out).mono ?_; rintro z w2 ⟨rfl, a2⟩; have hbr := boxed_adds HBR.out a2; have c4 := hbr.cell; have f4 := hbr.frozen; have HBRR := Lib.hid hbr; clear hbr; have A2 := Lib.hid a2; clear a2))
    show LeavesInM _ _ _ _ _ _ _ _ _
    refine marks_leave [] w.heap.size _ (B := w.heap.size + 1 + 1 + 1) trivial fun W'' hb'' => ⟨.bool true, results_box rfl Tryd.underlying4 _ _ _ (.bool true) rfl (boxed_below (HBRR.out.set (.bool true)) hb'' (by omega)).cell, rfl, ?_⟩
    have h0 : Below w.heap.size w w2 := Adds.trans (A0.out.trans (Adds.new _ (.cells #[.slice ao c.length cap] 48))) A2.out
    exact h0.trans (((Below.refl w.heap.size w2).setCell (p := ⟨w.heap.size + 1 + 1, 0, none⟩) (by show w.heap.size ≤ w.heap.size + 1 + 1; omega) _).trans (hb''.mono (by omega)))
end Go.Proofs.YtcimppggemdidaaDoor
