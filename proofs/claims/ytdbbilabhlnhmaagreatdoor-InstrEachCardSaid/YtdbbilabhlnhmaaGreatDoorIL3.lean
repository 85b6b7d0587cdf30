/- The law InstrEach, walked. (genL3.py wrote this.) -/
import Derived.Laws.Build
import Derived.Sort.LoopGhostIn
import Derived.Test.YtdbbilabhlnhmaaGreatDoorIE2
import Derived.Test.YtdbbilabhlnhmaaGreatDoorIPA
import Derived.Test.YtdbbilabhlnhmaaGreatDoorIG5
import Derived.Test.YtdbbilabhlnhmaaGreatDoorIWk
import Derived.Test.YtdbbilabhlnhmaaGreatDoorIRow
import Derived.OwnWalkIn
namespace Go.Proofs.YtdbbilabhlnhmaaGreatDoor
open Go Go.RowKit Go.Shelf
attribute [local go_sem] Oper.semAt_some

def posV (l : List UInt8) (j : Nat) : List Value := (List.range j).map fun q => .int .i64 ((posI l q : Nat) : Int)
def insVs (l : List UInt8) (j : Nat) : List Value := (List.range j).flatMap fun q => insC (xI l q)
theorem posV_succ (l : List UInt8) (j : Nat) : posV l (j + 1) = posV l j ++ [.int .i64 ((posI l j : Nat) : Int)] := by simp [posV, List.range_succ]
theorem insVs_succ (l : List UInt8) (j : Nat) : insVs l (j + 1) = insVs l j ++ insC (xI l j) := by simp [insVs, List.range_succ]
theorem insVs_length (l : List UInt8) : ∀ j, (insVs l j).length = j * 5
  | 0 => rfl
  | j + 1 => by rw [insVs_succ, List.length_append, insVs_length l j]; show j * 5 + 5 = _; omega
theorem insVs_at (l : List UInt8) (x q : Nat) (hq : q < 5) : ∀ N, x < N → (insVs l N)[x * 5 + q]? = (insC (xI l x))[q]?
  | 0, h => by omega
  | N + 1, h => by
    rw [insVs_succ]
    by_cases hx : x < N
    · rw [List.getElem?_append_left (by rw [insVs_length]; omega)]
      exact insVs_at l x q hq N hx
    · obtain rfl : x = N := by omega
      rw [List.getElem?_append_right (by rw [insVs_length]; omega), insVs_length]
      congr 1
      omega
/-- An element of an own row of instructions, read in a later world. -/
theorem row_cell8 {w : World} {base : Nat} {e : TypeId} {size k : Nat} {g cap : Nat} {xs : List Value} (h : w.ownsRow base e size (.slice (some ⟨g, 0, none⟩) k cap) k xs) {j : Nat} {u : Value} (hu : xs[j]? = some u) : w.cell? ⟨g, j, none⟩ = some u := by
  have := h.cells (g := g) rfl j u hu
  have e : (⟨g, 0, none⟩ : Addr).add j = ⟨g, j, none⟩ := by unfold Addr.add; split <;> simp_all
  rwa [e] at this

theorem insC_one (x : In) : ∀ u ∈ insC x, u.oneCell' = true := by
  intro u hu
  simp only [insC, List.mem_cons, List.not_mem_nil, or_false] at hu
  rcases hu with rfl | rfl | rfl | rfl | rfl <;> rfl
/-- How the law stands at a round's head of its first loop. -/
def EachHead8 (l : List UInt8) (n0 : Nat) (w0 : World) (i : Value) (wr : World) : Prop :=
  ∃ (j : Nat) (v7 v8 : Value), j ≤ cntI l ∧ i = .int .i64 ((posI l j : Nat) : Int) ∧ Boxed wr (n0 + 1 + 1) 47 v7 ∧ Boxed wr (n0 + 1 + 1 + 1) 48 v8 ∧
    wr.ownsRow (n0 + 1 + 1) 3 1 v7 j (posV l j) ∧ wr.ownsRow (n0 + 1 + 1) 25 5 v8 j (insVs l j) ∧ Below (n0 + 1 + 1) w0 wr ∧ n0 + 4 ≤ wr.heap.size

def Same8 (b a : Act) (w2 w : World) : Prop := b = a ∧ w2 = w
theorem seq_not_nil (fn : Fn) (a b : Array Value) (W : World) : (binOp .eql 50 (.func fn a b) .nilFunc).run Tryz.prog W = .ok (.bool false) W := by kernel_rfl
theorem infoI : (Tryz.prog.info? 3).map (fun i => (i.zero, i.size, i.bytes)) = some (some (.int .i64 0), 1, 8) := by kernel_rfl
theorem infoX : (Tryz.prog.info? 25).map (fun i => (i.zero, i.size, i.bytes)) = some (some (.agg #[.int .i64 0, .int .i64 0, .int .i64 0, .int .i64 0, .int .u32 0]), 5, 40) := by kernel_rfl

/-- How the law stands ahead of turn t. -/
def EachTurn8 (ao : Option Addr) (l : List UInt8) (cap : Nat) (m : Int) (n0 g6 cap6 Br : Nat) (w7 : World) (g : Nat) (aa : Act) (W : World) : Prop :=
  ∃ (t Bt : Nat) (ds : List Deferred) (f : Nat → Value), t + g = 2 ∧ aa = { tmps := #[Value.slice ao l.length cap, Value.int IntKind.i64 m, f 2, Value.pointer (some { block := n0, off := 0 }), Value.pointer (some { block := n0 + 1, off := 0 }), Value.pointer (some { block := n0 + 1 + 1, off := 0 }), Value.pointer (some { block := n0 + 1 + 1 + 1, off := 0 }), f 7, f 8, f 9, f 10, Value.slice (some { block := g6, off := 0 }) l.length cap6, Value.func (Fn.func 43) #[] #[Value.pointer (some { block := Br, off := 0 })], Value.pointer (some { block := Bt, off := 0 }), f 14, f 15, f 16, f 17, f 18, f 19, f 20, f 21, f 22, f 23, f 24, f 25, f 26, f 27, f 28, f 29, f 30, f 31, f 32, f 33, f 34, f 35, f 36, f 37, f 38, f 39, f 40, f 41, f 42, f 43, f 44, f 45, f 46, f 47, f 48, f 49, f 50, f 51, f 52, f 53, f 54, f 55, f 56, f 57, f 58, f 59, f 60, f 61, f 62, f 63, f 64, f 65, f 66, f 67, f 68, f 69, f 70, f 71, f 72, f 73, f 74, f 75, f 76, f 77, f 78, f 79, f 80, f 81, f 82, f 83, f 84, f 85, f 86, f 87, f 88, f 89, f 90, f 91, f 92, f 93, f 94, f 95, f 96, f 97, f 98, f 99, f 100, f 101, f 102, f 103, f 104, f 105, f 106, f 107, f 108, f 109, f 110, f 111, f 112, f 113, f 114, f 115, f 116, f 117, f 118, f 119, f 120, f 121, f 122, f 123, f 124, f 125, f 126, f 127, f 128, f 129, f 130, f 131, f 132, f 133, f 134, f 135], defers := ds } ∧ Below w7.heap.size w7 W ∧ w7.heap.size ≤ Bt ∧ Boxed W Bt 3 (.int .i64 (t : Nat)) ∧ Marks w7.heap.size W.heap.size W ds
set_option maxRecDepth 100000 in
theorem EachTurn8.mk (ao : Option Addr) (l : List UInt8) (cap : Nat) (m : Int) (n0 g6 cap6 Br : Nat) (w7 : World) {g : Nat} {aa : Act} {W : World} (t Bt : Nat) (hg : t + g = 2) (hs : aa.tmps.size = 136) (h0 : aa.tmps[0]? = some (Value.slice ao l.length cap)) (h1 : aa.tmps[1]? = some (Value.int IntKind.i64 m)) (h3 : aa.tmps[3]? = some (Value.pointer (some { block := n0, off := 0 }))) (h4 : aa.tmps[4]? = some (Value.pointer (some { block := n0 + 1, off := 0 }))) (h5 : aa.tmps[5]? = some (Value.pointer (some { block := n0 + 1 + 1, off := 0 }))) (h6 : aa.tmps[6]? = some (Value.pointer (some { block := n0 + 1 + 1 + 1, off := 0 }))) (h11 : aa.tmps[11]? = some (Value.slice (some { block := g6, off := 0 }) l.length cap6)) (h12 : aa.tmps[12]? = some (Value.func (Fn.func 43) #[] #[Value.pointer (some { block := Br, off := 0 })])) (h13 : aa.tmps[13]? = some (Value.pointer (some { block := Bt, off := 0 })))
    (hb : Below w7.heap.size w7 W) (hB : w7.heap.size ≤ Bt) (hx : Boxed W Bt 3 (.int .i64 (t : Nat))) (hm : Marks w7.heap.size W.heap.size W aa.defers) : EachTurn8 ao l cap m n0 g6 cap6 Br w7 g aa W := by
  rcases aa with ⟨tmps, ds⟩
  obtain ⟨f, rfl⟩ := arr_fun tmps 136 hs
  have e0 : f 0 = Value.slice ao l.length cap := Option.some.inj h0; have e1 : f 1 = Value.int IntKind.i64 m := Option.some.inj h1; have e3 : f 3 = Value.pointer (some { block := n0, off := 0 }) := Option.some.inj h3; have e4 : f 4 = Value.pointer (some { block := n0 + 1, off := 0 }) := Option.some.inj h4; have e5 : f 5 = Value.pointer (some { block := n0 + 1 + 1, off := 0 }) := Option.some.inj h5; have e6 : f 6 = Value.pointer (some { block := n0 + 1 + 1 + 1, off := 0 }) := Option.some.inj h6; have e11 : f 11 = Value.slice (some { block := g6, off := 0 }) l.length cap6 := Option.some.inj h11; have e12 : f 12 = Value.func (Fn.func 43) #[] #[Value.pointer (some { block := Br, off := 0 })] := Option.some.inj h12; have e13 : f 13 = Value.pointer (some { block := Bt, off := 0 }) := Option.some.inj h13
  refine ⟨t, Bt, ds, f, hg, ?_, hb, hB, hx, hm⟩
  show ({ tmps := #[f 0, f 1, f 2, f 3, f 4, f 5, f 6, f 7, f 8, f 9, f 10, f 11, f 12, f 13, f 14, f 15, f 16, f 17, f 18, f 19, f 20, f 21, f 22, f 23, f 24, f 25, f 26, f 27, f 28, f 29, f 30, f 31, f 32, f 33, f 34, f 35, f 36, f 37, f 38, f 39, f 40, f 41, f 42, f 43, f 44, f 45, f 46, f 47, f 48, f 49, f 50, f 51, f 52, f 53, f 54, f 55, f 56, f 57, f 58, f 59, f 60, f 61, f 62, f 63, f 64, f 65, f 66, f 67, f 68, f 69, f 70, f 71, f 72, f 73, f 74, f 75, f 76, f 77, f 78, f 79, f 80, f 81, f 82, f 83, f 84, f 85, f 86, f 87, f 88, f 89, f 90, f 91, f 92, f 93, f 94, f 95, f 96, f 97, f 98, f 99, f 100, f 101, f 102, f 103, f 104, f 105, f 106, f 107, f 108, f 109, f 110, f 111, f 112, f 113, f 114, f 115, f 116, f 117, f 118, f 119, f 120, f 121, f 122, f 123, f 124, f 125, f 126, f 127, f 128, f 129, f 130, f 131, f 132, f 133, f 134, f 135], defers := ds } : Act) = _
  simp only [e0, e1, e3, e4, e5, e6, e11, e12, e13]

set_option maxRecDepth 100000 in
set_option maxHeartbeats 16000000 in
theorem law_each8 {nb : Nat} (v : Value) (l : List UInt8) (m : Int) (w : World) (hv : Bytes nb w v l) (hw : IVars w) :
    Calls Tryz.prog 5 #[v, .int .i64 m] w fun e w' => e = .returned (.bool true) ∧ Adds w w' := by
  obtain ⟨ao, cap, rfl, h1, h2, h3⟩ := id hv
  have HV := Lib.hid hv; clear hv h3
  have HW := Lib.hid hw; clear hw
  unfold maxLen at h2
  refine (callsIn_wide (n := 6)).1 ?_
  refine callsIn_of_wp_marks Tryz.func5 rfl trivial ?_ rfl
  simp only [Tryz.ntmps5, List.size_toArray, List.length_cons, List.length_nil, Nat.reduceAdd, Nat.reduceSub, Array.replicate_succ, Array.replicate_zero, List.push_toArray, List.append_toArray, List.nil_append, List.cons_append]
  obtain ⟨w0, hw0⟩ : ∃ x, (w.alloc (.cells #[.int .i64 m] 3)).alloc (.cells #[.bool false] 4) = x := ⟨_, rfl⟩
  have hbm : Boxed w0 w.heap.size 3 (.int .i64 m) := hw0 ▸ (Boxed.new w _ _).alloc _
  have hbr : Boxed w0 (w.heap.size + 1) 4 (.bool false) := hw0 ▸ (by simpa using Boxed.new (w.alloc (.cells #[.int .i64 m] 3)) 4 (.bool false))
  have A0 := Lib.hid (hw0 ▸ Adds.trans (Gr.new _ _).adds (Gr.new _ _).adds : Adds w w0)
  have hs0 : w0.heap.size = w.heap.size + 1 + 1 := by rw [← hw0]; simp
  have HV0 : Hid (Bytes (w.heap.size + 1 + 1) w0 (.slice ao l.length cap) l) := Lib.hid (hs0 ▸ (HV.out.here.below A0.out).here)
  have HBX := Lib.hid (And.intro hbm hbr); clear hbm hbr
  have HW0 := Lib.hid hw0; clear hw0
  have HS0 := Lib.hid hs0; clear hs0
  by_cases hlen : 200 < l.length
  · obtain rfl := HW0.out
    have HK := Lib.hid (worksI _ (HW.out.adds A0.out))
    have hgt : (200 : Int) < (l.length : Int) := by omega
    gi_wp2_with (refine ⟨trivial, ?_⟩; gi_at_call 6; refine (callsIn_wide.2 HK.out).mono ?_; rintro z w2 ⟨rfl, a2⟩; have hbr := boxed_adds HBX.out.2 a2; have c4 := hbr.cell; have f4 := hbr.frozen; have HBRR := Lib.hid hbr; clear hbr; have A2 := Lib.hid a2; clear a2)
    show LeavesInM _ _ _ _ _ _ _ _ _
    refine marks_leave [] w.heap.size _ (B := w.heap.size + 1 + 1) trivial fun W'' hb'' => ⟨.bool true, results_box rfl Tryz.underlying4 _ _ _ (.bool true) rfl (boxed_below (HBRR.out.set (.bool true)) hb'' (by omega)).cell, rfl, ?_⟩
    have h0 : Below w.heap.size w w2 := Below.trans A0.out (Below.mono A2.out (by have := HS0.out; omega))
    exact h0.trans (((Below.refl w.heap.size w2).setCell (p := ⟨w.heap.size + 1, 0, none⟩) (by show w.heap.size ≤ w.heap.size + 1; omega) _).trans (hb''.mono (by omega)))
  · gi_wp2
    gi_loopw [7] (fun i wr => EachHead8 l w.heap.size w0 i wr) (fun i _ => l.length + 1 - (intOf i).toNat)
    case atStart =>
      obtain rfl := HW0.out
      refine ⟨0, .slice none 0 0, .slice none 0 0, Nat.zero_le _, rfl, ?_, ?_, World.ownsRow_nil _ _ _ _, World.ownsRow_nil _ _ _ _, ?_, ?_⟩
      · simpa using (Boxed.new ((w.alloc (.cells #[.int .i64 m] 3)).alloc (.cells #[.bool false] 4)) 47 (.slice none 0 0)).alloc _
      · simpa using Boxed.new (((w.alloc (.cells #[.int .i64 m] 3)).alloc (.cells #[.bool false] 4)).alloc (.cells #[.slice none 0 0] 47)) 48 (.slice none 0 0)
      · exact ((Below.refl _ _).alloc (by simp) _).alloc (by simp) _
      · simp
    case round =>
      obtain ⟨j, v7, v8, hj, rfl, b7, b8, r7, r8, hb, hs⟩ := hrel
      have hpos := pos_le l j hj
      have hjN := cnt_le l
      have c7 := b7.cell
      have c8 := b8.cell
      have f7 := b7.frozen
      have f8 := b8.frozen
      have HB7 := Lib.hid b7; clear b7
      have HB8 := Lib.hid b8; clear b8
      have HR7 := Lib.hid r7; clear r7
      have HR8 := Lib.hid r8; clear r8
      have hvr : Bytes (w.heap.size + 1 + 1) wr (.slice ao l.length cap) l := HV0.out.below hb
      obtain ⟨a, ha⟩ : ∃ a, posI l j = a := ⟨_, rfl⟩
      have hsl := slice_fromB ao l.length cap a (ha ▸ hpos.2) wr
      have hbd : Bytes (w.heap.size + 1 + 1) wr (cutF ao l.length cap a) (l.drop a) := bytes_from hvr a (ha ▸ hpos.2)
      obtain ⟨vp, hvp⟩ : ∃ vp, cutF ao l.length cap a = vp := ⟨_, rfl⟩
      rw [hvp] at hsl hbd
      clear hvp
      have HRF := Lib.hid (refReadI_any vp (l.drop a) wr hbd); clear hbd
      have HBL := Lib.hid hb; clear hb
      by_cases hlt : j < cntI l
      · obtain ⟨q, hr, hps, hq0, hql⟩ := ans_ok hlt
        have HXI : Hid (xI l j = xI l j) := Lib.hid rfl
        rw [ha] at hr hps hql
        rw [hr] at HRF
        have HPS := Lib.hid (And.intro ha hps)
        have haI : (a : Int) ≤ (l.length : Int) := by have := hpos.2; omega
        have hln : (l.length : Int) ≤ 200 := by omega
        have HQ := Lib.hid (And.intro hq0 hql)
        have HJ3 : Hid (j < 1000000) := Lib.hid (by omega)
        have HLT := Lib.hid hlt
        rw [ha]
        clear hr hps hq0 hql hpos hj ha hlt
        obtain ⟨⟨x0, x1, x2, x3, x4⟩, hx⟩ : ∃ x, xI l j = x := ⟨_, rfl⟩
        rw [hx] at HRF
        have HXJ := Lib.hid hx
        clear hx HXI hvr
        gi_wp2_with (refine ⟨trivial, ?_⟩; gi_at_call 9; refine (callsIn_wide.2 HRF.out).mono ?_; rintro e wq ⟨rfl, aq⟩; have HQ0 := Lib.hid (show wr.heap.size ≤ wq.heap.size from aq.size); have AQ := Lib.hid (Adds.trans aq (Gr.new wq (.cells #[.int .i64 x0, .int .i64 x1, .int .i64 x2, .int .i64 x3, .int .u32 x4] 25)).adds); have bx : BkS 25 (wq.alloc (.cells #[.int .i64 x0, .int .i64 x1, .int .i64 x2, .int .i64 x3, .int .u32 x4] 25)) wq.heap.size [.int .i64 x0, .int .i64 x1, .int .i64 x2, .int .i64 x3, .int .u32 x4] := (BkS.new _ _ _); have BX := Lib.hid bx; have c7' := boxed_adds HB7.out AQ.out; have c8' := boxed_adds HB8.out AQ.out; clear c7 c8 f7 f8 aq bx)
        obtain ⟨wx, hwx⟩ : ∃ wx, wq.alloc (.cells #[.int .i64 x0, .int .i64 x1, .int .i64 x2, .int .i64 x3, .int .u32 x4] 25) = wx := ⟨_, rfl⟩
        have hsx : wx.heap.size = wq.heap.size + 1 := by rw [← hwx]; simp
        rw [hwx] at AQ BX c7' c8'
        first | rw [hwx] | skip
        clear hwx
        have hmx : Tryz.prog.follows .mixedOrders = true := by kernel_rfl
        have hwrx := AQ.out.size
        have HN0 : Hid (w.heap.size + 1 + 1 ≤ wx.heap.size) := Lib.hid (by omega)
        have HLow7 : Hid ((∀ g, v7.ownBlock = some g → g < wx.heap.size) ∧ v7.ownBlock ≠ some wq.heap.size) := Lib.hid ⟨fun g hg => Nat.lt_of_lt_of_le (HR7.out.lt g hg).2 hwrx, fun e => by have := (HR7.out.lt _ e).2; have := HQ0.out; omega⟩
        have HLow8 : Hid ((∀ g, v8.ownBlock = some g → g < wx.heap.size) ∧ v8.ownBlock ≠ some wq.heap.size) := Lib.hid ⟨fun g hg => Nat.lt_of_lt_of_le (HR8.out.lt g hg).2 hwrx, fun e => by have := (HR8.out.lt _ e).2; have := HQ0.out; omega⟩
        have HBx := Lib.hid (show w.heap.size + 4 ≤ wq.heap.size ∧ w.heap.size + 4 ≤ wx.heap.size from ⟨by have := HQ0.out; omega, by omega⟩)
        have HBLx := Lib.hid (show Below (w.heap.size + 1 + 1) w0 wx from HBL.out.trans (Below.mono AQ.out (by omega)))
        have HRx7 := Lib.hid (row_adds HR7.out AQ.out)
        have HRx8 := Lib.hid (row_adds HR8.out AQ.out)
        have HC78 := Lib.hid (And.intro c7' c8')
        clear c7' c8' hwrx hsx
        refine wpIn_region_inv (fun L b w2 => ∃ s7 c7' s8 c8' : Value, b = { tmps := #[Value.slice ao l.length cap, Value.int IntKind.i64 m, undef, Value.pointer (some { block := w.heap.size, off := 0 }), Value.pointer (some { block := w.heap.size + 1, off := 0 }), Value.pointer (some { block := w.heap.size + 1 + 1, off := 0 }), Value.pointer (some { block := w.heap.size + 1 + 1 + 1, off := 0 }), Value.int IntKind.i64 (a : Int), Value.pointer (some { block := wq.heap.size, off := 0 }), Value.int IntKind.i64 (q : Int), Value.int IntKind.i64 0, undef, undef, undef, undef, undef, undef, Value.slice ao l.length cap, Value.int IntKind.i64 (l.length : Int), Value.bool (decide ((200 : Int) < (l.length : Int))), undef, Value.int IntKind.i64 (a : Int), Value.slice ao l.length cap, Value.int IntKind.i64 (l.length : Int), Value.bool true, Value.tuple #[insV (x0, x1, x2, x3, x4), Value.int IntKind.i64 ((q : Nat) : Int), Value.int IntKind.i64 0], Value.slice ao l.length cap, Value.int IntKind.i64 (a : Int), vp, Value.tuple #[insV (x0, x1, x2, x3, x4), Value.int IntKind.i64 ((q : Nat) : Int), Value.int IntKind.i64 0], insV (x0, x1, x2, x3, x4), Value.int IntKind.i64 (q : Int), Value.int IntKind.i64 0, Value.int IntKind.i64 0, Value.bool false, sel2 (L 0) (v7) (u35), sel2 (L 1) (Value.int IntKind.i64 (a : Int)) (u36), sel2 (L 2) (s7) (u37), sel2 (L 3) (c7') (u38), sel2 (L 4) (v8) (u39), sel2 (L 5) (Value.agg #[.int .i64 x0, .int .i64 x1, .int .i64 x2, .int .i64 x3, .int .u32 x4]) (u40), sel2 (L 6) (s8) (u41), sel2 (L 7) (c8') (u42), u43, u44, u45, undef, undef, undef, undef, undef, undef, undef, undef, undef, undef, undef, undef, undef, undef, undef, undef, undef, undef, undef, undef, undef, undef, undef, undef, undef, undef, undef, undef, undef, undef, undef, undef, undef, undef, undef, undef, undef, undef, undef, undef, undef, undef, undef, undef, undef, undef, undef, undef, undef, undef, undef, undef, undef, undef, undef, undef, undef, undef, undef, undef, undef, undef, undef, undef, undef, undef, undef, undef, undef, undef, undef, undef, undef, undef, undef, undef, undef, undef, undef, undef, undef, undef, undef, undef, undef, undef, undef, undef, undef, undef], defers := [] } ∧ (PairS (w.heap.size + 1 + 1) wx.heap.size w0 (w.heap.size + 1 + 1) (w.heap.size + 1 + 1 + 1) 1 5 47 48 3 25 v7 v8 [.int .i64 (a : Int)] (insC (x0, x1, x2, x3, x4)) j (posV l j) (insVs l j) (L 2) (L 3) (L 8) (L 6) (L 7) (L 9) s7 c7' s8 c8' w2 ∧ BkS 25 w2 wq.heap.size (insC (x0, x1, x2, x3, x4)))) hmx (by kernel_rfl) ?inv0 ?step ?fin
        case inv0 => exact ⟨undef, v7, undef, v8, rfl, ⟨HBLx.out.drew, Nat.le_refl _, fun h => (by cases h), fun h => (by cases h), HRx7.out, HRx8.out, fun _ => rfl, fun _ => rfl, HLow7.out.1, HLow8.out.1, HC78.out.1, HC78.out.2⟩, BX.out⟩
        case step =>
          rintro L b w2 i o ho hL hC he ⟨s7, c7', s8, c8', rfl, hP⟩
          have q3 := hC 3 _ rfl
          have q7 := hC 7 _ rfl
          have q8 := hC 8 _ rfl
          have q9 := hC 9 _ rfl
          simp [Region.binds] at q3 q7 q8 q9
          have HP := Lib.hid hP; clear hP
          rcases i with _ | _ | _ | _ | _ | _ | _ | _ | _ | _ | i
          · simp only [List.getElem?_cons_zero, Option.some.injEq] at ho
            subst ho
            try simp [Region.binds] at he
            have z8 : L 8 = false := by cases h : L 8 with | false => rfl | true => (have hq := q8 h; simp [hL] at hq)
            have d := HP.out.1.box7.cell
            rw [z8] at d
            simp only [cond_false] at d
            clear q3 q7 q8 q9 hC he
            gi_wp2
            refine ⟨s7, c7', s8, c8', ?_, ?_⟩
            · simp [sel2, *]
            · (simpa [z8] using HP.out)
          · simp only [List.getElem?_cons_zero, List.getElem?_cons_succ, Option.some.injEq] at ho
            subst ho
            try simp [Region.binds] at he
            clear q3 q7 q8 q9 hC he
            gi_wp2
            refine ⟨s7, c7', s8, c8', ?_, ?_⟩
            · simp [sel2, *]
            · (simpa using HP.out)
          · simp only [List.getElem?_cons_zero, List.getElem?_cons_succ, Option.some.injEq] at ho
            subst ho
            try simp [Region.binds] at he
            have p1 := he
            clear q3 q7 q8 q9 hC he
            simp only [p1, sel2_t]
            gi_wp2
            refine ⟨.slice (some ⟨w2.heap.size, 0, none⟩) 1 1, c7', s8, c8', ?_, ?_⟩
            · simp [sel2, *]
            · (simpa using And.intro (HP.out.1.mk7 HN0.out _) (HP.out.2.adds (Gr.new w2 _).adds))
          · simp only [List.getElem?_cons_zero, List.getElem?_cons_succ, Option.some.injEq] at ho
            subst ho
            try simp [Region.binds] at he
            obtain ⟨p0, p2⟩ := he
            have z8 : L 8 = false := by cases h : L 8 with | false => rfl | true => (have hq := q8 h; simp [hL] at hq)
            clear q3 q7 q8 q9 hC
            have hP1 := HP.out.1
            have HX := Lib.hid HP.out.2
            rw [p2, hL, z8] at hP1
            simp only [p0, p2, hL, sel2_t]
            refine pair_append hP1 rfl (.tmp 35) (.tmp 37) rfl (.int .i64 0) 8 (by decide) Tryz.underlying47 infoI rfl (by decide) rfl rfl rfl (by intro u hu; simp only [List.mem_singleton] at hu; subst hu; rfl) HJ3.out HN0.out (by decide) (by decide) (by decide) ?_
            intro v' w' hP' hgr
            refine ⟨s7, v', s8, c8', ?_, ?_⟩
            · (simp [sel2, *]; rfl)
            · have hx' : BkS 25 w' wq.heap.size (insC (x0, x1, x2, x3, x4)) := (hgr.block _ HX.out.lt (fun e => HLow7.out.2 e.symm)).trans HX.out
              (simpa [p2, z8] using And.intro hP' hx')
          · simp only [List.getElem?_cons_zero, List.getElem?_cons_succ, Option.some.injEq] at ho
            subst ho
            try simp [Region.binds] at he
            have z9 : L 9 = false := by cases h : L 9 with | false => rfl | true => (have hq := q9 h; simp [hL] at hq)
            have d := HP.out.1.box8.cell
            rw [z9] at d
            simp only [cond_false] at d
            clear q3 q7 q8 q9 hC he
            gi_wp2
            refine ⟨s7, c7', s8, c8', ?_, ?_⟩
            · simp [sel2, *]
            · (simpa [z9] using HP.out)
          · simp only [List.getElem?_cons_zero, List.getElem?_cons_succ, Option.some.injEq] at ho
            subst ho
            try simp [Region.binds] at he
            clear q3 q7 q8 q9 hC he
            have e0 := HP.out.2.cell 0
            have e1 := HP.out.2.cell 1
            have e2 := HP.out.2.cell 2
            have e3 := HP.out.2.cell 3
            have e4 := HP.out.2.cell 4
            simp only [List.getElem?_cons_zero, List.getElem?_cons_succ] at e0 e1 e2 e3 e4
            gi_wp2
            refine ⟨s7, c7', s8, c8', ?_, ?_⟩
            · simp [sel2, *]
            · (simpa using HP.out)
          · simp only [List.getElem?_cons_zero, List.getElem?_cons_succ, Option.some.injEq] at ho
            subst ho
            try simp [Region.binds] at he
            have p5 := he
            clear q3 q7 q8 q9 hC he
            simp only [p5, sel2_t]
            gi_wp2
            refine ⟨s7, c7', .slice (some ⟨w2.heap.size, 0, none⟩) 1 1, c8', ?_, ?_⟩
            · simp [sel2, *]
            · (simpa using And.intro (HP.out.1.swap.mk7 HN0.out _).swap (HP.out.2.adds (Gr.new w2 _).adds))
          · simp only [List.getElem?_cons_zero, List.getElem?_cons_succ, Option.some.injEq] at ho
            subst ho
            try simp [Region.binds] at he
            obtain ⟨p4, p6, p3⟩ := he
            have z9 : L 9 = false := by cases h : L 9 with | false => rfl | true => (have hq := q9 h; simp [hL] at hq)
            clear q3 q7 q8 q9 hC
            have hP1 := HP.out.1
            have HX := Lib.hid HP.out.2
            rw [p6, hL, z9] at hP1
            simp only [p4, p6, hL, sel2_t]
            refine pair_append hP1.swap rfl (.tmp 39) (.tmp 41) rfl (.agg #[.int .i64 0, .int .i64 0, .int .i64 0, .int .i64 0, .int .u32 0]) 40 (by decide) Tryz.underlying48 infoX rfl (by decide) rfl rfl rfl (insC_one _) HJ3.out HN0.out (by decide) (by decide) (by decide) ?_
            intro v' w' hP' hgr
            refine ⟨s7, c7', s8, v', ?_, ?_⟩
            · (simp [sel2, *]; rfl)
            · have hx' : BkS 25 w' wq.heap.size (insC (x0, x1, x2, x3, x4)) := (hgr.block _ HX.out.lt (fun e => HLow8.out.2 e.symm)).trans HX.out
              (simpa [p6, z9] using And.intro hP'.swap hx')
          · simp only [List.getElem?_cons_zero, List.getElem?_cons_succ, Option.some.injEq] at ho
            subst ho
            try simp [Region.binds] at he
            have p2 : L 2 = true := by simp [he]
            have p3 : L 3 = true := by simp [he]
            clear q3 q7 q8 q9 hC he
            have hP1 := HP.out.1
            have HX := Lib.hid HP.out.2
            rw [p2, p3, hL] at hP1
            have HP1 := Lib.hid hP1
            obtain ⟨g, cp, rfl⟩ := row_form hP1.row7 (by simp)
            have d := hP1.box7.cell
            have f := hP1.box7.frozen
            clear hP1
            simp only [p3, sel2_t]
            gi_wp2
            refine ⟨s7, .slice (some ⟨g, 0, none⟩) (j + 1) cp, s8, c8', ?_, ?_⟩
            · simp [sel2, *]
            · (simpa [p2, p3] using And.intro (HP1.out.put7 (by omega) (by omega) (by decide) (by decide) (by have := HBx.out; omega)) (HX.out.other (by have := HBx.out; omega) _))
          · simp only [List.getElem?_cons_zero, List.getElem?_cons_succ, Option.some.injEq] at ho
            subst ho
            try simp [Region.binds] at he
            have p6 : L 6 = true := by simp [he]
            have p7 : L 7 = true := by simp [he]
            clear q3 q7 q8 q9 hC he
            have hP1 := HP.out.1
            have HX := Lib.hid HP.out.2
            rw [p6, p7, hL] at hP1
            have HP1 := Lib.hid hP1.swap
            obtain ⟨g, cp, rfl⟩ := row_form hP1.row8 (by simp)
            have d := hP1.box8.cell
            have f := hP1.box8.frozen
            clear hP1
            simp only [p7, sel2_t]
            gi_wp2
            refine ⟨s7, c7', s8, .slice (some ⟨g, 0, none⟩) (j + 1) cp, ?_, ?_⟩
            · simp [sel2, *]
            · (simpa [p6, p7] using And.intro (HP1.out.put7 (by omega) (by omega) (by decide) (by decide) (by have := HBx.out; omega)).swap (HX.out.other (by have := HBx.out; omega) _))
          · simp at ho
        case fin =>
          rintro b w2 ⟨s7, c7', s8, c8', rfl, hP⟩
          simp only [List.length_cons, List.length_nil, Nat.reduceAdd, Nat.reduceLT, decide_true] at hP ⊢
          have HP := Lib.hid hP; clear hP
          simp only [sel2_t]
          have hqI : (a : Int) + (q : Int) ≤ 200 := by have := HQ.out.2; omega
          gi_wp2
          have P7 := HP.out.1
          refine ⟨⟨j + 1, c7', c8', HLT.out, by rw [HPS.out.2]; go_num, P7.box7, P7.box8, ?_, ?_, P7.hb, by have := P7.hs; have := HBx.out; omega⟩, ?_⟩
          · rw [posV_succ, HPS.out.1]; exact P7.row7
          · rw [insVs_succ, HXJ.out]; exact P7.row8
          · simp only [intOf]
            have := HQ.out
            omega
      · obtain rfl : j = cntI l := by omega
        have hE := cnt_end l
        unfold ansI at hE
        rw [ha] at hE
        obtain ⟨x, q, er, hx, _⟩ := readI_cases (l.drop a)
        rw [hx] at hE HRF
        have hne : (er != 0) = true := by simpa using hE
        obtain ⟨x0, x1, x2, x3, x4⟩ := x
        have haI : (a : Int) ≤ (l.length : Int) := by have := hpos.2; omega
        have hln : (l.length : Int) ≤ 200 := by omega
        rw [ha]
        clear hx hE hlt hj ha hpos
        have HVR := Lib.hid hvr
        clear hvr
        gi_wp2_with (first
          | (refine ⟨trivial, ?_⟩; gi_at_call 9; refine (callsIn_wide.2 HRF.out).mono ?_; rintro e wq ⟨rfl, aq⟩; obtain ⟨wy, hwy⟩ : ∃ wy, wq.alloc (.cells #[.int .i64 x0, .int .i64 x1, .int .i64 x2, .int .i64 x3, .int .u32 x4] 25) = wy := ⟨_, rfl⟩; have AQ := Lib.hid (Adds.trans aq (show Adds wq wy by rw [← hwy]; exact (Gr.new _ _).adds)); have HVY := Lib.hid (show Bytes (w.heap.size + 1 + 1) (wy.alloc (.cells #[] 5)) (.slice ao l.length cap) l from (HVR.out.below (Below.mono AQ.out (by omega))).below ((Below.refl (w.heap.size + 1 + 1) wy).alloc (by have := AQ.out.size; omega) _)); clear aq)
          | (gi_at_builtin; refine wpIn_append_bytes rfl (.tmp 46) (.tmp 47) rfl wy.heap.size _ [] rfl (by exact own_empty wy) _ l (w.heap.size + 1 + 1) rfl (by exact HVY.out) (by simp; omega) (by simp) ?_; intro v5 w5 o5 b5; have O5 := Lib.hid o5; clear o5; have B5 := Lib.hid (Below.trans ((Below.refl wy.heap.size wy).alloc (Nat.le_refl _) _) b5); clear b5)
          | (gi_at_builtin; refine wpIn_append1 rfl (.tmp 48) (.tmp 49) rfl wy.heap.size _ ([] ++ l) 77 rfl (by exact O5.out) 77 rfl rfl (by simp; omega) (by exact B5.out.size) ?_; intro v6 w6 o6 b6; have O6 := Lib.hid o6; clear o6; have B6y := Lib.hid (Below.trans B5.out b6); clear b6; obtain ⟨g6, cap6, rfl, hg6, hg6'⟩ := OwnB.form O6.out (by simp); have hc6 : l.length + 1 ≤ cap6 := (by obtain ⟨_, _, e, e1, _⟩ := O6.out.bytes; simp only [Value.slice.injEq] at e; simp at e1; omega)))
        have B6 : Hid (Adds wr w6) := Lib.hid (Adds.trans AQ.out B6y.out)
        refine ⟨trivial, ?_⟩
        have HC6 := Lib.hid (show Bytes w6.heap.size w6 (.slice (some ⟨g6, 0, none⟩) l.length cap6) l from (by have h0 := O6.out.bytes.sliced 0 l.length cap6 (by omega) (by simp) (by omega) (Nat.le_refl _); split at h0 <;> simpa [Addr.add] using h0))
        refine (callsIn_wide.2 (each8_any _ _ l w6 HC6.out (by omega))).mono ?_
        rintro e w7 ⟨a7, Br, aoc, capc, rfl, hk1, hk2, cr0, hbc, hao⟩
        have A7 := Lib.hid a7; clear a7
        have HBC := Lib.hid hbc; clear hbc
        have HAO := Lib.hid hao; clear hao
        have hnn := seq_not_nil
        have hgy := AQ.out.size
        gi_wp2
        refine wpIn_loop_ghost (EachTurn8 ao l cap m w.heap.size g6 cap6 Br w7) 2 ?start ?round
        case start => exact EachTurn8.mk _ _ _ _ _ _ _ _ w7 0 w7.heap.size rfl rfl rfl rfl rfl rfl rfl rfl rfl rfl rfl (Gr.new _ _).adds (Nat.le_refl _) (Boxed.new _ _ _) trivial
        case round =>
          rintro g aa W ⟨t, Bt, ds, f, hg, rfl, hb, hBt, bt, hm⟩
          have HG := Lib.hid hg; clear hg
          have ct := bt.cell
          have ft := bt.frozen
          have HBT := Lib.hid bt; clear bt
          have HM := Lib.hid hm; clear hm
          have HB := Lib.hid hb; clear hb
          have HSW := Lib.hid HB.out.size
          have hsz := HSW.out
          have hz6 := Below.size B6.out
          have hz7 := Below.size A7.out
          have HWv := Lib.hid (((((HW.out.adds A0.out).adds (HBL.out.mono (by have := HS0.out; omega))).adds B6.out).adds A7.out).adds HB.out)
          by_cases ht : t < 2
          · gi_wp2
            rw [show decide ((t : Int) < 2) = true by rw [decide_eq_true_eq]; omega]
            generalize hWr : W.alloc (Obj.cells #[Value.int IntKind.i64 0] 3) = Wr
            have bn0 : Boxed Wr W.heap.size 3 (.int .i64 (([] : List Nat).length : Nat)) := hWr ▸ Boxed.new W _ _
            have bt0 : Boxed Wr Bt 3 (.int .i64 (t : Nat)) := hWr ▸ HBT.out.alloc _
            have AR := Lib.hid (hWr ▸ (Gr.new W _).adds : Adds W Wr)
            have HSR := Lib.hid (show Wr.heap.size = W.heap.size + 1 by rw [← hWr]; simp)
            clear hWr
            have HB0 := Lib.hid (And.intro bt0 bn0); clear bt0 bn0
            have HBR := Lib.hid (HB.out.trans (Below.mono AR.out hsz))
            have hBtl := HBT.out.lt
            have HVC := Lib.hid (Bytes.here (HBC.out.here.below HBR.out))
            have HWr := Lib.hid (HWv.out.adds AR.out).wid
            have HSQ := Lib.hid (each8_seq 5 (by omega) Br (fun q => q = W.heap.size) aoc capc l (by omega) Wr (by intro b hb; rw [hb, HSR.out]; omega) (by intro b o hao hb; have := HAO.out b o hao; have := hb.symm; omega)
              (by have := World.block_lt_of_cell? W _ HWv.out.wid.c0; intro h; omega)
              ((HBR.out.cell (p := ⟨Br, 0, none⟩) hk2).trans cr0) HVC.out HWr.out)
            obtain ⟨N, hN⟩ : ∃ N, cntI l = N := ⟨_, rfl⟩
            have hNl : N ≤ 200 := by have := cnt_le l; omega
            rw [hN] at HSQ
            have HNN := Lib.hid hN; clear hN
            refine' rangeFunc_SB rfl (by omega) (gf := 43) (lb := #[.pointer (some ⟨Br, 0, none⟩)]) rfl trivial (enters_of Tryz.func43 (by kernel_rfl) rfl) HSQ.out
              KeepC.trans (fun W l o o' _ h hc _ => KeepC.put W l o o' h hc) (Below.refl _ _) (fun _ => rfl)
              (fun pre V => Below w7.heap.size w7 V ∧ Boxed V Bt 3 (.int .i64 (t : Nat)) ∧ Boxed V W.heap.size 3 (.int .i64 (pre.length : Nat)) ∧ (t = 0 → pre = [] ∨ (pre.length : Int) < m) ∧ Marks w7.heap.size W.heap.size V ds)
              (fun c pre V => c = .exit 4 ∧ Below w7.heap.size w7 V ∧ Boxed V Bt 3 (.int .i64 (t : Nat)) ∧ Boxed V W.heap.size 3 (.int .i64 (pre.length : Nat)) ∧ (t = 0 ∧ (pre.length : Int) = max 1 m) ∧ Marks w7.heap.size W.heap.size V ds)
              ?own ?ownx ?h0 _ (fun x => .cells (insC (xI l x)).toArray 25 (0, 0)) (fun W o _ => KeepC.of_below (Gr.new W o).adds) ?assign ?body ?done ?stop
            case assign =>
              intro l2 x W2 bb K hbb hK
              have HK := Lib.hid hK; clear hK
              gi_wp2
              exact HK.out
            case own => exact fun s A B hs hb => ⟨hs.1.trans (hb.mono (by rw [HSR.out]; omega)), boxed_below hs.2.1 hb (by rw [HSR.out]; omega), boxed_below hs.2.2.1 hb (by rw [HSR.out]; omega), hs.2.2.2.1, hs.2.2.2.2.below hb (by rw [HSR.out]; omega)⟩
            case ownx => exact fun c s A B hs hb => ⟨hs.1, hs.2.1.trans (hb.mono (by rw [HSR.out]; omega)), boxed_below hs.2.2.1 hb (by rw [HSR.out]; omega), boxed_below hs.2.2.2.1 hb (by rw [HSR.out]; omega), hs.2.2.2.2.1, hs.2.2.2.2.2.below hb (by rw [HSR.out]; omega)⟩
            case h0 => exact ⟨HBR.out, HB0.out.1, HB0.out.2, fun _ => .inl rfl, HM.out.below AR.out (Nat.le_refl _)⟩
            case body =>
              clear ct ft
              rintro l2 pre x W2 bb ⟨hb2, bt2, bn2, hpm, hm2⟩ hgx hbb hbo
              obtain ⟨hx1, hpre⟩ := id hgx
              have hpl : pre.length = x := by rw [hpre, List.length_range]
              rw [hpl] at bn2 hpm
              have HPL := Lib.hid hpl; clear hpl hpre hgx
              have ct := bt2.cell
              have cn := bn2.cell
              have fn := bn2.frozen
              have bk : BkS 25 W2 bb (insC (xI l x)) := hbo
              have hr7 := row_adds (row_adds (row_adds HR7.out B6.out) A7.out) hb2
              have hr8 := row_adds (row_adds (row_adds HR8.out B6.out) A7.out) hb2
              have hx7 := boxed_adds (boxed_adds (boxed_adds HB7.out B6.out) A7.out) hb2
              have hx8 := boxed_adds (boxed_adds (boxed_adds HB8.out B6.out) A7.out) hb2
              rw [HNN.out] at hr7 hr8
              obtain ⟨g7, cap7, e7⟩ := row_form hr7 (by omega)
              obtain ⟨g8, cap8, e8⟩ := row_form hr8 (by omega)
              rw [e7] at hr7 hx7
              rw [e8] at hr8 hx8
              have d7 : W2.cell? ⟨g7, x, none⟩ = some (.int .i64 ((posI l x : Nat) : Int)) := row_cell8 hr7 (by simp [posV, hx1])
              have d80 : W2.cell? ⟨g8, x * 5, none⟩ = (insC (xI l x))[0]? := by have h0 := insVs_at l x 0 (by omega) N hx1; rw [List.getElem?_cons_zero] at h0 ⊢; exact row_cell8 hr8 h0
              have d81 : W2.cell? ⟨g8, x * 5 + 1, none⟩ = (insC (xI l x))[1]? := by have h0 := insVs_at l x 1 (by omega) N hx1; simp only [List.getElem?_cons_zero, List.getElem?_cons_succ] at h0 ⊢; exact row_cell8 hr8 h0
              have d82 : W2.cell? ⟨g8, x * 5 + 2, none⟩ = (insC (xI l x))[2]? := by have h0 := insVs_at l x 2 (by omega) N hx1; simp only [List.getElem?_cons_zero, List.getElem?_cons_succ] at h0 ⊢; exact row_cell8 hr8 h0
              have d83 : W2.cell? ⟨g8, x * 5 + 3, none⟩ = (insC (xI l x))[3]? := by have h0 := insVs_at l x 3 (by omega) N hx1; simp only [List.getElem?_cons_zero, List.getElem?_cons_succ] at h0 ⊢; exact row_cell8 hr8 h0
              have d84 : W2.cell? ⟨g8, x * 5 + 4, none⟩ = (insC (xI l x))[4]? := by have h0 := insVs_at l x 4 (by omega) N hx1; simp only [List.getElem?_cons_zero, List.getElem?_cons_succ] at h0 ⊢; exact row_cell8 hr8 h0
              have c7 := hx7.cell
              have c8 := hx8.cell
              have c25 := (boxed_adds (boxed_adds (boxed_adds (boxed_below HBX.out.1 HBL.out (by omega)) B6.out) A7.out) hb2).cell
              obtain ⟨⟨x0, x1, x2, x3, x4⟩, hxe⟩ : ∃ y, xI l x = y := ⟨_, rfl⟩
              obtain ⟨y1, hy1⟩ : ∃ y : Int, ((posI l x : Nat) : Int) = y := ⟨_, rfl⟩
              rw [hxe] at bk d80 d81 d82 d83 d84
              rw [hy1] at d7
              simp only [hxe, hy1]
              simp only [insC, List.getElem?_cons_zero, List.getElem?_cons_succ] at d80 d81 d82 d83 d84
              have e0 : W2.cell? ⟨bb, 0, none⟩ = some (.int .i64 x0) := bk.cell 0
              have e1 : W2.cell? ⟨bb, 1, none⟩ = some (.int .i64 x1) := bk.cell 1
              have e2 : W2.cell? ⟨bb, 2, none⟩ = some (.int .i64 x2) := bk.cell 2
              have e3 : W2.cell? ⟨bb, 3, none⟩ = some (.int .i64 x3) := bk.cell 3
              have e4 : W2.cell? ⟨bb, 4, none⟩ = some (.int .u32 x4) := bk.cell 4
              clear e7 e8 hr7 hr8 hx7 hx8 hxe hy1 bk hbo hbb
              have HBB := Lib.hid (And.intro hb2 (And.intro bt2 (And.intro bn2 hm2))); clear bt2 bn2 hm2 hb2
              have HPM := Lib.hid hpm; clear hpm
              have hd : 1 ≤ 6 - 1 - 1 := by omega
              have hx3 : (x : Int) ≤ 1000000000 := by omega
              have hx4 : decide (N ≤ x) = false := by rw [decide_eq_false_iff_not]; omega
              have hx5 : ¬ ((N : Int) ≤ (x : Int)) := by omega
              have hx6 : (x : Int) < (N : Int) := by omega
              have hN3 : (N : Int) ≤ 200 := by omega
              have hq := ins_neq (x0, x1, x2, x3, x4) (x0, x1, x2, x3, x4)
              rw [show eqI (x0, x1, x2, x3, x4) (x0, x1, x2, x3, x4) = true from eqI_iff.2 rfl] at hq
              have hkf : KeepsFrom Wr.heap.size W2 (W2.drew.setCell ⟨W.heap.size, 0, none⟩ (.int .i64 ((x : Int) + 1))) := ((KeepsOthers.drew W2).from _).trans ((KeepsOthers.setCell _ _ _).from _)
              have hb3 : Below w7.heap.size w7 (W2.drew.setCell ⟨W.heap.size, 0, none⟩ (.int .i64 ((x : Int) + 1))) := HBB.out.1.drew.setCell (p := ⟨W.heap.size, 0, none⟩) hsz _
              have bt2d : Boxed W2.drew Bt 3 (.int .i64 (t : Nat)) := HBB.out.2.1
              have bn2d : Boxed W2.drew W.heap.size 3 (.int .i64 (x : Nat)) := HBB.out.2.2.1
              have ht3 : Boxed (W2.drew.setCell ⟨W.heap.size, 0, none⟩ (.int .i64 ((x : Int) + 1))) Bt 3 (.int .i64 (t : Nat)) := bt2d.other (by omega) _
              have hn3 : Boxed (W2.drew.setCell ⟨W.heap.size, 0, none⟩ (.int .i64 ((x : Int) + 1))) W.heap.size 3 (.int .i64 ((pre ++ [x]).length : Nat)) := by
                have := bn2d.set (.int .i64 ((x : Int) + 1))
                rw [List.length_append, HPL.out]
                exact this
              have hm3 : Marks w7.heap.size W.heap.size (W2.drew.setCell ⟨W.heap.size, 0, none⟩ (.int .i64 ((x : Int) + 1))) ds :=
                HBB.out.2.2.2.below ((Below.refl W.heap.size W2).drew.setCell (p := ⟨W.heap.size, 0, none⟩) (Nat.le_refl _) _) (Nat.le_refl _)
              have hk3 : KeepC (fun q => q = W.heap.size) W2 (W2.drew.setCell ⟨W.heap.size, 0, none⟩ (.int .i64 ((x : Int) + 1))) := KeepC.trans (KeepC.of_below (Adds.drew W2)) (keepC_setT _ _ _)
              have hln : ((pre ++ [x]).length : Int) = (x : Int) + 1 := by rw [List.length_append, HPL.out]; simp
              have hp0 : pre = [] ↔ x = 0 := by rw [← List.length_eq_zero_iff, HPL.out]
              have HE := Lib.hid (And.intro hkf (And.intro hb3 (And.intro ht3 (And.intro hn3 (And.intro hm3 (And.intro hk3 (And.intro hln hp0))))))); clear hkf hb3 ht3 hn3 hm3 hk3 hln hp0 bt2d bn2d
              have hmx : Tryz.prog.follows .mixedOrders = true := by kernel_rfl
              gi_wp2
              refine wpIn_region_inv (fun L b w2 => Same8 b ({ tmps := #[Value.slice ao l.length cap, Value.int IntKind.i64 m, f 2, Value.pointer (some { block := w.heap.size, off := 0 }), Value.pointer (some { block := w.heap.size + 1, off := 0 }), Value.pointer (some { block := w.heap.size + 1 + 1, off := 0 }), Value.pointer (some { block := w.heap.size + 1 + 1 + 1, off := 0 }), f 7, f 8, f 9, f 10, Value.slice (some { block := g6, off := 0 }) l.length cap6, Value.func (Fn.func 43) #[] #[Value.pointer (some { block := Br, off := 0 })], Value.pointer (some { block := Bt, off := 0 }), Value.pointer (some { block := W.heap.size, off := 0 }), Value.int IntKind.i64 y1, Value.pointer (some { block := bb, off := 0 }), f 17, f 18, f 19, f 20, f 21, f 22, f 23, f 24, f 25, f 26, f 27, f 28, f 29, f 30, f 31, f 32, f 33, f 34, f 35, f 36, f 37, f 38, f 39, f 40, f 41, f 42, f 43, f 44, f 45, f 46, f 47, f 48, f 49, f 50, f 51, f 52, f 53, f 54, f 55, f 56, f 57, Value.int IntKind.i64 (t : Int), Value.bool true, f 60, f 61, Value.func (Fn.func 43) #[] #[Value.pointer (some { block := Br, off := 0 })], Value.int IntKind.i64 y1, insV (x0, x1, x2, x3, x4), sel2 (L 0) (Value.int IntKind.i64 (x : Int)) (f 65), sel2 (L 1) (Value.slice (some { block := g8, off := 0 }) N cap8) (f 66), sel2 (L 2) (Value.int IntKind.i64 (N : Int)) (f 67), sel2 (L 3) (Value.bool false) (f 68), sel2 (L 4) (Value.bool false) (f 69), sel2 (L 5) (Value.int IntKind.i64 y1) (f 70), sel2 (L 6) (Value.slice (some { block := g7, off := 0 }) N cap7) (f 71), sel2 (L 7) (Value.int IntKind.i64 (x : Int)) (f 72), sel2 (L 8) (Value.pointer (some { block := g7, off := x })) (f 73), sel2 (L 9) (Value.int IntKind.i64 y1) (f 74), sel2 (L 10) (Value.bool false) (f 75), sel2 (L 11) (Value.bool false) (f 76), sel2 (L 12) (Value.bool false) (f 77), sel2 (L 13) (Value.agg #[.int .i64 x0, .int .i64 x1, .int .i64 x2, .int .i64 x3, .int .u32 x4]) (f 78), sel2 (L 14) (Value.slice (some { block := g8, off := 0 }) N cap8) (f 79), sel2 (L 15) (Value.int IntKind.i64 (x : Int)) (f 80), sel2 (L 16) (Value.pointer (some { block := g8, off := x * 5 })) (f 81), sel2 (L 17) (Value.agg #[.int .i64 x0, .int .i64 x1, .int .i64 x2, .int .i64 x3, .int .u32 x4]) (f 82), sel2 (L 18) (Value.bool false) (f 83), sel2 (L 19) (Value.bool false) (f 84), f 85, f 86, f 87, f 88, f 89, f 90, f 91, f 92, f 93, f 94, f 95, f 96, f 97, f 98, f 99, f 100, f 101, f 102, f 103, f 104, f 105, f 106, f 107, f 108, f 109, f 110, f 111, f 112, f 113, f 114, f 115, f 116, f 117, f 118, f 119, f 120, f 121, f 122, f 123, f 124, f 125, f 126, f 127, f 128, f 129, f 130, f 131, f 132, f 133, f 134, f 135], defers := [] }) w2 W2.drew) hmx (by kernel_rfl) ?inv0 ?step ?fin
              case inv0 => exact ⟨rfl, rfl⟩
              case step =>
                rintro L b w2 i o ho hL hC he ⟨rfl, rfl⟩
                clear hC
                have k7 : W2.drew.cell? ⟨g7, x, none⟩ = some (.int .i64 y1) := d7
                have k80 : W2.drew.cell? ⟨g8, x * 5, none⟩ = some (.int .i64 x0) := d80
                have k81 : W2.drew.cell? ⟨g8, x * 5 + 1, none⟩ = some (.int .i64 x1) := d81
                have k82 : W2.drew.cell? ⟨g8, x * 5 + 2, none⟩ = some (.int .i64 x2) := d82
                have k83 : W2.drew.cell? ⟨g8, x * 5 + 3, none⟩ = some (.int .i64 x3) := d83
                have k84 : W2.drew.cell? ⟨g8, x * 5 + 4, none⟩ = some (.int .u32 x4) := d84
                have j0 : W2.drew.cell? ⟨bb, 0, none⟩ = some (.int .i64 x0) := e0
                have j1 : W2.drew.cell? ⟨bb, 1, none⟩ = some (.int .i64 x1) := e1
                have j2 : W2.drew.cell? ⟨bb, 2, none⟩ = some (.int .i64 x2) := e2
                have j3 : W2.drew.cell? ⟨bb, 3, none⟩ = some (.int .i64 x3) := e3
                have j4 : W2.drew.cell? ⟨bb, 4, none⟩ = some (.int .u32 x4) := e4
                have kn : W2.drew.cell? ⟨W.heap.size, 0, none⟩ = some (.int .i64 (x : Nat)) := cn
                have kc7 : W2.drew.cell? ⟨w.heap.size + 1 + 1, 0, none⟩ = some (.slice (some ⟨g7, 0, none⟩) N cap7) := c7
                have kc8 : W2.drew.cell? ⟨w.heap.size + 1 + 1 + 1, 0, none⟩ = some (.slice (some ⟨g8, 0, none⟩) N cap8) := c8
                rcases i with _ | _ | _ | _ | _ | _ | _ | _ | _ | _ | _ | _ | _ | _ | _ | _ | _ | _ | _ | _ | i
                all_goals try (simp only [List.getElem?_cons_zero, List.getElem?_cons_succ, Option.some.injEq] at ho; subst ho)
                all_goals try (simp at ho; done)
                all_goals
                  try simp [Region.binds] at he
                  try simp only [he, sel2_t]
                  gi_wp2
                  refine ⟨?_, rfl⟩
                  simp [sel2, *]
              case fin =>
                rintro b w2 ⟨rfl, rfl⟩
                simp only [List.length_cons, List.length_nil, Nat.reduceAdd, Nat.reduceLT, decide_true, sel2_t]
                clear d7 d80 d81 d82 d83 d84 e0 e1 e2 e3 e4 c7 c8
                by_cases ht0 : t = 0
                · subst ht0
                  by_cases hmx : m ≤ (x : Int) + 1
                  · gi_wp2
                    obtain ⟨hkf, hb3, ht3, hn3, hm3, hk3, hln, hp0⟩ := HE.out
                    exact ⟨hkf, rfl, hb3, ht3, hn3, (by rw [hln]; rcases HPM.out (by simp) with h | h; (· rw [hp0] at h; omega); omega), hm3⟩
                  · gi_wp2
                    obtain ⟨hkf, hb3, ht3, hn3, hm3, hk3, hln, hp0⟩ := HE.out
                    exact ⟨hkf, hk3, hb3, ht3, hn3, .inr (by rw [hln]; omega), hm3⟩
                · obtain rfl : t = 1 := by omega
                  gi_wp2
                  obtain ⟨hkf, hb3, ht3, hn3, hm3, hk3, hln, hp0⟩ := HE.out
                  first | exact ⟨hkf, hk3, hb3, ht3, hn3, (fun h => absurd h (by decide)), hm3⟩ | exact ⟨hkf, hk3, hb3, ht3, hn3, hm3⟩
            case done =>
              clear ct ft
              rintro D xs W2 hD rfl ⟨hb2, bt2, bn2, hpm, hm2⟩ hK
              rw [List.length_range] at bn2 hpm
              have hN : t = 0 → min (N : Int) (max 1 m) = (N : Int) := by
                intro h0
                rcases hpm h0 with h | h
                · have : N = 0 := by cases N with | zero => rfl | succ k => rw [List.range_succ] at h; simp at h
                  omega
                · omega
              have HEND := Lib.hid (turn_endT (a := #[]) hb2 (by rw [HSR.out] at hD; omega) hD hK hm2 (by rw [HSR.out]; omega))
              have hr8 := row_adds (row_adds (row_adds HR8.out B6.out) A7.out) hb2
              rw [HNN.out] at hr8
              have hv8 : ∃ a8 c8, v8 = .slice a8 N c8 := by
                rcases hr8.2 with ⟨e, e0⟩ | ⟨g, cap, cur, e, _⟩
                · exact ⟨none, 0, by rw [e, e0]⟩
                · exact ⟨_, _, e⟩
              obtain ⟨a8, cp8, e8⟩ := hv8
              have hx8 := boxed_adds (boxed_adds (boxed_adds HB8.out B6.out) A7.out) hb2
              rw [e8] at hx8
              have ct := bt2.cell
              have cn := bn2.cell
              have c8 := hx8.cell
              have c25 := (boxed_adds (boxed_adds (boxed_adds (boxed_below HBX.out.1 HBL.out (by omega)) B6.out) A7.out) hb2).cell
              clear hpm hK hm2 hb2 bt2 bn2 e8 hr8 hx8
              by_cases ht0 : t = 0
              · subst ht0
                have hN0 := hN rfl
                clear hN
                gi_wp2
                all_goals
                  obtain ⟨e1, e2, e3⟩ := HEND.out
                  exact ⟨1, by have := HG.out; omega, EachTurn8.mk _ _ _ _ _ _ _ _ w7 1 W2.heap.size (by omega) rfl rfl rfl rfl rfl rfl rfl rfl rfl rfl (e1.alloc e1.size _) e1.size (Boxed.new _ _ _) ((e3.below (Gr.new _ _).adds (Nat.le_refl _)).up (by simp))⟩
              · obtain rfl : t = 1 := by omega
                clear hN
                gi_wp2
                all_goals
                  obtain ⟨e1, e2, e3⟩ := HEND.out
                  exact ⟨0, by have := HG.out; omega, EachTurn8.mk _ _ _ _ _ _ _ _ w7 2 W2.heap.size (by omega) rfl rfl rfl rfl rfl rfl rfl rfl rfl rfl (e1.alloc e1.size _) e1.size (Boxed.new _ _ _) ((e3.below (Gr.new _ _).adds (Nat.le_refl _)).up (by simp))⟩
            case stop =>
              clear ct ft
              rintro D c pre W2 hD ⟨j, hj, hpre⟩ ⟨rfl, hb2, bt2, bn2, ⟨ht0, hmx⟩, hm2⟩ hK
              have hpl : pre.length = j := by rw [hpre, List.length_range]
              rw [hpl] at bn2 hmx
              subst ht0
              have hN0 : min (N : Int) (max 1 m) = (j : Int) := by omega
              have HEND := Lib.hid (turn_endT (a := #[]) hb2 (by rw [HSR.out] at hD; omega) hD hK hm2 (by rw [HSR.out]; omega))
              have hr8 := row_adds (row_adds (row_adds HR8.out B6.out) A7.out) hb2
              rw [HNN.out] at hr8
              have hv8 : ∃ a8 c8, v8 = .slice a8 N c8 := by
                rcases hr8.2 with ⟨e, e0⟩ | ⟨g, cap, cur, e, _⟩
                · exact ⟨none, 0, by rw [e, e0]⟩
                · exact ⟨_, _, e⟩
              obtain ⟨a8, cp8, e8⟩ := hv8
              have hx8 := boxed_adds (boxed_adds (boxed_adds HB8.out B6.out) A7.out) hb2
              rw [e8] at hx8
              have ct := bt2.cell
              have cn := bn2.cell
              have c8 := hx8.cell
              have c25 := (boxed_adds (boxed_adds (boxed_adds (boxed_below HBX.out.1 HBL.out (by omega)) B6.out) A7.out) hb2).cell
              clear hK hm2 hb2 bt2 bn2 hpl hpre hj hmx e8 hr8 hx8
              gi_wp2
              all_goals
                obtain ⟨e1, e2, e3⟩ := HEND.out
                exact ⟨1, by have := HG.out; omega, EachTurn8.mk _ _ _ _ _ _ _ _ w7 1 W2.heap.size (by omega) rfl rfl rfl rfl rfl rfl rfl rfl rfl rfl (e1.alloc e1.size _) e1.size (Boxed.new _ _ _) ((e3.below (Gr.new _ _).adds (Nat.le_refl _)).up (by simp))⟩
          · have HVW := Lib.hid (Bytes.here ((((HV0.out.below HBL.out).here.below B6.out).here.below A7.out).here.below HB.out))
            have HCW := Lib.hid (Bytes.here (((HC6.out.below A7.out).here).below HB.out))
            have hsb := strAt HVW.out
            have hsc := strAt HCW.out
            have hcc : w6.cell? ⟨g6, l.length, none⟩ = some (.int .u8 77) := by
              have h0 := World.ownsRow.cells O6.out (g := g6) rfl l.length (byteV 77) (by simp)
              by_cases hl0 : l = [] <;> simpa [Addr.add, byteV, hl0] using h0
            have h77 : W.cell? ⟨g6, l.length, none⟩ = some (.int .u8 77) := (Below.cell HB.out (p := ⟨g6, l.length, none⟩) (by have := Below.size A7.out; show g6 < _; omega)).trans ((Below.cell A7.out (p := ⟨g6, l.length, none⟩) hg6').trans hcc)
            clear hcc
            have HK := Lib.hid (worksI W HWv.out)
            have HBW := Lib.hid (boxed_adds (boxed_adds (boxed_adds (boxed_below HBX.out.2 HBL.out (by omega)) B6.out) A7.out) HB.out)
            gi_wp2_with (refine ⟨trivial, ?_⟩; gi_at_call 6; refine (callsIn_wide.2 HK.out).mono ?_; rintro z w2 ⟨rfl, a2⟩; have hbr := boxed_adds HBW.out a2; have c4 := hbr.cell; have f4 := hbr.frozen; have HBRR := Lib.hid hbr; clear hbr; have A2 := Lib.hid a2; clear a2)
            show LeavesInM _ _ _ _ _ _ _ _ _
            have hz1 := Below.size B6.out
            have hz2 := Below.size A7.out
            have hbs : Below w7.heap.size w7 w2 := HB.out.trans (Below.mono A2.out HSW.out)
            have hms : Marks w7.heap.size W.heap.size (w2.setCell ⟨w.heap.size + 1, 0, none⟩ (.bool true)) ds := marks_setT (HM.out.below A2.out (Nat.le_refl _)) (by omega) _
            refine marks_leave ds _ _ hms fun W'' hb'' => ⟨.bool true, results_box rfl Tryz.underlying4 _ _ _ (.bool true) rfl (boxed_below (HBRR.out.set (.bool true)) hb'' (by omega)).cell, rfl, ?_⟩
            have h0 : Below w.heap.size w w7 := Below.trans A0.out ((HBL.out.mono (by omega)).trans ((Below.mono B6.out (by omega)).trans (Below.mono A7.out (by omega))))
            exact h0.trans (((hbs.mono (by omega)).setCell (p := ⟨w.heap.size + 1, 0, none⟩) (by show w.heap.size ≤ w.heap.size + 1; omega) _).trans (hb''.mono (by omega)))
end Go.Proofs.YtdbbilabhlnhmaaGreatDoor
