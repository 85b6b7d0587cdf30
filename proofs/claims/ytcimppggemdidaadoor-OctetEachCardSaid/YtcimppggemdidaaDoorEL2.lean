/- The law OctetEach: its first loop (what is wanted of each piece). -/
import Derived.Laws.Build
import Derived.Sort.LoopGhostIn
import Derived.Test.YtcimppggemdidaaDoorE5
import Derived.Test.YtcimppggemdidaaDoorMarks
import Derived.Test.YtcimppggemdidaaDoorInvIn
import Derived.OwnWalkIn
import Derived.Test.YtcimppggemdidaaDoorPair2
import Derived.Test.YtcimppggemdidaaDoorAppIn
import Derived.Test.YtcimppggemdidaaDoorW8
import Derived.Test.YtcimppggemdidaaDoorW10
import Derived.Test.YtcimppggemdidaaDoorTurn
import Derived.Test.YtcimppggemdidaaDoorSeqS
namespace Go.Proofs.YtcimppggemdidaaDoor
open Go Go.RowKit Go.Shelf
attribute [local go_sem] Oper.semAt_some

theorem slice_from (ao : Option Addr) (len cap i : Nat) (hi : i ≤ len) (w : World) :
    (Instr.slice 22 (.slice ao len cap) (some (.int .i64 (i : Int))) none none).run Tryd.prog w = .ok (.slice (if cap = i then ao else ao.map (·.add (i * 1))) (len - i) (cap - i)) w := by
  have h := run_slice_l (P := Tryd.prog) w 22 ao len cap (by kernel_rfl) .i64 i (by omega) (by omega)
  rw [h]
  have hs : (sizeOf (Tryd.prog.elem 22)).run Tryd.prog w = .ok 1 w := by
    obtain ⟨i0, hi, hz0, hz1, hz2⟩ := info_parts info8
    have e : Tryd.prog.elem 22 = 5 := by kernel_rfl
    rw [e]
    simp [sizeOf, typeInfo, hi, hz1]
  rw [hs]
  simp only [Result.andThen, sliced, Int.toNat_natCast]
def ixV (kk j : Nat) : List Value := (List.range j).map fun q => .int .i64 ((q * kk : Nat) : Int)
def wantV (l : List UInt8) (kk j : Nat) : List Value := (List.range j).map fun q => .int .u64 ((unB ((l.drop (q * kk)).take kk) : Nat) : Int)
theorem ixV_succ (kk j : Nat) : ixV kk (j + 1) = ixV kk j ++ [.int .i64 ((j * kk : Nat) : Int)] := by simp [ixV, List.range_succ]
theorem wantV_succ (l : List UInt8) (kk j : Nat) : wantV l kk (j + 1) = wantV l kk j ++ [.int .u64 ((unB ((l.drop (j * kk)).take kk) : Nat) : Int)] := by simp [wantV, List.range_succ]

theorem nOf_lt {l : List UInt8} {k : Int} {j : Nat} (h : j < nOf l k) : isW k = true ∧ 1 ≤ k ∧ k ≤ 8 ∧ (j + 1) * k.toNat ≤ l.length := by
  unfold nOf at h
  by_cases hw : isW k = true
  · rw [if_pos hw] at h
    have hx : k = 1 ∨ k = 2 ∨ k = 4 ∨ k = 8 := by simpa [isW, or_assoc] using hw
    exact ⟨hw, by omega, by omega, (Nat.le_div_iff_mul_le (by omega)).1 h⟩
  · rw [if_neg hw] at h
    omega
theorem nOf_le {l : List UInt8} {k : Int} {j : Nat} (h : j ≤ nOf l k) : j * k.toNat ≤ l.length := by
  rcases j with _ | j
  · simp
  · exact (nOf_lt h).2.2.2
theorem nOf_end {l : List UInt8} {k : Int} : rfE (l.drop (nOf l k * k.toNat)) k = 110 ∨ rfE (l.drop (nOf l k * k.toNat)) k = 2 := by
  unfold rfE
  by_cases hw : isW k = true
  · rw [if_pos hw]
    have hx : k = 1 ∨ k = 2 ∨ k = 4 ∨ k = 8 := by simpa [isW, or_assoc] using hw
    refine .inl (if_pos ?_)
    have h1 : nOf l k = l.length / k.toNat := by unfold nOf; rw [if_pos hw]
    have h2 := Nat.lt_succ_self (l.length / k.toNat)
    rw [Nat.succ_eq_add_one, Nat.div_lt_iff_lt_mul (by omega)] at h2
    rw [h1, List.length_drop]
    rw [Nat.add_mul] at h2
    omega
  · rw [if_neg hw]
    exact .inr rfl
theorem nOf_piece {l : List UInt8} {k : Int} {j : Nat} (h : j < nOf l k) : rfE (l.drop (j * k.toNat)) k = 0 ∧ rfN (l.drop (j * k.toNat)) k = unB ((l.drop (j * k.toNat)).take k.toNat) := by
  obtain ⟨hw, h1, h2, h3⟩ := nOf_lt h
  have e : rfE (l.drop (j * k.toNat)) k = 0 := by
    unfold rfE
    rw [if_pos hw, if_neg]
    rw [List.length_drop, Nat.not_lt]
    rw [Nat.add_mul] at h3
    omega
  exact ⟨e, by unfold rfN; rw [if_pos e]⟩
theorem nOf_small {l : List UInt8} {k : Int} {j : Nat} (h : j < nOf l k) (hl : ¬ 300 < l.length) : j < 1000000 := by
  obtain ⟨hw, h1, h2, h3⟩ := nOf_lt h
  have : (j + 1) * 1 ≤ (j + 1) * k.toNat := Nat.mul_le_mul_left _ (by omega)
  omega

/-- How the law stands at a round's head of its first loop. -/
def EachHead (l : List UInt8) (k : Int) (n0 : Nat) (w0 : World) (i : Value) (wr : World) : Prop :=
  ∃ (j : Nat) (v7 v8 : Value), j ≤ nOf l k ∧ i = .int .i64 ((j * k.toNat : Nat) : Int) ∧ Boxed wr (n0 + 1 + 1) 24 v7 ∧ Boxed wr (n0 + 1 + 1 + 1) 25 v8 ∧
    wr.ownsRow (n0 + 1 + 1) 3 1 v7 j (ixV k.toNat j) ∧ wr.ownsRow (n0 + 1 + 1) 26 1 v8 j (wantV l k.toNat j) ∧ Below (n0 + 1 + 1) w0 wr ∧ n0 + 4 ≤ wr.heap.size

theorem seq_not_nil (fn : Fn) (a b : Array Value) (W : World) : (binOp .eql 30 (.func fn a b) .nilFunc).run Tryd.prog W = .ok (.bool false) W := by kernel_rfl
theorem infoI : (Tryd.prog.info? 3).map (fun i => (i.zero, i.size, i.bytes)) = some (some (.int .i64 0), 1, 8) := by kernel_rfl
theorem infoU : (Tryd.prog.info? 26).map (fun i => (i.zero, i.size, i.bytes)) = some (some (.int .u64 0), 1, 8) := by kernel_rfl

/-- How the law stands ahead of turn t. -/
def EachTurnO (ao : Option Addr) (l : List UInt8) (cap : Nat) (k m : Int) (n0 g6 cap6 Br n6 : Nat) (w7 : World) (g : Nat) (aa : Act) (W : World) : Prop :=
  ∃ (t Bt : Nat) (ds : List Deferred) (f : Nat → Value), t + g = 2 ∧ aa = { tmps := #[Value.slice ao l.length cap, Value.int IntKind.i64 k, Value.int IntKind.i64 m, f 3, f 4, Value.pointer (some { block := n0, off := 0 }), Value.pointer (some { block := n0 + 1, off := 0 }), Value.pointer (some { block := n0 + 1 + 1, off := 0 }), Value.pointer (some { block := n0 + 1 + 1 + 1, off := 0 }), f 9, f 10, f 11, Value.slice (some { block := g6, off := 0 }) l.length cap6, Value.func (Fn.func 52) #[] #[Value.pointer (some { block := Br, off := 0 }), Value.pointer (some { block := n6, off := 0 })], Value.pointer (some { block := Bt, off := 0 }), f 15, f 16, f 17, f 18, f 19, f 20, f 21, f 22, f 23, f 24, f 25, f 26, f 27, f 28, f 29, f 30, f 31, f 32, f 33, f 34, f 35, f 36, f 37, f 38, f 39, f 40, f 41, f 42, f 43, f 44, f 45, f 46, f 47, f 48, f 49, f 50, f 51, f 52, f 53, f 54, f 55, f 56, f 57, f 58, f 59, f 60, f 61, f 62, f 63, f 64, f 65, f 66, f 67, f 68, f 69, f 70, f 71, f 72, f 73, f 74, f 75, f 76, f 77, f 78, f 79, f 80, f 81, f 82, f 83, f 84, f 85, f 86, f 87, f 88, f 89, f 90, f 91, f 92, f 93, f 94, f 95, f 96, f 97, f 98, f 99, f 100, f 101, f 102, f 103, f 104, f 105, f 106, f 107, f 108, f 109, f 110, f 111, f 112, f 113, f 114, f 115, f 116, f 117, f 118, f 119, f 120, f 121, f 122, f 123, f 124, f 125, f 126, f 127, f 128, f 129, f 130, f 131, f 132, f 133, f 134, f 135, f 136, f 137, f 138], defers := ds } ∧ Below w7.heap.size w7 W ∧ w7.heap.size ≤ Bt ∧ Boxed W Bt 3 (.int .i64 (t : Nat)) ∧ Marks w7.heap.size W.heap.size W ds
set_option maxRecDepth 100000 in
theorem EachTurnO.mk (ao : Option Addr) (l : List UInt8) (cap : Nat) (k m : Int) (n0 g6 cap6 Br n6 : Nat) (w7 : World) {g : Nat} {aa : Act} {W : World} (t Bt : Nat) (hg : t + g = 2) (hs : aa.tmps.size = 139) (h0 : aa.tmps[0]? = some (Value.slice ao l.length cap)) (h1 : aa.tmps[1]? = some (Value.int IntKind.i64 k)) (h2 : aa.tmps[2]? = some (Value.int IntKind.i64 m)) (h5 : aa.tmps[5]? = some (Value.pointer (some { block := n0, off := 0 }))) (h6 : aa.tmps[6]? = some (Value.pointer (some { block := n0 + 1, off := 0 }))) (h7 : aa.tmps[7]? = some (Value.pointer (some { block := n0 + 1 + 1, off := 0 }))) (h8 : aa.tmps[8]? = some (Value.pointer (some { block := n0 + 1 + 1 + 1, off := 0 }))) (h12 : aa.tmps[12]? = some (Value.slice (some { block := g6, off := 0 }) l.length cap6)) (h13 : aa.tmps[13]? = some (Value.func (Fn.func 52) #[] #[Value.pointer (some { block := Br, off := 0 }), Value.pointer (some { block := n6, off := 0 })])) (h14 : aa.tmps[14]? = some (Value.pointer (some { block := Bt, off := 0 })))
    (hb : Below w7.heap.size w7 W) (hB : w7.heap.size ≤ Bt) (hx : Boxed W Bt 3 (.int .i64 (t : Nat))) (hm : Marks w7.heap.size W.heap.size W aa.defers) : EachTurnO ao l cap k m n0 g6 cap6 Br n6 w7 g aa W := by
  rcases aa with ⟨tmps, ds⟩
  obtain ⟨f, rfl⟩ := arr_fun tmps 139 hs
  have e0 : f 0 = Value.slice ao l.length cap := Option.some.inj h0; have e1 : f 1 = Value.int IntKind.i64 k := Option.some.inj h1; have e2 : f 2 = Value.int IntKind.i64 m := Option.some.inj h2; have e5 : f 5 = Value.pointer (some { block := n0, off := 0 }) := Option.some.inj h5; have e6 : f 6 = Value.pointer (some { block := n0 + 1, off := 0 }) := Option.some.inj h6; have e7 : f 7 = Value.pointer (some { block := n0 + 1 + 1, off := 0 }) := Option.some.inj h7; have e8 : f 8 = Value.pointer (some { block := n0 + 1 + 1 + 1, off := 0 }) := Option.some.inj h8; have e12 : f 12 = Value.slice (some { block := g6, off := 0 }) l.length cap6 := Option.some.inj h12; have e13 : f 13 = Value.func (Fn.func 52) #[] #[Value.pointer (some { block := Br, off := 0 }), Value.pointer (some { block := n6, off := 0 })] := Option.some.inj h13; have e14 : f 14 = Value.pointer (some { block := Bt, off := 0 }) := Option.some.inj h14
  refine ⟨t, Bt, ds, f, hg, ?_, hb, hB, hx, hm⟩
  show ({ tmps := #[f 0, f 1, f 2, f 3, f 4, f 5, f 6, f 7, f 8, f 9, f 10, f 11, f 12, f 13, f 14, f 15, f 16, f 17, f 18, f 19, f 20, f 21, f 22, f 23, f 24, f 25, f 26, f 27, f 28, f 29, f 30, f 31, f 32, f 33, f 34, f 35, f 36, f 37, f 38, f 39, f 40, f 41, f 42, f 43, f 44, f 45, f 46, f 47, f 48, f 49, f 50, f 51, f 52, f 53, f 54, f 55, f 56, f 57, f 58, f 59, f 60, f 61, f 62, f 63, f 64, f 65, f 66, f 67, f 68, f 69, f 70, f 71, f 72, f 73, f 74, f 75, f 76, f 77, f 78, f 79, f 80, f 81, f 82, f 83, f 84, f 85, f 86, f 87, f 88, f 89, f 90, f 91, f 92, f 93, f 94, f 95, f 96, f 97, f 98, f 99, f 100, f 101, f 102, f 103, f 104, f 105, f 106, f 107, f 108, f 109, f 110, f 111, f 112, f 113, f 114, f 115, f 116, f 117, f 118, f 119, f 120, f 121, f 122, f 123, f 124, f 125, f 126, f 127, f 128, f 129, f 130, f 131, f 132, f 133, f 134, f 135, f 136, f 137, f 138], defers := ds } : Act) = _
  simp only [e0, e1, e2, e5, e6, e7, e8, e12, e13, e14]

set_option maxRecDepth 100000 in
set_option maxHeartbeats 16000000 in
theorem law_each {nb : Nat} (v : Value) (l : List UInt8) (k m : Int) (_hk : (Lit.int .i64 k).wf = true) (w : World) (hv : Bytes nb w v l) (hw : Widths w) :
    Calls Tryd.prog 3 #[v, .int .i64 k, .int .i64 m] w (TrueAdds w) := by
  obtain ⟨ao, cap, rfl, h1, h2, h3⟩ := id hv
  have HV := Lib.hid hv; clear hv h3
  have HW := Lib.hid hw; clear hw
  unfold maxLen at h2
  refine (callsIn_wide (n := 6)).1 ?_
  refine callsIn_of_wp_marks Tryd.func3 rfl trivial ?_ rfl
  simp only [Tryd.ntmps3, List.size_toArray, List.length_cons, List.length_nil, Nat.reduceAdd, Nat.reduceSub, Array.replicate_succ, Array.replicate_zero, List.push_toArray, List.append_toArray, List.nil_append, List.cons_append]
  obtain ⟨w0, hw0⟩ : ∃ x, (w.alloc (.cells #[.int .i64 m] 3)).alloc (.cells #[.bool false] 4) = x := ⟨_, rfl⟩
  have hbm : Boxed w0 w.heap.size 3 (.int .i64 m) := hw0 ▸ (Boxed.new w _ _).alloc _
  have hbr : Boxed w0 (w.heap.size + 1) 4 (.bool false) := hw0 ▸ (by simpa using Boxed.new (w.alloc (.cells #[.int .i64 m] 3)) 4 (.bool false))
  have A0 := Lib.hid (hw0 ▸ (Adds.new _ _).trans (Adds.new _ _) : Adds w w0)
  have hs0 : w0.heap.size = w.heap.size + 1 + 1 := by rw [← hw0]; simp
  have HV0 : Hid (Bytes (w.heap.size + 1 + 1) w0 (.slice ao l.length cap) l) := Lib.hid (hs0 ▸ (HV.out.here.below A0.out).here)
  have HBX := Lib.hid (And.intro hbm hbr); clear hbm hbr
  have HW0 := Lib.hid hw0; clear hw0
  have HS0 := Lib.hid hs0; clear hs0
  by_cases hlen : 300 < l.length
  · obtain rfl := HW0.out
    have HK := Lib.hid (works_any _ (HW.out.below A0.out))
    have hgt : (300 : Int) < (l.length : Int) := by omega
    gi_wp2_with (refine ⟨trivial, ?_⟩; gi_at_call 10; refine (callsIn_wide.2 HK.out).mono ?_; rintro z w2 ⟨rfl, a2⟩; have hbr := boxed_adds HBX.out.2 a2; have c4 := hbr.cell; have f4 := hbr.frozen; have HBRR := Lib.hid hbr; clear hbr; have A2 := Lib.hid a2; clear a2)
    show LeavesInM _ _ _ _ _ _ _ _ _
    refine marks_leave [] w.heap.size _ (B := w.heap.size + 1 + 1) trivial fun W'' hb'' => ⟨.bool true, results_box rfl Tryd.underlying4 _ _ _ (.bool true) rfl (boxed_below (HBRR.out.set (.bool true)) hb'' (by omega)).cell, rfl, ?_⟩
    have h0 : Below w.heap.size w w2 := Below.trans A0.out (Below.mono A2.out (by have := HS0.out; omega))
    exact h0.trans (((Below.refl w.heap.size w2).setCell (p := ⟨w.heap.size + 1, 0, none⟩) (by show w.heap.size ≤ w.heap.size + 1; omega) _).trans (hb''.mono (by omega)))
  · gi_wp2
    gi_loopw [9] (fun i wr => EachHead l k w.heap.size w0 i wr) (fun i _ => l.length + 1 - (intOf i).toNat)
    case atStart =>
      obtain rfl := HW0.out
      refine ⟨0, .slice none 0 0, .slice none 0 0, Nat.zero_le _, by simp, ?_, ?_, World.ownsRow_nil _ _ _ _, World.ownsRow_nil _ _ _ _, ?_, ?_⟩
      · simpa using (Boxed.new ((w.alloc (.cells #[.int .i64 m] 3)).alloc (.cells #[.bool false] 4)) 24 (.slice none 0 0)).alloc _
      · simpa using Boxed.new (((w.alloc (.cells #[.int .i64 m] 3)).alloc (.cells #[.bool false] 4)).alloc (.cells #[.slice none 0 0] 24)) 25 (.slice none 0 0)
      · exact ((Below.refl _ _).alloc (by simp) _).alloc (by simp) _
      · simp
    case round =>
      obtain ⟨j, v7, v8, hj, rfl, b7, b8, r7, r8, hb, hs⟩ := hrel
      obtain ⟨a, ha⟩ : ∃ a, j * k.toNat = a := ⟨_, rfl⟩
      rw [ha]
      have hal : a ≤ l.length := ha ▸ nOf_le hj
      have c7 := b7.cell
      have c8 := b8.cell
      have f7 := b7.frozen
      have f8 := b8.frozen
      have HB7 := Lib.hid b7; clear b7
      have HB8 := Lib.hid b8; clear b8
      have HR7 := Lib.hid r7; clear r7
      have HR8 := Lib.hid r8; clear r8
      have HA := Lib.hid ha; clear ha
      have hvr : Bytes (w.heap.size + 1 + 1) wr (.slice ao l.length cap) l := HV0.out.below hb
      have hsl := slice_from ao l.length cap a hal wr
      have hbd : Bytes (w.heap.size + 1 + 1) wr (.slice (if cap = a then ao else ao.map (·.add (a * 1))) (l.length - a) (cap - a)) (l.drop a) := by
        have h0 := hvr.sliced a l.length cap hal (Nat.le_refl _) h1 (Nat.le_refl _)
        rwa [List.take_of_length_le (by rw [List.length_drop]; omega)] at h0
      obtain ⟨vp, hvp⟩ : ∃ vp, Value.slice (if cap = a then ao else ao.map (·.add (a * 1))) (l.length - a) (cap - a) = vp := ⟨_, rfl⟩
      rw [hvp] at hsl hbd
      clear hvp
      have HRF := Lib.hid (refReadFixed_any vp (l.drop a) k wr hbd); clear hbd
      have HBL := Lib.hid hb; clear hb
      by_cases hlt : j < nOf l k
      · have hre : rfE (l.drop a) k = 0 := HA.out ▸ (nOf_piece hlt).1
        rw [hre] at HRF
        clear hre
        obtain ⟨rn, hrn⟩ : ∃ rn, rfN (l.drop a) k = rn := ⟨_, rfl⟩
        rw [hrn] at HRF
        have HRN := Lib.hid hrn; clear hrn
        gi_wp2_with (refine ⟨trivial, ?_⟩; gi_at_call 11; refine (callsIn_wide.2 HRF.out).mono ?_; rintro e w' ⟨rfl, rfl⟩)
        have hmx : Tryd.prog.follows .mixedOrders = true := by kernel_rfl
        have HN0 : Hid (w.heap.size + 1 + 1 ≤ wr.heap.size) := Lib.hid (by omega)
        have HJ3 : Hid (j < 1000000) := Lib.hid (nOf_small hlt hlen)
        have HLow7 : Hid (∀ g, v7.ownBlock = some g → g < wr.heap.size) := Lib.hid fun g hg => (HR7.out.lt g hg).2
        have HLow8 : Hid (∀ g, v8.ownBlock = some g → g < wr.heap.size) := Lib.hid fun g hg => (HR8.out.lt g hg).2
        refine wpIn_region_inv (fun L b w2 => ∃ s7 c7' s8 c8' : Value, b = { tmps := #[Value.slice ao l.length cap, Value.int IntKind.i64 k, Value.int IntKind.i64 m, undef, undef,
          Value.pointer (some { block := w.heap.size, off := 0 }),
          Value.pointer (some { block := w.heap.size + 1, off := 0 }),
          Value.pointer (some { block := w.heap.size + 1 + 1, off := 0 }),
          Value.pointer (some { block := w.heap.size + 1 + 1 + 1, off := 0 }), Value.int IntKind.i64 ↑a,
          Value.int IntKind.u64 ↑rn, Value.int IntKind.i64 0, undef, undef, undef, undef, undef, undef,
          Value.slice ao l.length cap, Value.int IntKind.i64 ↑l.length, Value.bool (decide ((300 : Int) < (l.length : Int))), undef,
          Value.int IntKind.i64 ↑a, Value.slice ao l.length cap, Value.int IntKind.i64 ↑l.length, Value.bool true, u26,
          u27, u28, u29, Value.tuple #[Value.int IntKind.u64 ↑rn, Value.int IntKind.i64 0], Value.slice ao l.length cap,
          Value.int IntKind.i64 ↑a, vp, Value.int IntKind.i64 k,
          Value.tuple #[Value.int IntKind.u64 ↑rn, Value.int IntKind.i64 0], Value.int IntKind.u64 ↑rn,
          Value.int IntKind.i64 0, Value.int IntKind.i64 0, Value.bool false, sel2 (L 0) v7 u40, sel2 (L 1) (.int .i64 a) u41, sel2 (L 2) s7 u42, sel2 (L 3) c7' u43,
          sel2 (L 4) v8 u44, sel2 (L 5) (.int .u64 rn) u45, sel2 (L 6) s8 u46, sel2 (L 7) c8' u47, undef, undef, undef, undef, undef, undef, undef, undef, undef, undef, undef, undef, undef, undef, undef, undef, undef, undef, undef, undef, undef, undef, undef, undef, undef, undef, undef, undef, undef, undef, undef, undef, undef, undef, undef, undef, undef, undef, undef, undef, undef, undef, undef, undef, undef, undef, undef, undef, undef, undef, undef, undef, undef, undef, undef, undef, undef, undef, undef, undef, undef, undef, undef, undef, undef, undef, undef, undef, undef, undef, undef, undef, undef, undef, undef, undef, undef, undef, undef, undef, undef, undef, undef, undef, undef, undef, undef, undef, undef, undef, undef], defers := [] } ∧ PairR (w.heap.size + 1 + 1) wr.heap.size w0 (w.heap.size + 1 + 1) (w.heap.size + 1 + 1 + 1) 24 25 3 26 v7 v8 (.int .i64 a) (.int .u64 rn) j (ixV k.toNat j) (wantV l k.toNat j) (L 2) (L 3) (L 8) (L 6) (L 7) (L 9) s7 c7' s8 c8' w2) hmx (by kernel_rfl) ?inv0 ?step ?fin
        case inv0 => exact ⟨undef, v7, undef, v8, rfl, HBL.out.drew, Nat.le_refl _, fun h => (by cases h), fun h => (by cases h), HR7.out, HR8.out, fun _ => rfl, fun _ => rfl, HLow7.out, HLow8.out, HB7.out, HB8.out⟩
        case step =>
          rintro L b w2 i o ho hL hC he ⟨s7, c7', s8, c8', rfl, hP⟩
          have q3 := hC 3 _ rfl
          have q7 := hC 7 _ rfl
          have q8 := hC 8 _ rfl
          have q9 := hC 9 _ rfl
          simp [Region.binds] at q3 q7 q8 q9
          have HP := Lib.hid hP; clear hP
          rcases i with _ | _ | _ | _ | _ | _ | _ | _ | _ | _ | i
          · simp only [List.getElem?_cons_zero, Option.some.injEq] at ho
            subst ho
            have z8 : L 8 = false := by cases h : L 8 with | false => rfl | true => (have hq := q8 h; simp [hL] at hq)
            have d := HP.out.box7.cell
            rw [z8] at d
            simp only [cond_false] at d
            clear q3 q7 q8 q9 hC he
            gi_wp2
            refine ⟨s7, c7', s8, c8', ?_, ?_⟩
            · simp [sel2, *]
            · (simpa [z8] using HP.out)
          · simp only [List.getElem?_cons_zero, List.getElem?_cons_succ, Option.some.injEq] at ho
            subst ho
            clear q3 q7 q8 q9 hC he
            gi_wp2
            refine ⟨s7, c7', s8, c8', ?_, ?_⟩
            · simp [sel2, *]
            · (simpa using HP.out)
          · simp only [List.getElem?_cons_zero, List.getElem?_cons_succ, Option.some.injEq] at ho
            subst ho
            simp [Region.binds] at he
            have p1 := he
            clear q3 q7 q8 q9 hC he
            simp only [p1, sel2_t]
            gi_wp2
            refine ⟨.slice (some ⟨w2.heap.size, 0, none⟩) 1 1, c7', s8, c8', ?_, ?_⟩
            · simp [sel2, *]
            · (simpa using HP.out.mk7 HN0.out _)
          · simp only [List.getElem?_cons_zero, List.getElem?_cons_succ, Option.some.injEq] at ho
            subst ho
            simp [Region.binds] at he
            obtain ⟨p0, p2⟩ := he
            have z8 : L 8 = false := by cases h : L 8 with | false => rfl | true => (have hq := q8 h; simp [hL] at hq)
            clear q3 q7 q8 q9 hC
            rw [p2, hL, z8] at HP
            simp only [p0, p2, hL, sel2_t]
            refine pair_append HP.out rfl (.tmp 40) (.tmp 42) rfl (.int .i64 0) Tryd.underlying24 infoI rfl rfl rfl rfl HJ3.out HN0.out (by decide) (by decide) (by decide) ?_
            intro v' w' hP'
            refine ⟨s7, v', s8, c8', ?_, ?_⟩
            · (simp [sel2, *]; rfl)
            · (simpa [p2, z8] using hP')
          · simp only [List.getElem?_cons_zero, List.getElem?_cons_succ, Option.some.injEq] at ho
            subst ho
            have z9 : L 9 = false := by cases h : L 9 with | false => rfl | true => (have hq := q9 h; simp [hL] at hq)
            have d := HP.out.box8.cell
            rw [z9] at d
            simp only [cond_false] at d
            clear q3 q7 q8 q9 hC he
            gi_wp2
            refine ⟨s7, c7', s8, c8', ?_, ?_⟩
            · simp [sel2, *]
            · (simpa [z9] using HP.out)
          · simp only [List.getElem?_cons_zero, List.getElem?_cons_succ, Option.some.injEq] at ho
            subst ho
            clear q3 q7 q8 q9 hC he
            gi_wp2
            refine ⟨s7, c7', s8, c8', ?_, ?_⟩
            · simp [sel2, *]
            · (simpa using HP.out)
          · simp only [List.getElem?_cons_zero, List.getElem?_cons_succ, Option.some.injEq] at ho
            subst ho
            simp [Region.binds] at he
            have p5 := he
            clear q3 q7 q8 q9 hC he
            simp only [p5, sel2_t]
            gi_wp2
            refine ⟨s7, c7', .slice (some ⟨w2.heap.size, 0, none⟩) 1 1, c8', ?_, ?_⟩
            · simp [sel2, *]
            · (simpa using (HP.out.swap.mk7 HN0.out _).swap)
          · simp only [List.getElem?_cons_zero, List.getElem?_cons_succ, Option.some.injEq] at ho
            subst ho
            simp [Region.binds] at he
            obtain ⟨p4, p6, p3⟩ := he
            have z9 : L 9 = false := by cases h : L 9 with | false => rfl | true => (have hq := q9 h; simp [hL] at hq)
            clear q3 q7 q8 q9 hC
            rw [p6, hL, z9] at HP
            simp only [p4, p6, hL, sel2_t]
            refine pair_append HP.out.swap rfl (.tmp 44) (.tmp 46) rfl (.int .u64 0) Tryd.underlying25 infoU rfl rfl rfl rfl HJ3.out HN0.out (by decide) (by decide) (by decide) ?_
            intro v' w' hP'
            refine ⟨s7, c7', s8, v', ?_, ?_⟩
            · (simp [sel2, *]; rfl)
            · (simpa [p6, z9] using hP'.swap)
          · simp only [List.getElem?_cons_zero, List.getElem?_cons_succ, Option.some.injEq] at ho
            subst ho
            simp [Region.binds] at he
            have p2 : L 2 = true := by simp [he]
            have p3 : L 3 = true := by simp [he]
            clear q3 q7 q8 q9 hC he
            rw [p2, p3, hL] at HP
            obtain ⟨g, cp, rfl⟩ := row_form HP.out.row7 (by simp)
            have d := HP.out.box7.cell
            have f := HP.out.box7.frozen
            simp only [p3, sel2_t]
            gi_wp2
            refine ⟨s7, .slice (some ⟨g, 0, none⟩) (j + 1) cp, s8, c8', ?_, ?_⟩
            · simp [sel2, *]
            · (simpa [p2, p3] using HP.out.put7 (by omega) (by omega) (by decide) (by decide) (by omega))
          · simp only [List.getElem?_cons_zero, List.getElem?_cons_succ, Option.some.injEq] at ho
            subst ho
            simp [Region.binds] at he
            have p6 : L 6 = true := by simp [he]
            have p7 : L 7 = true := by simp [he]
            clear q3 q7 q8 q9 hC he
            rw [p6, p7, hL] at HP
            obtain ⟨g, cp, rfl⟩ := row_form HP.out.row8 (by simp)
            have d := HP.out.box8.cell
            have f := HP.out.box8.frozen
            simp only [p7, sel2_t]
            gi_wp2
            refine ⟨s7, c7', s8, .slice (some ⟨g, 0, none⟩) (j + 1) cp, ?_, ?_⟩
            · simp [sel2, *]
            · (simpa [p6, p7] using (HP.out.swap.put7 (by omega) (by omega) (by decide) (by decide) (by omega)).swap)
          · simp at ho
        case fin =>
          rintro b w2 ⟨s7, c7', s8, c8', rfl, hP⟩
          simp only [List.length_cons, List.length_nil, Nat.reduceAdd, Nat.reduceLT, decide_true] at hP ⊢
          have HP := Lib.hid hP; clear hP
          simp only [sel2_t]
          gi_wp2
          obtain ⟨hw1, hk1, hk8, hn1⟩ := nOf_lt hlt
          have ha := HA.out
          have hkk : ((k.toNat : Nat) : Int) = k := by omega
          have hsum : (j + 1) * k.toNat = a + k.toNat := by rw [Nat.add_mul, Nat.one_mul, ha]
          have hwr : wrap64 ((a : Int) + if 1 < k then k else 1) = (((j + 1) * k.toNat : Nat) : Int) := by
            rw [hsum]
            have h2 : (if 1 < k then k else (1 : Int)) = k := by split <;> omega
            rw [h2]
            unfold wrap64
            omega
          rw [hwr]
          have P7 := HP.out
          refine ⟨⟨j + 1, c7', c8', hlt, rfl, P7.box7, P7.box8, ?_, ?_, P7.hb, by have := P7.hs; omega⟩, ?_⟩
          · rw [ixV_succ, ha]; exact P7.row7
          · rw [wantV_succ, ← (nOf_piece hlt).2, ha, HRN.out]; exact P7.row8
          · simp only [intOf]
            omega
      · have hje : j = nOf l k := by omega
        subst hje
        obtain ⟨re, hre⟩ : ∃ re, rfE (l.drop a) k = re := ⟨_, rfl⟩
        have hre2 : re = 110 ∨ re = 2 := by
          have h0 := nOf_end (l := l) (k := k)
          rw [HA.out, hre] at h0
          exact h0
        rw [hre] at HRF
        obtain ⟨rn, hrn⟩ : ∃ rn, rfN (l.drop a) k = rn := ⟨_, rfl⟩
        rw [hrn] at HRF
        clear hrn hre
        have hne : re ≠ 0 := by omega
        have HVR := Lib.hid (show Bytes (w.heap.size + 1 + 1) (wr.alloc (.cells #[] 5)) (.slice ao l.length cap) l from hvr.below ((Below.refl (w.heap.size + 1 + 1) wr).alloc (by omega) _)); clear hvr
        gi_wp2_with (first
          | (refine ⟨trivial, ?_⟩; gi_at_call 11; refine (callsIn_wide.2 HRF.out).mono ?_; rintro e w' ⟨rfl, rfl⟩)
          | (gi_at_builtin; refine wpIn_append_bytes rfl (.tmp 48) (.tmp 49) rfl wr.heap.size _ [] rfl (by exact own_empty wr) _ l (w.heap.size + 1 + 1) rfl (by exact HVR.out) (by simp; omega) (by simp) ?_; intro v5 w5 o5 b5; have O5 := Lib.hid o5; clear o5; have B5 := Lib.hid (Below.trans ((Below.refl wr.heap.size wr).alloc (Nat.le_refl _) _) b5); clear b5)
          | (gi_at_builtin; refine wpIn_append1 rfl (.tmp 50) (.tmp 51) rfl wr.heap.size _ ([] ++ l) 77 rfl (by exact O5.out) 77 rfl rfl (by simp; omega) (by exact B5.out.size) ?_; intro v6 w6 o6 b6; have O6 := Lib.hid o6; clear o6; have B6 := Lib.hid (Below.trans B5.out b6); clear b6; obtain ⟨g6, cap6, rfl, hg6, hg6'⟩ := OwnB.form O6.out (by simp); have hc6 : l.length + 1 ≤ cap6 := (by obtain ⟨_, _, e, e1, _⟩ := O6.out.bytes; simp only [Value.slice.injEq] at e; simp at e1; omega)))
        refine ⟨trivial, ?_⟩
        have HC6 := Lib.hid (show Bytes w6.heap.size w6 (.slice (some ⟨g6, 0, none⟩) l.length cap6) l from (by have h0 := O6.out.bytes.sliced 0 l.length cap6 (by omega) (by simp) (by omega) (Nat.le_refl _); split at h0 <;> simpa [Addr.add] using h0))
        refine (callsIn_wide.2 (each_any _ _ l k w6 HC6.out (by omega))).mono ?_
        rintro e w7 ⟨a7, Br, aoc, capc, rfl, hk1, hk2, cr0, cw0, hbc, hao⟩
        have A7 := Lib.hid a7; clear a7
        have HBC := Lib.hid hbc; clear hbc
        have HAO := Lib.hid hao; clear hao
        have hnn := seq_not_nil
        gi_wp2
        refine wpIn_loop_ghost (EachTurnO ao l cap k m w.heap.size g6 cap6 Br w6.heap.size w7) 2 ?start ?round
        case start => exact EachTurnO.mk _ _ _ _ _ _ _ _ _ _ w7 0 w7.heap.size rfl rfl rfl rfl rfl rfl rfl rfl rfl rfl rfl rfl (Adds.new _ _) (Nat.le_refl _) (Boxed.new _ _ _) trivial
        case round =>
          rintro g aa W ⟨t, Bt, ds, f, hg, rfl, hb, hBt, bt, hm⟩
          have HG := Lib.hid hg; clear hg
          have ct := bt.cell
          have ft := bt.frozen
          have HBT := Lib.hid bt; clear bt
          have HM := Lib.hid hm; clear hm
          have HB := Lib.hid hb; clear hb
          have HSW := Lib.hid HB.out.size
          by_cases ht : t < 2
          · have hsz := HSW.out
            have hz6 := Below.size B6.out
            have hz7 := Below.size A7.out
            gi_wp2
            rw [show decide ((t : Int) < 2) = true by rw [decide_eq_true_eq]; omega]
            generalize hWr : W.alloc (Obj.cells #[Value.int IntKind.i64 0] 3) = Wr
            have bn0 : Boxed Wr W.heap.size 3 (.int .i64 (([] : List Nat).length : Nat)) := hWr ▸ Boxed.new W _ _
            have bt0 : Boxed Wr Bt 3 (.int .i64 (t : Nat)) := hWr ▸ HBT.out.alloc _
            have AR := Lib.hid (hWr ▸ Adds.new W _ : Adds W Wr)
            have HSR := Lib.hid (show Wr.heap.size = W.heap.size + 1 by rw [← hWr]; simp)
            clear hWr
            have HB0 := Lib.hid (And.intro bt0 bn0); clear bt0 bn0
            have HBR := Lib.hid (HB.out.trans (Below.mono AR.out hsz))
            have hBtl := HBT.out.lt
            obtain ⟨p1, hp1⟩ : ∃ p1 : Nat → Int, p1 = fun x => ((x * k.toNat : Nat) : Int) := ⟨_, rfl⟩
            obtain ⟨p2, hp2⟩ : ∃ p2 : Nat → Int, p2 = fun x => ((unB ((l.drop (x * k.toNat)).take k.toNat) : Nat) : Int) := ⟨_, rfl⟩
            have HVC := Lib.hid (Bytes.here (HBC.out.here.below HBR.out))
            have HSQ := Lib.hid (SeqX.toS (each_seq 5 (by omega) w6.heap.size Br (fun q => q = W.heap.size) aoc capc l k Wr Wr.heap.size (by intro b hb; rw [hb, HSR.out]; omega) HVC.out (by intro b o hao hb; have := HAO.out b o hao; have := hb.symm; omega)
              (((((((HW.out.below A0.out).below (HBL.out.mono (by have := HS0.out; omega))).below B6.out).below A7.out).below HB.out).below AR.out))
              (by have := World.block_lt_of_cell? w _ HW.out.c0; intro h; omega)
              ((HBR.out.cell (p := ⟨w6.heap.size, 0, none⟩) (show w6.heap.size < w7.heap.size by omega)).trans cw0) ((HBR.out.cell (p := ⟨Br, 0, none⟩) hk2).trans cr0)))
            rw [show eachV l k.toNat = fun x => #[.int .i64 (p1 x), .int .u64 (p2 x)] by rw [hp1, hp2]] at HSQ
            have HP1 := Lib.hid hp1; clear hp1
            have HP2 := Lib.hid hp2; clear hp2
            obtain ⟨N, hN⟩ : ∃ N, nOf l k = N := ⟨_, rfl⟩
            rw [hN] at HSQ
            have HNN := Lib.hid hN; clear hN
            refine' rangeFunc_S rfl (by omega) (gf := 52) (lb := #[.pointer (some ⟨Br, 0, none⟩), .pointer (some ⟨w6.heap.size, 0, none⟩)]) rfl trivial (enters_of Tryd.func52 (by kernel_rfl) rfl) HSQ.out
              KeepC.trans (fun W l o o' _ h hc _ => KeepC.put W l o o' h hc) (Below.refl _ _) (fun _ => rfl)
              (fun pre V => Below w7.heap.size w7 V ∧ Boxed V Bt 3 (.int .i64 (t : Nat)) ∧ Boxed V W.heap.size 3 (.int .i64 (pre.length : Nat)) ∧ (t = 0 → pre = [] ∨ (pre.length : Int) < m) ∧ Marks w7.heap.size W.heap.size V ds)
              (fun c pre V => c = .exit 4 ∧ Below w7.heap.size w7 V ∧ Boxed V Bt 3 (.int .i64 (t : Nat)) ∧ Boxed V W.heap.size 3 (.int .i64 (pre.length : Nat)) ∧ (t = 0 ∧ (pre.length : Int) = max 1 m) ∧ Marks w7.heap.size W.heap.size V ds)
              ?own ?ownx ?h0 _ ?assign ?body ?done ?stop
            case assign =>
              intro l2 x W2 K hK
              have HK := Lib.hid hK; clear hK
              gi_wp2
              exact HK.out
            case own => exact fun s A B hs hb => ⟨hs.1.trans (hb.mono (by rw [HSR.out]; omega)), boxed_below hs.2.1 hb (by rw [HSR.out]; omega), boxed_below hs.2.2.1 hb (by rw [HSR.out]; omega), hs.2.2.2.1, hs.2.2.2.2.below hb (by rw [HSR.out]; omega)⟩
            case ownx => exact fun c s A B hs hb => ⟨hs.1, hs.2.1.trans (hb.mono (by rw [HSR.out]; omega)), boxed_below hs.2.2.1 hb (by rw [HSR.out]; omega), boxed_below hs.2.2.2.1 hb (by rw [HSR.out]; omega), hs.2.2.2.2.1, hs.2.2.2.2.2.below hb (by rw [HSR.out]; omega)⟩
            case h0 => exact ⟨HBR.out, HB0.out.1, HB0.out.2, fun _ => .inl rfl, HM.out.below AR.out (Nat.le_refl _)⟩
            case body =>
              clear ct ft
              rintro l2 pre x W2 ⟨hb2, bt2, bn2, hpm, hm2⟩ hgx
              obtain ⟨hx1, hpre⟩ := id hgx
              have hpl : pre.length = x := by rw [hpre, List.length_range]
              rw [hpl] at bn2 hpm
              have HPL := Lib.hid hpl; clear hpl hpre hgx
              have ct := bt2.cell
              have cn := bn2.cell
              have fn := bn2.frozen
              have hr7 := row_adds (row_adds (row_adds HR7.out B6.out) A7.out) hb2
              have hr8 := row_adds (row_adds (row_adds HR8.out B6.out) A7.out) hb2
              have hx7 := boxed_adds (boxed_adds (boxed_adds HB7.out B6.out) A7.out) hb2
              have hx8 := boxed_adds (boxed_adds (boxed_adds HB8.out B6.out) A7.out) hb2
              rw [HNN.out] at hr7 hr8
              obtain ⟨g7, cap7, e7⟩ := row_form hr7 (by omega)
              obtain ⟨g8, cap8, e8⟩ := row_form hr8 (by omega)
              rw [e7] at hr7 hx7
              rw [e8] at hr8 hx8
              have d7 : W2.cell? ⟨g7, x, none⟩ = some (.int .i64 (p1 x)) := row_cell hr7 (by rw [HP1.out]; simp [ixV, hx1])
              have d8 : W2.cell? ⟨g8, x, none⟩ = some (.int .u64 (p2 x)) := row_cell hr8 (by rw [HP2.out]; simp [wantV, hx1])
              have c7 := hx7.cell
              have c8 := hx8.cell
              have c25 := (boxed_adds (boxed_adds (boxed_adds (boxed_below HBX.out.1 HBL.out (by omega)) B6.out) A7.out) hb2).cell
              clear e7 e8 hr7 hr8 hx7 hx8
              have HBB := Lib.hid (And.intro hb2 (And.intro bt2 (And.intro bn2 hm2))); clear bt2 bn2 hm2 hb2
              have HPM := Lib.hid hpm; clear hpm
              have hd : 1 ≤ 6 - 1 - 1 := by omega
              obtain ⟨y1, hy1⟩ : ∃ y, p1 x = y := ⟨_, rfl⟩
              obtain ⟨y2, hy2⟩ : ∃ y, p2 x = y := ⟨_, rfl⟩
              rw [hy1] at d7
              rw [hy2] at d8
              simp only [hy1, hy2]
              clear hy1 hy2
              have hx3 : (x : Int) ≤ 1000000000 := by
                have hN := HNN.out
                have h2 := nOf_small (l := l) (k := k) (j := x) (by omega) hlen
                omega
              have hx4 : decide (N ≤ x) = false := by rw [decide_eq_false_iff_not]; omega
              have hx5 : ¬ ((N : Int) ≤ (x : Int)) := by omega
              have hx6 : (x : Int) < (N : Int) := by omega
              have hkf : KeepsFrom Wr.heap.size W2 (W2.setCell ⟨W.heap.size, 0, none⟩ (.int .i64 ((x : Int) + 1))) := (KeepsOthers.setCell _ _ _).from _
              have hb3 : Below w7.heap.size w7 (W2.setCell ⟨W.heap.size, 0, none⟩ (.int .i64 ((x : Int) + 1))) := HBB.out.1.setCell (p := ⟨W.heap.size, 0, none⟩) hsz _
              have ht3 : Boxed (W2.setCell ⟨W.heap.size, 0, none⟩ (.int .i64 ((x : Int) + 1))) Bt 3 (.int .i64 (t : Nat)) := HBB.out.2.1.other (by omega) _
              have hn3 : Boxed (W2.setCell ⟨W.heap.size, 0, none⟩ (.int .i64 ((x : Int) + 1))) W.heap.size 3 (.int .i64 ((pre ++ [x]).length : Nat)) := by
                have := HBB.out.2.2.1.set (.int .i64 ((x : Int) + 1))
                rw [List.length_append, HPL.out]
                exact this
              have hm3 : Marks w7.heap.size W.heap.size (W2.setCell ⟨W.heap.size, 0, none⟩ (.int .i64 ((x : Int) + 1))) ds :=
                HBB.out.2.2.2.below ((Below.refl W.heap.size W2).setCell (p := ⟨W.heap.size, 0, none⟩) (Nat.le_refl _) _) (Nat.le_refl _)
              have hln : ((pre ++ [x]).length : Int) = (x : Int) + 1 := by rw [List.length_append, HPL.out]; simp
              have hp0 : pre = [] ↔ x = 0 := by rw [← List.length_eq_zero_iff, HPL.out]
              have HE := Lib.hid (And.intro hkf (And.intro hb3 (And.intro ht3 (And.intro hn3 (And.intro hm3 (And.intro hln hp0)))))); clear hkf hb3 ht3 hn3 hm3 hln hp0
              by_cases ht0 : t = 0
              · subst ht0
                by_cases hmx : m ≤ (x : Int) + 1
                · gi_wp2
                  obtain ⟨hkf, hb3, ht3, hn3, hm3, hln, hp0⟩ := HE.out
                  exact ⟨hkf, rfl, hb3, ht3, hn3, (by rw [hln]; rcases HPM.out (by simp) with h | h; (· rw [hp0] at h; omega); omega), hm3⟩
                · gi_wp2
                  obtain ⟨hkf, hb3, ht3, hn3, hm3, hln, hp0⟩ := HE.out
                  exact ⟨hkf, keepC_setT _ _ _, hb3, ht3, hn3, .inr (by rw [hln]; omega), hm3⟩
              · obtain rfl : t = 1 := by omega
                gi_wp2
                obtain ⟨hkf, hb3, ht3, hn3, hm3, hln, hp0⟩ := HE.out
                exact ⟨hkf, keepC_setT _ _ _, hb3, ht3, hn3, hm3⟩
            case done =>
              clear ct ft
              rintro D xs W2 hD rfl ⟨hb2, bt2, bn2, hpm, hm2⟩ hK
              rw [List.length_range] at bn2 hpm
              have hN : t = 0 → min (N : Int) (max 1 m) = (N : Int) := by
                intro h0
                rcases hpm h0 with h | h
                · have : N = 0 := by cases N with | zero => rfl | succ k => rw [List.range_succ] at h; simp at h
                  omega
                · omega
              have HEND := Lib.hid (turn_endT (a := #[]) hb2 (by rw [HSR.out] at hD; omega) hD hK hm2 (by rw [HSR.out]; omega))
              have hr8 := row_adds (row_adds (row_adds HR8.out B6.out) A7.out) hb2
              rw [HNN.out] at hr8
              have hv8 : ∃ a8 c8, v8 = .slice a8 N c8 := by
                rcases hr8.2 with ⟨e, e0⟩ | ⟨g, cap, cur, e, _⟩
                · exact ⟨none, 0, by rw [e, e0]⟩
                · exact ⟨_, _, e⟩
              obtain ⟨a8, cp8, e8⟩ := hv8
              have hx8 := boxed_adds (boxed_adds (boxed_adds HB8.out B6.out) A7.out) hb2
              rw [e8] at hx8
              have ct := bt2.cell
              have cn := bn2.cell
              have c8 := hx8.cell
              have c25 := (boxed_adds (boxed_adds (boxed_adds (boxed_below HBX.out.1 HBL.out (by omega)) B6.out) A7.out) hb2).cell
              clear hpm hK hm2 hb2 bt2 bn2 e8 hr8 hx8
              by_cases ht0 : t = 0
              · subst ht0
                have hN0 := hN rfl
                clear hN
                gi_wp2
                all_goals
                  obtain ⟨e1, e2, e3⟩ := HEND.out
                  exact ⟨1, by have := HG.out; omega, EachTurnO.mk _ _ _ _ _ _ _ _ _ _ w7 1 W2.heap.size (by omega) rfl rfl rfl rfl rfl rfl rfl rfl rfl rfl rfl (e1.alloc e1.size _) e1.size (Boxed.new _ _ _) ((e3.below (Adds.new _ _) (Nat.le_refl _)).up (by simp))⟩
              · obtain rfl : t = 1 := by omega
                clear hN
                gi_wp2
                all_goals
                  obtain ⟨e1, e2, e3⟩ := HEND.out
                  exact ⟨0, by have := HG.out; omega, EachTurnO.mk _ _ _ _ _ _ _ _ _ _ w7 2 W2.heap.size (by omega) rfl rfl rfl rfl rfl rfl rfl rfl rfl rfl rfl (e1.alloc e1.size _) e1.size (Boxed.new _ _ _) ((e3.below (Adds.new _ _) (Nat.le_refl _)).up (by simp))⟩
            case stop =>
              clear ct ft
              rintro D c pre W2 hD ⟨j, hj, hpre⟩ ⟨rfl, hb2, bt2, bn2, ⟨ht0, hmx⟩, hm2⟩ hK
              have hpl : pre.length = j := by rw [hpre, List.length_range]
              rw [hpl] at bn2 hmx
              subst ht0
              have hN0 : min (N : Int) (max 1 m) = (j : Int) := by omega
              have HEND := Lib.hid (turn_endT (a := #[]) hb2 (by rw [HSR.out] at hD; omega) hD hK hm2 (by rw [HSR.out]; omega))
              have hr8 := row_adds (row_adds (row_adds HR8.out B6.out) A7.out) hb2
              rw [HNN.out] at hr8
              have hv8 : ∃ a8 c8, v8 = .slice a8 N c8 := by
                rcases hr8.2 with ⟨e, e0⟩ | ⟨g, cap, cur, e, _⟩
                · exact ⟨none, 0, by rw [e, e0]⟩
                · exact ⟨_, _, e⟩
              obtain ⟨a8, cp8, e8⟩ := hv8
              have hx8 := boxed_adds (boxed_adds (boxed_adds HB8.out B6.out) A7.out) hb2
              rw [e8] at hx8
              have ct := bt2.cell
              have cn := bn2.cell
              have c8 := hx8.cell
              have c25 := (boxed_adds (boxed_adds (boxed_adds (boxed_below HBX.out.1 HBL.out (by omega)) B6.out) A7.out) hb2).cell
              clear hK hm2 hb2 bt2 bn2 hpl hpre hj hmx e8 hr8 hx8
              gi_wp2
              all_goals
                obtain ⟨e1, e2, e3⟩ := HEND.out
                exact ⟨1, by have := HG.out; omega, EachTurnO.mk _ _ _ _ _ _ _ _ _ _ w7 1 W2.heap.size (by omega) rfl rfl rfl rfl rfl rfl rfl rfl rfl rfl rfl (e1.alloc e1.size _) e1.size (Boxed.new _ _ _) ((e3.below (Adds.new _ _) (Nat.le_refl _)).up (by simp))⟩
          · have HVW := Lib.hid (Bytes.here ((((HV0.out.below HBL.out).here.below B6.out).here.below A7.out).here.below HB.out))
            have HCW := Lib.hid (Bytes.here (((HC6.out.below A7.out).here).below HB.out))
            have hsb := strAt HVW.out
            have hsc := strAt HCW.out
            have hcc : w6.cell? ⟨g6, l.length, none⟩ = some (.int .u8 77) := by
              have h0 := World.ownsRow.cells O6.out (g := g6) rfl l.length (byteV 77) (by simp)
              by_cases hl0 : l = [] <;> simpa [Addr.add, byteV, hl0] using h0
            have h77 : W.cell? ⟨g6, l.length, none⟩ = some (.int .u8 77) := (Below.cell HB.out (p := ⟨g6, l.length, none⟩) (by have := Below.size A7.out; show g6 < _; omega)).trans ((Below.cell A7.out (p := ⟨g6, l.length, none⟩) hg6').trans hcc)
            clear hcc
            have HWW := Lib.hid (((((HW.out.below A0.out).below (HBL.out.mono (by have := HS0.out; omega))).below B6.out).below A7.out).below HB.out)
            have HK := Lib.hid (works_any W HWW.out)
            have HBW := Lib.hid (boxed_adds (boxed_adds (boxed_adds (boxed_below HBX.out.2 HBL.out (by omega)) B6.out) A7.out) HB.out)
            gi_wp2_with (refine ⟨trivial, ?_⟩; gi_at_call 10; refine (callsIn_wide.2 HK.out).mono ?_; rintro z w2 ⟨rfl, a2⟩; have hbr := boxed_adds HBW.out a2; have c4 := hbr.cell; have f4 := hbr.frozen; have HBRR := Lib.hid hbr; clear hbr; have A2 := Lib.hid a2; clear a2)
            show LeavesInM _ _ _ _ _ _ _ _ _
            have hz1 := Below.size B6.out
            have hz2 := Below.size A7.out
            have hbs : Below w7.heap.size w7 w2 := HB.out.trans (Below.mono A2.out HSW.out)
            have hms : Marks w7.heap.size W.heap.size (w2.setCell ⟨w.heap.size + 1, 0, none⟩ (.bool true)) ds := marks_setT (HM.out.below A2.out (Nat.le_refl _)) (by omega) _
            refine marks_leave ds _ _ hms fun W'' hb'' => ⟨.bool true, results_box rfl Tryd.underlying4 _ _ _ (.bool true) rfl (boxed_below (HBRR.out.set (.bool true)) hb'' (by omega)).cell, rfl, ?_⟩
            have h0 : Below w.heap.size w w7 := Below.trans A0.out ((HBL.out.mono (by omega)).trans ((B6.out.mono (by omega)).trans (Below.mono A7.out (by omega))))
            exact h0.trans (((hbs.mono (by omega)).setCell (p := ⟨w.heap.size + 1, 0, none⟩) (by show w.heap.size ≤ w.heap.size + 1; omega) _).trans (hb''.mono (by omega)))
end Go.Proofs.YtcimppggemdidaaDoor
