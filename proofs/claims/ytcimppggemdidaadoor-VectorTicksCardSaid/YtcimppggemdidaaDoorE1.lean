/- The iterator over pieces: its contract, at the wide fence. -/
import Derived.RangeFuncNested
import Derived.RangeFuncBound
import Derived.RangeFuncCalls
import Derived.RangeFuncLeaves
import Derived.Shelf.Abstract
import Derived.Shelf.RegionOpen
import Derived.WalkKit
import Derived.OwnWalkIn
import Derived.TacticsInMore
import Derived.LoopNIn
import Derived.LoopIn
import Derived.RangeFuncWrites
import Derived.Test.YtcimppggemdidaaDoorW6
namespace Go.Proofs.YtcimppggemdidaaDoor
open Go Go.RowKit Go.Shelf
attribute [local go_sem] Oper.semAt_some

/-- Whatever cells do not lie in the blocks M lie as they lay. -/
def KeepC (M : Nat → Prop) (W W' : World) : Prop := ∀ k c e f, ¬ M k → W.heap[k]? = some (.cells c e f) → W'.heap[k]? = some (.cells c e f)
theorem KeepC.refl (M : Nat → Prop) (W : World) : KeepC M W W := fun _ _ _ _ _ h => h
theorem KeepC.trans {M : Nat → Prop} {A B C : World} (h : KeepC M A B) (k : KeepC M B C) : KeepC M A C := fun i c e f hi hc => k i c e f hi (h i c e f hi hc)
theorem KeepC.cell {M : Nat → Prop} {W W' : World} (h : KeepC M W W') {b o : Nat} (hb : ¬ M b) {v : Value} (hc : W.cell? ⟨b, o, none⟩ = some v) : W'.cell? ⟨b, o, none⟩ = some v := by
  unfold World.cell? at hc ⊢
  cases ho : W.heap[b]? with
  | none => simp [ho] at hc
  | some x =>
    cases x with
    | cells c e f => rw [h b c e f hb ho]; rw [ho] at hc; exact hc
    | _ => simp [ho] at hc
theorem KeepC.of_below {M : Nat → Prop} {W W' : World} (h : Adds W W') : KeepC M W W' := fun k c e f _ hk => by
  rw [h.block k (Array.getElem?_eq_some_iff.1 hk).1]; exact hk
theorem KeepC.put {M : Nat → Prop} (W : World) (l : Nat) (o o' : Obj) (h : W.heap[l]? = some o) (hc : o.isCells = false) : KeepC M W (W.putObj l o') := fun k c e f _ hk => by
  have hne : some k ≠ some l := fun e' => by
    cases e'
    rw [h] at hk
    cases hk
    simp [Obj.isCells] at hc
  exact ((grownBy_putObj' W l o').block k (Array.getElem?_eq_some_iff.1 hk).1 hne).trans hk
theorem Widths.keep {M : Nat → Prop} {W W' : World} (h : Widths W) (hk : KeepC M W W') (h0 : ¬ M 1) : Widths W' := ⟨hk.cell h0 h.c0, hk.cell h0 h.c1, hk.cell h0 h.c2, hk.cell h0 h.c3⟩

/-- What a round of a piece is handed. -/
abbrev pieceV (ao : Option Addr) (k j : Nat) : Array Value := #[.int .i64 ((j * k : Nat) : Int), cutV ao (j * k) k]

/-- The round that comes next, of N. -/
def AtIx (N : Nat) (pre : List Nat) (x : Nat) : Prop := x < N ∧ pre = List.range x

set_option maxRecDepth 100000 in
set_option maxHeartbeats 2000000 in
theorem pieces1_in (B n : Nat) (hn : 1 ≤ n) (l Bw Br : Nat) (M : Nat → Prop) (ao : Option Addr) (cap : Nat) (bs : List UInt8) (k : Nat) (hk : isW k = true) (hk8 : k ≤ 8) (hk0 : 0 < k) (J Jx : List Nat → World → Prop)
    (hY : ∀ pre x W, J pre W → AtIx (bs.length / k) pre x → YieldAt Fence.wide (n - 1) Tryd.prog l (pieceV ao k x) W fun e W' =>
      (e = .returned (.bool true) ∧ J (pre ++ [x]) W' ∧ KeepC M W W' ∧ KeepsFrom B W W') ∨ (e = .returned (.bool false) ∧ Jx (pre ++ [x]) W' ∧ KeepsFrom B W W'))
    (W : World) (hcap1 : bs.length ≤ cap) (hcap2 : cap ≤ 9223372036854775807) (hw : Widths W) (hBw : ¬ M Bw) (hBr : ¬ M Br)
    (cw : W.cell? ⟨Bw, 0, none⟩ = some (.int .i64 k)) (cr : W.cell? ⟨Br, 0, none⟩ = some (.slice ao bs.length cap)) (h0 : J [] W) :
    CallsIn Fence.wide n Tryd.prog 87 #[.func (.yield l) #[] #[], .pointer (some ⟨Bw, 0, none⟩), .pointer (some ⟨Br, 0, none⟩)] W fun e W' => (∃ v, e = .returned v) ∧
      ((∃ ys, ys = List.range (bs.length / k) ∧ J ys W') ∨ (∃ pre, (∃ j, j ≤ bs.length / k ∧ pre = List.range j) ∧ Jx pre W')) := by
  have HK := Lib.hid hk; clear hk
  have HM1 := Lib.hid hBw; clear hBw
  have HM2 := Lib.hid hBr; clear hBr
  have HW := Lib.hid hw; clear hw
  have HY := Lib.hid hY; clear hY
  refine callsIn_of_wp Tryd.func87 rfl trivial ?_ rfl
  simp only [Tryd.ntmps87, List.size_toArray, List.length_cons, List.length_nil, Nat.reduceAdd, Nat.reduceSub, Array.replicate_succ, Array.replicate_zero, List.push_toArray, List.append_toArray, List.nil_append, List.cons_append]
  gi_wp2_with (refine ⟨trivial, ?_⟩; gi_at_call 81; refine (callsIn_wide.2 (isWidth_any _ _ HW.out)).mono ?_; rintro e w' ⟨rfl, rfl⟩; rw [HK.out])
  gi_loopw [4] (fun i wr => ∃ j a : Nat, i = .int .i64 a ∧ a = j * k ∧ a ≤ bs.length ∧ J (List.range j) wr ∧ KeepC M W wr) (fun i _ => bs.length + 1 - (intOf i).toNat)
  case atStart => exact ⟨0, 0, rfl, by simp, Nat.zero_le _, h0, KeepC.refl _ _⟩
  case round =>
    obtain ⟨j, a, rfl, haj, hal, hJs, hnx⟩ := hrel
    have HX := Lib.hid hnx; clear hnx
    have HAJ := Lib.hid haj; clear haj
    have cw' : wr.cell? ⟨Bw, 0, none⟩ = some (.int .i64 k) := HX.out.cell HM1.out cw
    have cr' : wr.cell? ⟨Br, 0, none⟩ = some (.slice ao bs.length cap) := HX.out.cell HM2.out cr
    have HJ := Lib.hid hJs; clear hJs
    by_cases hlt : a + k ≤ bs.length
    · have HH := Lib.hid (holdp_yes ao bs.length cap a k (by omega) hlt)
      have HC := Lib.hid (fun W' => cutp_any ao bs.length cap a k W' hcap1 hcap2 hlt)
      have hjlt : j < bs.length / k := by
        have h1 : (j + 1) * k ≤ bs.length := by rw [Nat.succ_mul, ← HAJ.out]; exact hlt
        exact (Nat.le_div_iff_mul_le hk0).2 h1
      obtain ⟨fn, tmps, assign, body, hy, hR⟩ := HY.out _ j wr HJ.out ⟨hjlt, rfl⟩
      dsimp only [pieceV] at hy
      rw [← HAJ.out] at hy
      gi_wp2_with (first
        | (refine ⟨trivial, ?_⟩; gi_at_call 88; refine (callsIn_wide.2 (HH.out _)).mono ?_; rintro e w' ⟨rfl, rfl⟩)
        | (refine ⟨trivial, ?_⟩; gi_at_call 89; refine (callsIn_wide.2 (HC.out _)).mono ?_; rintro e w' ⟨rfl, rfl⟩))
      refine hR.mono ?_
      rintro e W3 (⟨rfl, hJ3, hk3, _⟩ | ⟨rfl, hJx3, _⟩)
      · have HJ3 := Lib.hid hJ3; clear hJ3
        have HX3 := Lib.hid (HX.out.trans hk3); clear hk3
        have cw3 : W3.cell? ⟨Bw, 0, none⟩ = some (.int .i64 k) := HX3.out.cell HM1.out cw
        gi_wp2
        go_roundw
        case rel => exact ⟨j + 1, a + k, by go_num, by rw [Nat.succ_mul, ← HAJ.out], hlt, by rw [List.range_succ]; exact HJ3.out, HX3.out⟩
        case measure => simp [intOf]; omega
      · have HJ3 := Lib.hid hJx3; clear hJx3
        gi_wp2
        refine bodyPost_ret (results_none rfl _ _ _) rfl ?_
        exact ⟨⟨_, rfl⟩, .inr ⟨_, ⟨j + 1, hjlt, (List.range_succ).symm⟩, HJ3.out⟩⟩
    · have HH := Lib.hid (holds_no ao bs.length cap a k hal (by omega) (by omega))
      gi_wp2_with (refine ⟨trivial, ?_⟩; gi_at_call 88; refine (callsIn_wide.2 (HH.out _)).mono ?_; rintro e w' ⟨rfl, rfl⟩)
      go_end0
      refine ⟨⟨_, rfl⟩, .inl ⟨_, ?_, HJ.out⟩⟩
      have h1 : j = bs.length / k := (Nat.div_eq_of_lt_le (by rw [← HAJ.out]; exact hal) (by rw [Nat.succ_mul, ← HAJ.out]; omega)).symm
      rw [h1]
end Go.Proofs.YtcimppggemdidaaDoor
