/- The iterator over clocks: its contract, at the wide fence. -/
import Derived.Test.YtlbloehhmpnkgaaDoorE2
import Derived.Test.YtlbloehhmpnkgaaDoorSeqS
import Derived.Test.YtlbloehhmpnkgaaDoorKF3
namespace Go.Proofs.YtlbloehhmpnkgaaDoor
open Go Go.RowKit Go.Shelf
attribute [local go_sem] Oper.semAt_some

/-- The clock, and the epoch, at place x; how many there are. -/
def cN (e x : Nat) : Nat := eC e + x
def eN (e x : Nat) : Nat := e + x
def cntE (e m : Nat) : Nat := if 1 ≤ m ∧ m < 281474976710656 ∧ eC e ≤ m then m - eC e + 1 else 0
abbrev clockV (e x : Nat) : Array Value := #[.int .i64 ((x : Nat) : Int), .int .u64 ((cN e x : Nat) : Int)]
abbrev epochV (e x : Nat) : Array Value := #[.int .i64 ((x : Nat) : Int), .int .u64 ((eN e x : Nat) : Int)]

set_option maxRecDepth 100000 in
set_option maxHeartbeats 2000000 in
theorem clocks1_in (B n : Nat) (hn : 1 ≤ n) (l Bw : Nat) (M : Nat → Prop) (e m : Nat) (hm1 : 1 ≤ m) (hm2 : m < 281474976710656) (hle : eC e ≤ m) (J Jx : List Nat → World → Prop)
    (hY : ∀ pre x W, J pre W → AtIx (m - eC e + 1) pre x → YieldAt Fence.wide (n - 1) Tryd.prog l (clockV e x) W fun z W' =>
      (z = .returned (.bool true) ∧ J (pre ++ [x]) W' ∧ KeepC M W W' ∧ KeepsFrom B W W') ∨ (z = .returned (.bool false) ∧ Jx (pre ++ [x]) W' ∧ KeepsFrom B W W'))
    (W : World) (hJ : Stable W.heap.size J) (hBw : ¬ M Bw)
    (cw0 : W.cell? ⟨Bw, 0, none⟩ = some (.int .u64 e)) (cw1 : W.cell? ⟨Bw, 1, none⟩ = some (.int .u64 m)) (h0 : J [] W) :
    CallsIn Fence.wide n Tryd.prog 86 #[.func (.yield l) #[] #[], .pointer (some ⟨Bw, 0, none⟩)] W fun z W' => (∃ v, z = .returned v) ∧
      ((∃ ys, ys = List.range (m - eC e + 1) ∧ J ys W') ∨ (∃ pre, (∃ j, j ≤ m - eC e + 1 ∧ pre = List.range j) ∧ Jx pre W')) := by
  have HE := Lib.hid (ends_any e m true (end_yes hm1 hm2))
  have HC := Lib.hid (clock_any e)
  have HM := Lib.hid hBw; clear hBw
  have HY := Lib.hid hY; clear hY
  have HJ := Lib.hid hJ; clear hJ
  obtain ⟨c, hc⟩ : ∃ c : Nat, eC e = c := ⟨_, rfl⟩
  rw [hc] at HC HY hle
  have hcN : ∀ x, cN e x = c + x := fun x => by unfold cN; rw [hc]
  rw [hc]
  have HCN := Lib.hid hcN; clear hcN hc
  refine callsIn_of_wp Tryd.func86 rfl trivial ?_ rfl
  simp only [Tryd.ntmps86, List.size_toArray, List.length_cons, List.length_nil, Nat.reduceAdd, Nat.reduceSub, Array.replicate_succ, Array.replicate_zero, List.push_toArray, List.append_toArray, List.nil_append, List.cons_append]
  gi_wp2_with (first
    | (refine ⟨trivial, ?_⟩; gi_at_call 56; refine (callsIn_wide.2 (HE.out _)).mono ?_; rintro e w1 ⟨rfl, b1⟩; have A1 := Lib.hid (show Adds W w1 from b1); have d0 := A1.out.cellAt cw0; have d1 := A1.out.cellAt cw1; clear b1)
    | (refine ⟨trivial, ?_⟩; gi_at_call 55; refine (callsIn_wide.2 (HC.out _)).mono ?_; rintro e w2 ⟨rfl, b2⟩; have A2 := Lib.hid (A1.out.trans b2); clear b2))
  have h02 : J [] w2 := HJ.out _ _ _ h0 A2.out
  have HX0 := Lib.hid (KeepC.of_below (M := M) A2.out)
  gi_loopw [4] (fun i wr => ∃ j a : Nat, i = .int .u64 a ∧ a = c + j ∧ a ≤ m + 1 ∧ J (List.range j) wr ∧ KeepC M W wr) (fun i _ => m + 2 - (intOf i).toNat)
  case atStart => exact ⟨0, c, rfl, rfl, by omega, h02, HX0.out⟩
  case round =>
    obtain ⟨j, a, rfl, haj, hal, hJs, hnx⟩ := hrel
    have HX := Lib.hid hnx; clear hnx
    have HJs := Lib.hid hJs; clear hJs
    have cr1 : wr.cell? ⟨Bw, 1, none⟩ = some (.int .u64 m) := HX.out.cell HM.out cw1
    by_cases hlt : a ≤ m
    · obtain ⟨fn, tmps, assign, body, hy, hR⟩ := HY.out _ j wr HJs.out ⟨by omega, rfl⟩
      dsimp only [clockV] at hy
      rw [HCN.out, ← haj] at hy
      have k1 : IntKind.u64.wrap ((a : Int) - (c : Int)) = (j : Int) := by rw [IntKind.wrap_u64]; omega
      have k2 : (a : Int) - (c : Int) = (j : Int) := by omega
      have HAJ := Lib.hid haj; clear haj
      have hj0 : (j : Int) ≤ 281474976710656 := by have := HAJ.out; omega
      have ha0 : (a : Int) ≤ 281474976710656 := by omega
      have hlt' : (a : Int) ≤ (m : Int) := by omega
      gi_wp2
      refine hR.mono ?_
      rintro e W3 (⟨rfl, hJ3, hk3, _⟩ | ⟨rfl, hJx3, _⟩)
      · have HJ3 := Lib.hid hJ3; clear hJ3
        have HX3 := Lib.hid (HX.out.trans hk3); clear hk3
        clear k1 k2
        gi_wp2
        go_roundw
        case rel => exact ⟨j + 1, a + 1, by go_num, by have := HAJ.out; omega, by omega, by rw [List.range_succ]; exact HJ3.out, HX3.out⟩
        case measure => simp [intOf]; omega
      · have HJ3 := Lib.hid hJx3; clear hJx3
        clear k1 k2
        gi_wp2
        refine bodyPost_ret (results_none rfl _ _ _) rfl ?_
        exact ⟨⟨_, rfl⟩, .inr ⟨_, ⟨j + 1, by have := HAJ.out; omega, (List.range_succ).symm⟩, HJ3.out⟩⟩
    · have HAJ := Lib.hid haj; clear haj
      gi_wp2
      go_end0
      refine ⟨⟨_, rfl⟩, .inl ⟨_, ?_, HJs.out⟩⟩
      have : j = m - c + 1 := by have := HAJ.out; omega
      rw [this]

set_option maxRecDepth 100000 in
set_option maxHeartbeats 2000000 in
theorem clocks1_none (n : Nat) (hn : 1 ≤ n) (l Bw : Nat) (e m : Nat) (h : ¬ (1 ≤ m ∧ m < 281474976710656 ∧ eC e ≤ m)) (J : List Nat → World → Prop)
    (W : World) (hJ : Stable W.heap.size J) (cw0 : W.cell? ⟨Bw, 0, none⟩ = some (.int .u64 e)) (cw1 : W.cell? ⟨Bw, 1, none⟩ = some (.int .u64 m)) (h0 : J [] W) :
    CallsIn Fence.wide n Tryd.prog 86 #[.func (.yield l) #[] #[], .pointer (some ⟨Bw, 0, none⟩)] W fun z W' => (∃ v, z = .returned v) ∧ J [] W' := by
  have HJ := Lib.hid hJ; clear hJ
  by_cases h1 : 1 ≤ m ∧ m < 281474976710656
  · have HE := Lib.hid (ends_any e m true (end_yes h1.1 h1.2))
    have HC := Lib.hid (clock_any e)
    obtain ⟨c, hc⟩ : ∃ c : Nat, eC e = c := ⟨_, rfl⟩
    rw [hc] at HC
    have hlt : m < c := by omega
    clear h h1 hc
    refine callsIn_of_wp Tryd.func86 rfl trivial ?_ rfl
    simp only [Tryd.ntmps86, List.size_toArray, List.length_cons, List.length_nil, Nat.reduceAdd, Nat.reduceSub, Array.replicate_succ, Array.replicate_zero, List.push_toArray, List.append_toArray, List.nil_append, List.cons_append]
    gi_wp2_with (first
      | (refine ⟨trivial, ?_⟩; gi_at_call 56; refine (callsIn_wide.2 (HE.out _)).mono ?_; rintro e w1 ⟨rfl, b1⟩; have A1 := Lib.hid (show Adds W w1 from b1); have d0 := A1.out.cellAt cw0; have d1 := A1.out.cellAt cw1; clear b1)
      | (refine ⟨trivial, ?_⟩; gi_at_call 55; refine (callsIn_wide.2 (HC.out _)).mono ?_; rintro e w2 ⟨rfl, b2⟩; have A2 := Lib.hid (A1.out.trans b2); clear b2))
    have HJ2 := Lib.hid (HJ.out _ _ _ h0 A2.out)
    have d21 := A2.out.cellAt cw1
    gi_loopw [4] (fun i wr => i = .int .u64 c ∧ wr = w2) (fun _ _ => 0)
    case atStart => exact ⟨rfl, rfl⟩
    case round =>
      obtain ⟨rfl, rfl⟩ := hrel
      gi_wp2
      go_end0
      exact ⟨⟨_, rfl⟩, HJ2.out⟩
  · have HE := Lib.hid (ends_any e m false (end_no h1))
    clear h h1
    refine callsIn_of_wp Tryd.func86 rfl trivial ?_ rfl
    simp only [Tryd.ntmps86, List.size_toArray, List.length_cons, List.length_nil, Nat.reduceAdd, Nat.reduceSub, Array.replicate_succ, Array.replicate_zero, List.push_toArray, List.append_toArray, List.nil_append, List.cons_append]
    gi_wp2_with (refine ⟨trivial, ?_⟩; gi_at_call 56; refine (callsIn_wide.2 (HE.out _)).mono ?_; rintro e w1 ⟨rfl, b1⟩; have A1 := Lib.hid (show Adds W w1 from b1); clear b1)
    refine bodyPost_ret (results_none rfl _ _ _) rfl ?_
    exact ⟨⟨_, rfl⟩, HJ.out _ _ _ h0 A1.out⟩

set_option maxHeartbeats 1000000 in
theorem clocks_any (e m : Int) (w : World) :
    Calls Tryd.prog 66 #[.agg #[.int .u64 e, .int .u64 m]] w fun x w' =>
      x = .returned (.func (.func 86) #[] #[.pointer (some ⟨w.heap.size, 0, none⟩)]) ∧ w.alloc (.cells #[.int .u64 e, .int .u64 m] 97) = w' := by
  go_enter Tryd.func66, Tryd.ntmps66
  go_wp2
  go_ret
  exact ⟨rfl, rfl⟩
end Go.Proofs.YtlbloehhmpnkgaaDoor
