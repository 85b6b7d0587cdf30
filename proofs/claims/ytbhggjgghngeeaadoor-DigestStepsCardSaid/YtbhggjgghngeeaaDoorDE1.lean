/- The iterator over pieces of one byte: its contract, at the wide fence. -/
import Derived.Test.YtbhggjgghngeeaaDoorE2
import Derived.Test.YtbhggjgghngeeaaDoorSeqS
import Derived.Test.YtbhggjgghngeeaaDoorDWorks
namespace Go.Proofs.YtbhggjgghngeeaaDoor
open Go Go.RowKit Go.Shelf
attribute [local go_sem] Oper.semAt_some

/-- What a round of a piece is handed: none first, then each byte. -/
def oneAt (ao : Option Addr) (k : Nat) : Value := .slice (ao.map (·.add k)) 1 1
def pieceD (ao : Option Addr) : Nat → Array Value
  | 0 => #[.int .i64 0, .slice none 0 0]
  | k + 1 => #[.int .i64 ((k + 1 : Nat) : Int), oneAt ao k]

set_option maxRecDepth 100000 in
set_option maxHeartbeats 2000000 in
theorem piecesD_in (B n : Nat) (hn : 1 ≤ n) (l Bb : Nat) (M : Nat → Prop) (ao : Option Addr) (cap : Nat) (bs : List UInt8) (J Jx : List Nat → World → Prop)
    (hY : ∀ pre x W, J pre W → AtIx (bs.length + 1) pre x → YieldAt Fence.wide (n - 1) Tryd.prog l (pieceD ao x) W fun e W' =>
      (e = .returned (.bool true) ∧ J (pre ++ [x]) W' ∧ KeepC M W W' ∧ KeepsFrom B W W') ∨ (e = .returned (.bool false) ∧ Jx (pre ++ [x]) W' ∧ KeepsFrom B W W'))
    (W : World) (hcap1 : bs.length ≤ cap) (hcap2 : cap ≤ 9223372036854775807) (hao : bs ≠ [] → ∃ b off, ao = some ⟨b, off, none⟩) (hBb : ¬ M Bb)
    (cb : W.cell? ⟨Bb, 0, none⟩ = some (.slice ao bs.length cap)) (h0 : J [] W) :
    CallsIn Fence.wide n Tryd.prog 49 #[.func (.yield l) #[] #[], .pointer (some ⟨Bb, 0, none⟩)] W fun e W' => (∃ v, e = .returned v) ∧
      ((∃ ys, ys = List.range (bs.length + 1) ∧ J ys W') ∨ (∃ pre, (∃ j, j ≤ bs.length + 1 ∧ pre = List.range j) ∧ Jx pre W')) := by
  have HM := Lib.hid hBb; clear hBb
  have HY := Lib.hid hY; clear hY
  have HAO := Lib.hid hao; clear hao
  refine callsIn_of_wp Tryd.func49 rfl trivial ?_ rfl
  simp only [Tryd.ntmps49, List.size_toArray, List.length_cons, List.length_nil, Nat.reduceAdd, Nat.reduceSub, Array.replicate_succ, Array.replicate_zero, List.push_toArray, List.append_toArray, List.nil_append, List.cons_append]
  obtain ⟨fn, tmps, assign, body, hy, hR⟩ := HY.out _ 0 W h0 ⟨by omega, rfl⟩
  dsimp only [pieceD] at hy
  gi_wp2
  refine hR.mono ?_
  rintro e W3 (⟨rfl, hJ3, hk3, _⟩ | ⟨rfl, hJx3, _⟩)
  · have HJ3 := Lib.hid hJ3; clear hJ3
    have HX3 := Lib.hid hk3; clear hk3
    have cb3 : W3.cell? ⟨Bb, 0, none⟩ = some (.slice ao bs.length cap) := HX3.out.cell HM.out cb
    gi_wp2
    gi_loopw [3, 9] (fun _ i wr => ∃ k : Nat, k ≤ bs.length ∧ i = .int .i64 k ∧ J (List.range (k + 1)) wr ∧ KeepC M W wr) (fun _ i _ => bs.length - (intOf i).toNat)
    case atStart => exact ⟨0, Nat.zero_le _, rfl, HJ3.out, HX3.out⟩
    case round =>
      obtain ⟨k, hk, rfl, hJs, hnx⟩ := hrel
      have HX := Lib.hid hnx; clear hnx
      have HJ := Lib.hid hJs; clear hJs
      have cb' : wr.cell? ⟨Bb, 0, none⟩ = some (.slice ao bs.length cap) := HX.out.cell HM.out cb
      by_cases hlt : k < bs.length
      · obtain ⟨b1, off, rfl⟩ := HAO.out (by rintro rfl; simp at hlt)
        obtain ⟨fn, tmps, assign, body, hy, hR⟩ := HY.out _ (k + 1) wr HJ.out ⟨by omega, rfl⟩
        dsimp only [pieceD, oneAt] at hy
        rw [show Option.map (fun x => Addr.add x k) (some (⟨b1, off, none⟩ : Addr)) = some ⟨b1, off + k, none⟩ by simp [Addr.add], show ((k + 1 : Nat) : Int) = (k : Int) + 1 by omega] at hy
        gi_wp2
        refine hR.mono ?_
        rintro e W4 (⟨rfl, hJ4, hk4, _⟩ | ⟨rfl, hJx4, _⟩)
        · have HJ4 := Lib.hid hJ4; clear hJ4
          have HX4 := Lib.hid (HX.out.trans hk4); clear hk4
          gi_wp2
          go_roundw
          case rel => exact ⟨k + 1, by omega, by go_num, by rw [List.range_succ]; exact HJ4.out, HX4.out⟩
          case measure => simp [intOf]; omega
        · have HJ4 := Lib.hid hJx4; clear hJx4
          gi_wp2
          refine bodyPost_ret (results_none rfl _ _ _) rfl ?_
          exact ⟨⟨_, rfl⟩, .inr ⟨_, ⟨k + 2, by omega, (List.range_succ (n := k + 1)).symm⟩, HJ4.out⟩⟩
      · gi_wp2
        go_end0
        obtain rfl : k = bs.length := by omega
        exact ⟨⟨_, rfl⟩, .inl ⟨_, rfl, HJ.out⟩⟩
  · have HJ3 := Lib.hid hJx3; clear hJx3
    gi_wp2
    refine bodyPost_ret (results_none rfl _ _ _) rfl ?_
    exact ⟨⟨_, rfl⟩, .inr ⟨_, ⟨1, by omega, rfl⟩, HJ3.out⟩⟩
end Go.Proofs.YtbhggjgghngeeaaDoor
