/- The kinds' names: the table; Name; the iterator over all kinds: its contract, at the wide fence. -/
import Derived.Lib.LaidTab
import Derived.Test.YtooocgnjefbnkaaDoorKeep
import Derived.Test.YtooocgnjefbnkaaDoorScopeIn
import Derived.Test.YtooocgnjefbnkaaDoorSeqS
import Derived.Test.YtooocgnjefbnkaaDoorAW
namespace Go.Proofs.YtooocgnjefbnkaaDoor
open Go Go.RowKit Go.Shelf
attribute [local go_sem] Oper.semAt_some

def nmB : List (List UInt8) := [[97, 100, 100], [115, 117, 98], [109, 117, 108], [100, 105, 118], [109, 111, 100], [97, 110, 100], [111, 114], [120, 111, 114], [115, 104, 108], [115, 104, 114], [108, 101, 115, 115], [101, 113, 117, 97, 108]]
def nm (i : Nat) : ByteArray := str (nmB.getD i [])
def nmV (i : Nat) : Value := .string (nm i)
/-- The table lies where it was laid. -/
def NamesW (w : World) : Prop := ∀ i, i < 12 → w.cell? ⟨0, i, none⟩ = some (nmV i)
theorem NamesW.adds {w w' : World} (h : NamesW w) (ha : Adds w w') : NamesW w' := fun i hi => ha.cellAt (h i hi)
def nmA : Array Value := #[nmV 0, nmV 1, nmV 2, nmV 3, nmV 4, nmV 5, nmV 6, nmV 7, nmV 8, nmV 9, nmV 10, nmV 11]
theorem nm_ix (j : Nat) (hj : j < 12) (W : World) : (Instr.index 68 (.agg nmA) (.int .i64 j)).run Tryd.prog W = .ok (nmV j) W := by
  match j, hj with
  | 0, _ => show _ = _; kernel_rfl
  | 1, _ => show _ = _; kernel_rfl
  | 2, _ => show _ = _; kernel_rfl
  | 3, _ => show _ = _; kernel_rfl
  | 4, _ => show _ = _; kernel_rfl
  | 5, _ => show _ = _; kernel_rfl
  | 6, _ => show _ = _; kernel_rfl
  | 7, _ => show _ = _; kernel_rfl
  | 8, _ => show _ = _; kernel_rfl
  | 9, _ => show _ = _; kernel_rfl
  | 10, _ => show _ = _; kernel_rfl
  | 11, _ => show _ = _; kernel_rfl

theorem kinds_any (w : World) : Calls Tryd.prog 22 #[] w fun e w' => e = .returned (.func (.func 33) #[] #[]) ∧ w = w' := by
  go_enter Tryd.func22, Tryd.ntmps22
  go_wp2
  go_ret
  exact ⟨rfl, rfl⟩
abbrev kdV (x : Nat) : Array Value := #[.int .i64 ((x : Nat) : Int), nmV x]
abbrev kdV1 (x : Nat) : Array Value := #[.int .i64 (1 + ((x : Nat) : Int)), nmV x]

set_option maxRecDepth 100000 in
set_option maxHeartbeats 2000000 in
theorem kinds_in (B n : Nat) (hn : 1 ≤ n) (l : Nat) (Kp : World → World → Prop) (J Jx : List Nat → World → Prop)
    (hY : ∀ pre x W, J pre W → (x < 12 ∧ pre = List.range x) → YieldAt Fence.wide (n - 1) Tryd.prog l (kdV1 x) W fun e W' =>
      (e = .returned (.bool true) ∧ J (pre ++ [x]) W' ∧ Kp W W' ∧ KeepsFrom B W W') ∨ (e = .returned (.bool false) ∧ Jx (pre ++ [x]) W' ∧ KeepsFrom B W W'))
    (W : World) (hN : NamesW W) (h0 : J [] W) :
    CallsIn Fence.wide n Tryd.prog 33 #[.func (.yield l) #[] #[]] W fun e W' => (∃ v, e = .returned v) ∧
      ((∃ ys, ys = List.range 12 ∧ J ys W') ∨ (∃ pre, (∃ x, x < 12 ∧ pre = List.range (x + 1)) ∧ Jx pre W')) := by
  have HY := Lib.hid hY; clear hY
  have c0 : W.cell? ⟨0, 0, none⟩ = some (nmV 0) := hN 0 (by decide)
  have c1 : W.cell? ⟨0, 1, none⟩ = some (nmV 1) := hN 1 (by decide)
  have c2 : W.cell? ⟨0, 2, none⟩ = some (nmV 2) := hN 2 (by decide)
  have c3 : W.cell? ⟨0, 3, none⟩ = some (nmV 3) := hN 3 (by decide)
  have c4 : W.cell? ⟨0, 4, none⟩ = some (nmV 4) := hN 4 (by decide)
  have c5 : W.cell? ⟨0, 5, none⟩ = some (nmV 5) := hN 5 (by decide)
  have c6 : W.cell? ⟨0, 6, none⟩ = some (nmV 6) := hN 6 (by decide)
  have c7 : W.cell? ⟨0, 7, none⟩ = some (nmV 7) := hN 7 (by decide)
  have c8 : W.cell? ⟨0, 8, none⟩ = some (nmV 8) := hN 8 (by decide)
  have c9 : W.cell? ⟨0, 9, none⟩ = some (nmV 9) := hN 9 (by decide)
  have c10 : W.cell? ⟨0, 10, none⟩ = some (nmV 10) := hN 10 (by decide)
  have c11 : W.cell? ⟨0, 11, none⟩ = some (nmV 11) := hN 11 (by decide)
  clear hN
  have HIX := Lib.hid nm_ix
  refine callsIn_of_wp Tryd.func33 rfl trivial ?_ rfl
  simp only [Tryd.ntmps33, List.size_toArray, List.length_cons, List.length_nil, Nat.reduceAdd, Nat.reduceSub, Array.replicate_succ, Array.replicate_zero, List.push_toArray, List.append_toArray, List.nil_append, List.cons_append]
  gi_wp2
  clear c0 c1 c2 c3 c4 c5 c6 c7 c8 c9 c10 c11
  gi_loopw [2, 3, 5] (fun _ _ i wr => ∃ j : Nat, i = .int .i64 j ∧ j ≤ 12 ∧ J (List.range j) wr) (fun _ _ i _ => 12 - (intOf i).toNat)
  case atStart => exact ⟨0, rfl, Nat.zero_le _, h0⟩
  case round =>
    obtain ⟨j, rfl, hjl, hJs⟩ := hrel
    have HJ := Lib.hid hJs; clear hJs
    by_cases hlt : j < 12
    · obtain ⟨fn, tmps, assign, body, hy, hR⟩ := HY.out _ j wr HJ.out ⟨hlt, rfl⟩
      have hix := HIX.out j hlt
      unfold nmA at hix
      dsimp only [kdV1] at hy
      obtain ⟨nv, hnv⟩ : ∃ y, nmV j = y := ⟨_, rfl⟩
      rw [hnv] at hix hy
      clear hnv
      gi_wp2
      refine hR.mono ?_
      rintro e W3 (⟨rfl, hJ3, hk3, _⟩ | ⟨rfl, hJx3, _⟩)
      · have HJ3 := Lib.hid hJ3; clear hJ3 hk3
        gi_wp2
        go_roundw
        case rel => exact ⟨j + 1, by go_num, hlt, by rw [List.range_succ]; exact HJ3.out⟩
        case measure => simp [intOf]; omega
      · have HJ3 := Lib.hid hJx3; clear hJx3
        gi_wp2
        refine bodyPost_ret (results_none rfl _ _ _) rfl ?_
        exact ⟨⟨_, rfl⟩, .inr ⟨_, ⟨j, hlt, List.range_succ.symm⟩, HJ3.out⟩⟩
    · gi_wp2
      go_end0
      obtain rfl : j = 12 := by omega
      exact ⟨⟨_, rfl⟩, .inl ⟨_, rfl, HJ.out⟩⟩
/-- .. as the law of a range asks for it. -/
theorem kinds_seq (n : Nat) (hn : 1 ≤ n) (Kp : World → World → Prop) (w : World) (hN : NamesW w) :
    SeqS Fence.wide n Tryd.prog 33 #[] kdV1 Kp (fun xs => xs = List.range 12) (fun pre => ∃ x, x < 12 ∧ pre = List.range (x + 1)) (fun pre x => x < 12 ∧ pre = List.range x) w := fun l J Jx W hb _ _ hY h0 =>
  kinds_in W.heap.size n hn l Kp J Jx hY W (hN.adds hb) h0
end Go.Proofs.YtooocgnjefbnkaaDoor
