/- Contracts of the small functions of package epoch: parts. -/
import Derived.Test.YtcimppggemdidaaDoorKF1
namespace Go.Proofs.YtcimppggemdidaaDoor
open Go Go.RowKit

/-- An epoch's number and its clock; the epoch of both. -/
def eI (e : Nat) : Nat := e / 281474976710656
def eC (e : Nat) : Nat := e % 281474976710656
def epN (i c : Nat) : Nat := i * 281474976710656 + c
theorem eI_cast (e : Nat) : ((e : Int) / 281474976710656) = ((eI e : Nat) : Int) := by unfold eI; omega
theorem eC_cast (e : Nat) : (Int.tmod (e : Int) 281474976710656) = ((eC e : Nat) : Int) := by
  rw [Int.tmod_eq_emod_of_nonneg (by omega)]; unfold eC; omega
theorem epN_cast (i c : Nat) (hi : i < 65536) (hc : c < 281474976710656) : bits .or .u64 (IntKind.u64.wrap ((i : Int) * 281474976710656)) (c : Int) = ((epN i c : Nat) : Int) := by
  have e : ((i : Int) * 281474976710656) = ((i * 281474976710656 : Nat) : Int) := by omega
  have p : (2 : Nat) ^ 48 = 281474976710656 := by decide
  have w1 : IntKind.u64.wrap ((i * 281474976710656 : Nat) : Int) = ((i * 281474976710656 : Nat) : Int) := by rw [IntKind.wrap_u64]; omega
  rw [e, w1, u64_or_nat _ _ (by omega) (by omega), nat_join 48 _ _ (by rw [p]; omega) (by rw [p]; exact hc)]
  rfl
theorem eI_lt {e : Nat} (h : e < 18446744073709551616) : eI e < 65536 := by unfold eI; omega
theorem eC_lt (e : Nat) : eC e < 281474976710656 := by unfold eC; omega
theorem epN_eIC (e : Nat) : epN (eI e) (eC e) = e := by unfold epN eI eC; omega
theorem eI_epN {i c : Nat} (hc : c < 281474976710656) : eI (epN i c) = i := by unfold epN eI; omega
theorem eC_epN {i c : Nat} (hc : c < 281474976710656) : eC (epN i c) = c := by unfold epN eC; omega
theorem epN_lt {i c : Nat} (hi : i < 65536) (hc : c < 281474976710656) : epN i c < 18446744073709551616 := by unfold epN; omega

set_option maxHeartbeats 400000 in
theorem parts_int (x : Int) (w : World) :
    Calls Tryd.prog 96 #[.int .u64 x] w fun e w' => e = .returned (.agg #[.int .u64 (x / 281474976710656), .int .u64 (x.tmod 281474976710656)]) ∧ Below w.heap.size w w' := by
  go_enter Tryd.func96, Tryd.ntmps96
  go_wp2
  exact bodyPost_ret (v := .agg #[.int .u64 (x / 281474976710656), .int .u64 (x.tmod 281474976710656)]) (by simp [results, Tryd.results96, go_sem]) rfl ⟨rfl, adds_b w _⟩
theorem parts_any (e : Nat) (w : World) :
    Calls Tryd.prog 96 #[.int .u64 e] w fun x w' => x = .returned (.agg #[.int .u64 (eI e : Nat), .int .u64 (eC e : Nat)]) ∧ Below w.heap.size w w' := by
  have := parts_int e w
  rw [eI_cast, eC_cast] at this
  exact this
set_option maxHeartbeats 400000 in
theorem epoch_int (x y : Int) (w : World) :
    Calls Tryd.prog 95 #[.agg #[.int .u64 x, .int .u64 y]] w fun e w' => e = .returned (.int .u64 (bits BinOp.or IntKind.u64 (IntKind.u64.wrap (x * 281474976710656)) y)) ∧ Below w.heap.size w w' := by
  go_enter Tryd.func95, Tryd.ntmps95
  go_wp2
  go_ret
  exact ⟨rfl, adds_b w _⟩
theorem epoch_any (i c : Nat) (hi : i < 65536) (hc : c < 281474976710656) (w : World) :
    Calls Tryd.prog 95 #[.agg #[.int .u64 i, .int .u64 c]] w fun e w' => e = .returned (.int .u64 (epN i c : Nat)) ∧ Below w.heap.size w w' := by
  have := epoch_int i c w
  rw [epN_cast i c hi hc] at this
  exact this
theorem ix0 (x y : Value) (w : World) : (Instr.index 138 (.agg #[x, y]) (.int .i64 0)).run Tryd.prog w = .ok x w := by kernel_rfl
theorem ix1 (x y : Value) (w : World) : (Instr.index 138 (.agg #[x, y]) (.int .i64 1)).run Tryd.prog w = .ok y w := by kernel_rfl
theorem gets (e : Nat) : ∃ a c : Int, a = ((eI e : Nat) : Int) ∧ c = ((eC e : Nat) : Int) := ⟨_, _, rfl, rfl⟩
set_option maxHeartbeats 400000 in
theorem clock_any (e : Nat) (w : World) :
    Calls Tryd.prog 100 #[.int .u64 e] w fun x w' => x = .returned (.int .u64 (eC e : Nat)) ∧ Below w.heap.size w w' := by
  have HK := Lib.hid (parts_any e)
  obtain ⟨a, c, ha, hc⟩ := gets e
  rw [← ha, ← hc] at HK
  rw [← hc]
  clear ha hc
  go_enter Tryd.func100, Tryd.ntmps100
  have i1 := ix1
  go_wp2_with (go_at_call 96; refine (HK.out _).mono ?_; rintro e w1 ⟨rfl, b1⟩; have A1 := Lib.hid b1; clear b1)
  go_ret
  exact ⟨rfl, A1.out⟩
set_option maxHeartbeats 400000 in
theorem at_any (e c : Nat) (he : e < 18446744073709551616) (hc : c < 281474976710656) (w : World) :
    Calls Tryd.prog 99 #[.int .u64 e, .int .u64 c] w fun x w' => x = .returned (.int .u64 (epN (eI e) c : Nat)) ∧ Below w.heap.size w w' := by
  have HE := Lib.hid (epoch_any (eI e) c (eI_lt he) hc)
  clear he hc
  have HK := Lib.hid (parts_any e)
  obtain ⟨a, d, ha, hd⟩ := gets e
  obtain ⟨y, hy⟩ : ∃ y : Int, y = ((epN (eI e) c : Nat) : Int) := ⟨_, rfl⟩
  rw [← ha, ← hd] at HK
  rw [← ha, ← hy] at HE
  rw [← hy]
  clear ha hd hy
  have i0 := ix0
  go_enter Tryd.func99, Tryd.ntmps99
  go_wp2_with (first
    | (go_at_call 96; refine (HK.out _).mono ?_; rintro e w1 ⟨rfl, b1⟩; have A1 := Lib.hid b1; clear b1)
    | (go_at_call 95; refine (HE.out _).mono ?_; rintro e w2 ⟨rfl, b2⟩; have A2 := Lib.hid b2; clear b2))
  go_ret
  exact ⟨rfl, A1.out.trans (A2.out.mono A1.out.size)⟩
end Go.Proofs.YtcimppggemdidaaDoor
