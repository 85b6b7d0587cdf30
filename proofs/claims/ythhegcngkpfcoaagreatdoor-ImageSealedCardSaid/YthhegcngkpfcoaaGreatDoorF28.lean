/- Merged: MR1. -/
import Derived.Test.YthhegcngkpfcoaaGreatDoorF25
import Derived.Test.YthhegcngkpfcoaaGreatDoorF20
import Derived.Test.YthhegcngkpfcoaaGreatDoorF27
namespace Go.Proofs.YthhegcngkpfcoaaGreatDoor
open Go Go.RowKit Go.Shelf Go.Lib

abbrev rnV (v : Value) (s : St) : Value := .agg #[v, .int .i64 (s.1 : Int), .int .i64 s.2]
abbrev rnC (v : Value) (a : Nat) (b : Int) : List Value := [v, .int .i64 (a : Int), .int .i64 b]
theorem rfN_takeQ (l : List UInt8) (wd : Nat) (hw : isW (wd : Int) = true) (h : wd ≤ l.length) : rfN l (wd : Int) = unB (l.take wd) := by
  unfold rfN
  rw [if_pos (by unfold rfE; rw [if_pos hw, if_neg (by simp; omega)])]
  rfl
theorem two_new (w : World) (o p : Obj) : ((w.alloc o).alloc p).heap[w.heap.size + 1]? = some p := by
  have h := heap_new (w.alloc o) p
  simpa using h
theorem two_adds (w : World) (o p : Obj) : Adds w ((w.alloc o).alloc p) := Adds.trans (Adds.new _ _) (Adds.new _ _)
set_option maxRecDepth 100000 in
set_option maxHeartbeats 4000000 in
theorem rnum {n : Nat} (v : Value) (l : List UInt8) (s : St) (wd : Nat) (hwd : isW (wd : Int) = true) (h7 : wd ≤ 7) (hs : s.1 ≤ l.length) (w : World) (hv : Bytes n w v l) :
    Calls Tryz.prog 50 #[rnV v s, .int .i64 (wd : Int)] w fun e w' => e = .returned (.tuple #[rnV v (numQ l s wd).1, .int .i64 ((numQ l s wd).2 : Nat)]) ∧ Adds w w' := by
  obtain ⟨k, bad⟩ := s
  simp only at hs
  obtain ⟨ao, cap, rfl, h1, h2, _⟩ := id hv
  unfold maxLen at h2
  unfold numQ
  by_cases hb : bad = 0
  · subst hb
    simp only [if_true]
    by_cases hl : l.length < k + wd
    · rw [if_pos hl]
      have hlI : (l.length : Int) - k < wd := by omega
      clear hv h1
      go_enter Tryz.func50, Tryz.ntmps50
      go_wp2
      refine bodyPost_ret (res_box2 rfl _ _ _ _ _ _ _ rfl (two_new _ _ _) Tryz.underlying75 rfl (by kernel_rfl)) rfl ?_
      exact ⟨rfl, two_adds _ _ _⟩
    · rw [if_neg hl]
      have hlI : ¬ (l.length : Int) - (k : Int) < (wd : Int) := by omega
      have hlJ : (wd : Int) ≤ (l.length : Int) - (k : Int) := by omega
      have hlw : wrap64 ((l.length : Int) - (k : Int)) = (l.length : Int) - (k : Int) := by unfold wrap64; omega
      have hwu := Lib.hid (show wrap64 ((unB ((l.drop k).take wd) : Nat) : Int) = ((unB ((l.drop k).take wd) : Nat) : Int) by
        have h0 := unB_lt ((l.drop k).take wd)
        have h1 : 256 ^ ((l.drop k).take wd).length ≤ 256 ^ 7 := Nat.pow_le_pow_right (by omega) (by simp; omega)
        unfold wrap64; omega)
      have hlp : wrap64 ((k : Int) + (wd : Int)) = (k : Int) + (wd : Int) := by unfold wrap64; omega
      have hRF := Lib.hid (show ∀ W, Adds w W → Calls Tryz.prog 71 #[cutF ao l.length cap k, .int .i64 (wd : Int)] W fun e w' => e = .returned (.tuple #[.int .u64 (unB ((l.drop k).take wd) : Nat), .int .i64 0]) ∧ W = w' from fun W h => by
        have h0 := refReadFixed_any _ (l.drop k) wd W (bytes_from (hv.here.below h) k hs)
        rw [rfN_takeQ _ _ hwd (by simp; omega), show rfE (l.drop k) (wd : Int) = 0 by unfold rfE; rw [if_pos hwd, if_neg (by simp; omega)]] at h0
        exact h0)
      have hsl := fun W => slice_fromB ao l.length cap k hs W
      clear hv h1
      obtain ⟨cu, hcu⟩ : ∃ cu, cutF ao l.length cap k = cu := ⟨_, rfl⟩
      rw [hcu] at hRF
      simp only [hcu] at hsl
      clear hcu
      go_enter Tryz.func50, Tryz.ntmps50
      go_wp2_with (go_at_call 71; refine (hRF.out _ (two_adds _ _ _)).mono ?_; rintro e w' ⟨rfl, rfl⟩)
      refine bodyPost_ret (res_box2 rfl _ _ _ _ _ _ _ rfl (two_new _ _ _) Tryz.underlying75 rfl (by kernel_rfl)) rfl ?_
      refine ⟨?_, two_adds _ _ _⟩
      show Ending.returned (.tuple #[.agg #[.slice ao l.length cap, .int .i64 ((k : Int) + (wd : Int)), .int .i64 0], .int .i64 (wrap64 ((unB ((l.drop k).take wd) : Nat) : Int))]) = _
      rw [hwu.out]
      simp only [rnV, Int.natCast_add]
  · have hbq : (bad == 0) = false := by simp [hb]
    rw [if_neg hb]
    clear hv h1
    go_enter Tryz.func50, Tryz.ntmps50
    go_wp2
    refine bodyPost_ret (res_box2 rfl _ _ _ _ _ _ _ rfl (two_new _ _ _) Tryz.underlying75 rfl (by kernel_rfl)) rfl ?_
    exact ⟨rfl, two_adds _ _ _⟩
end Go.Proofs.YthhegcngkpfcoaaGreatDoor
