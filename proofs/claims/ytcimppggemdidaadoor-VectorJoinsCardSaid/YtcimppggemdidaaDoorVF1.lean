/- Contracts of the small functions of package vector: get, covers, trimmed, isClock, place, clocks. -/
import Derived.Test.YtcimppggemdidaaDoorVMem
namespace Go.Proofs.YtcimppggemdidaaDoor
open Go Go.RowKit

/-- A goroutine's clock, whatever the number. -/
def gI (l : List UInt64) (x : Int) : Nat := if 0 ≤ x then (gD l x.toNat).toNat else 0
theorem gI_nat (l : List UInt64) (i : Nat) : gI l (i : Int) = (gD l i).toNat := by unfold gI; rw [if_pos (by omega), Int.toNat_natCast]
theorem gI_out {l : List UInt64} {x : Int} (h : ¬ (0 ≤ x ∧ x < l.length)) : gI l x = 0 := by
  unfold gI
  split
  · rw [gD_ge (by omega)]; rfl
  · rfl
theorem gI_lt (l : List UInt64) (x : Int) : gI l x < 18446744073709551616 := by
  unfold gI
  split
  · exact (gD l x.toNat).toNat_lt
  · omega
theorem word_cell {n : Nat} {w : World} {ao : Option Addr} {len cap : Nat} {l : List UInt64} (h : Words n w (.slice ao len cap) l) (i : Nat) (hi : i < l.length) :
    ∃ b off, ao = some ⟨b, off, none⟩ ∧ w.cell? ⟨b, off + i, none⟩ = some (.int .u64 ((gD l i).toNat : Nat)) := by
  obtain ⟨_, _, e, _, _, h3⟩ := h
  cases e
  obtain ⟨b, off, rfl, _, hc⟩ := h3 (by rintro rfl; simp at hi)
  exact ⟨b, off, rfl, hc i hi⟩

set_option maxHeartbeats 400000 in
theorem get_any {n : Nat} (v : Value) (l : List UInt64) (x : Int) (w : World) (hv : Words n w v l) :
    Calls Tryd.prog 65 #[v, .int .i64 x] w fun e w' => e = .returned (.int .u64 (gI l x : Nat)) ∧ w = w' := by
  have HV := Lib.hid hv
  obtain ⟨ao, cap, rfl, h1, h2, _⟩ := hv
  unfold maxLen at h2
  by_cases h0 : x < 0
  · rw [gI_out (by omega)]
    go_enter Tryd.func65, Tryd.ntmps65
    go_wp2
    go_ret
    exact ⟨rfl, rfl⟩
  · by_cases hlt : x < l.length
    · obtain ⟨i, rfl⟩ : ∃ i : Nat, x = i := ⟨x.toNat, by omega⟩
      rw [gI_nat]
      obtain ⟨b, off, rfl, hc⟩ := word_cell HV.out i (by omega)
      obtain ⟨y, hy⟩ : ∃ y : Int, (((gD l i).toNat : Nat) : Int) = y := ⟨_, rfl⟩
      rw [hy] at hc ⊢
      clear hy
      go_enter Tryd.func65, Tryd.ntmps65
      go_wp2
      go_ret
      exact ⟨rfl, rfl⟩
    · rw [gI_out (by omega)]
      go_enter Tryd.func65, Tryd.ntmps65
      go_wp2
      go_ret
      exact ⟨rfl, rfl⟩

set_option maxHeartbeats 400000 in
theorem covers_any {n : Nat} (v : Value) (l : List UInt64) (x : Int) (c : Nat) (z : Bool) (hz : decide (c ≤ gI l x) = z) (w : World) (hv : Words n w v l) :
    Calls Tryd.prog 66 #[v, .int .i64 x, .int .u64 c] w fun e w' => e = .returned (.bool z) ∧ w = w' := by
  have HG := Lib.hid (get_any v l x w hv); clear hv
  obtain ⟨y, hy⟩ : ∃ y : Int, ((gI l x : Nat) : Int) = y := ⟨_, rfl⟩
  rw [hy] at HG
  have HZ := Lib.hid (show decide ((c : Int) ≤ y) = z by rw [← hz, ← hy]; simp); clear hz hy
  go_enter Tryd.func66, Tryd.ntmps66
  go_wp2_with (go_at_call 65; refine HG.out.mono ?_; rintro e w' ⟨rfl, rfl⟩)
  go_ret
  exact ⟨ret_bool HZ.out, rfl⟩

set_option maxHeartbeats 400000 in
theorem isClock_any (x : Int) (c : Nat) (z : Bool) (hz : decide (c ≤ 281474976710655) = z) (w : World) :
    Calls Tryd.prog 63 #[.int .i64 x, .int .u64 c] w fun e w' => e = .returned (.bool z) ∧ w = w' := by
  have HZ := Lib.hid (show decide ((c : Int) ≤ 281474976710655) = z by rw [← hz, decide_eq_decide]; omega); clear hz
  go_enter Tryd.func63, Tryd.ntmps63
  go_wp2
  go_ret
  exact ⟨ret_bool HZ.out, rfl⟩

set_option maxHeartbeats 400000 in
theorem place_any (z : Bool) (w : World) :
    Calls Tryd.prog 76 #[.bool z] w fun e w' => e = .returned (.int .i64 (if z then 1 else 0)) ∧ w = w' := by
  cases z
  · go_enter Tryd.func76, Tryd.ntmps76
    go_wp2
    go_ret
    exact ⟨rfl, rfl⟩
  · go_enter Tryd.func76, Tryd.ntmps76
    go_wp2
    go_ret
    exact ⟨rfl, rfl⟩

set_option maxHeartbeats 800000 in
theorem trimmed_any {n : Nat} (v : Value) (l : List UInt64) (w : World) (hv : Words n w v l) :
    Calls Tryd.prog 102 #[v] w fun e w' => e = .returned (.int .i64 (tN l : Nat)) ∧ w = w' := by
  have HV := Lib.hid hv
  obtain ⟨ao, cap, rfl, h1, h2, _⟩ := hv
  unfold maxLen at h2
  go_enter Tryd.func102, Tryd.ntmps102
  go_wp2
  go_loop [3] (fun i => ∃ k : Nat, k ≤ l.length ∧ i = .int .i64 k ∧ ∀ j, k ≤ j → gD l j = 0) (fun i => (intOf i).toNat)
  case atStart => exact ⟨l.length, Nat.le_refl _, rfl, fun j hj => gD_ge hj⟩
  case round =>
    obtain ⟨k, hk, rfl, hz⟩ := hrel
    have HZ := Lib.hid hz; clear hz
    by_cases hk0 : k = 0
    · subst hk0
      go_wp2
      go_ret
      exact ⟨ret_int (by rw [tN_eq (m := 0) (fun i hi => HZ.out i hi) (by omega)]; rfl), rfl⟩
    · obtain ⟨m, hm⟩ : ∃ m, m + 1 = k := ⟨k - 1, by omega⟩
      obtain ⟨b, off, rfl, hc⟩ := word_cell HV.out m (by omega)
      have hix : (k : Int) - 1 = (m : Int) := by omega
      have hkp : (0 : Int) < (k : Int) := by omega
      have hml : m < l.length := by omega
      by_cases h0 : gD l m = 0
      · rw [h0] at hc
        have hc' : w.cell? ⟨b, off + m, none⟩ = some (.int .u64 0) := hc
        clear hc
        have HM := Lib.hid hm; clear hm
        have HKL := Lib.hid hk; clear hk
        go_wp2
        go_round
        case rel =>
          have hm := HM.out
          have hk := HKL.out
          refine ⟨m, by omega, by go_num, fun j hj => ?_⟩
          rcases Nat.lt_or_ge m j with h | h
          · exact HZ.out j (by omega)
          · rw [show j = m by omega]; exact h0
        case measure =>
          have hm := HM.out
          simp [intOf]; omega
      · obtain ⟨y, hy⟩ : ∃ y : Int, (((gD l m).toNat : Nat) : Int) = y := ⟨_, rfl⟩
        have hy0 : y ≠ 0 := by
          intro h
          apply h0
          apply UInt64.toNat_inj.1
          rw [h] at hy
          simpa using hy
        rw [hy] at hc
        clear hy
        have HM := Lib.hid hm; clear hm
        have HKL := Lib.hid hk; clear hk
        go_wp2
        go_ret
        exact ⟨ret_int (by rw [tN_eq (m := k) (fun i hi => HZ.out i hi) (fun _ => by rw [show k - 1 = m by have := HM.out; omega]; exact h0)]), rfl⟩

set_option maxHeartbeats 1000000 in
theorem clocks_vany (ao : Option Addr) (len cap : Nat) (w : World) :
    Calls Tryd.prog 80 #[.slice ao len cap] w fun e w' =>
      e = .returned (.func (.func 103) #[] #[.pointer (some ⟨w.heap.size, 0, none⟩)]) ∧ w.alloc (.cells #[.slice ao len cap] 102) = w' := by
  go_enter Tryd.func80, Tryd.ntmps80
  go_wp2
  go_ret
  exact ⟨rfl, rfl⟩
end Go.Proofs.YtcimppggemdidaaDoor
