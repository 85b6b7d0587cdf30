/- Contracts of the epoch reference's Pack, Parts, Next. -/
import Derived.Test.YtcimppggemdidaaDoorKF2
import Derived.OpenShut
namespace Go.Proofs.YtcimppggemdidaaDoor
open Go Go.RowKit

set_option maxHeartbeats 400000 in
theorem refPack_yes (i c : Nat) (hi : i < 65536) (hc : c < 281474976710656) (w : World) :
    Calls Tryd.prog 60 #[.int .i64 i, .int .u64 c] w fun e w' => e = .returned (.tuple #[.int .u64 (epN i c : Nat), .int .i64 0]) ∧ w = w' := by
  obtain ⟨x, hx⟩ : ∃ x : Int, (i : Int) = x := ⟨_, rfl⟩
  obtain ⟨y, hy⟩ : ∃ y : Int, (c : Int) = y := ⟨_, rfl⟩
  obtain ⟨z, hz⟩ : ∃ z : Int, ((epN i c : Nat) : Int) = z := ⟨_, rfl⟩
  rw [hx, hy, hz]
  have h0 : 0 ≤ x := by omega
  have h1 : x ≤ 65535 := by omega
  have h2 : y ≤ 281474976710655 := by omega
  have h3 : x * 281474976710656 + y = z := by rw [← hz]; unfold epN; omega
  have h4 : 0 ≤ y := by omega
  clear hx hy hz hi hc
  go_enter Tryd.func60, Tryd.ntmps60
  go_wp2
  go_ret2
  exact ⟨rfl, rfl⟩

set_option maxHeartbeats 400000 in
theorem refPack_no (x : Int) (c : Nat) (h : ¬ (0 ≤ x ∧ x ≤ 65535 ∧ c < 281474976710656)) (w : World) :
    Calls Tryd.prog 60 #[.int .i64 x, .int .u64 c] w fun e w' => e = .returned (.tuple #[.int .u64 0, .int .i64 2]) ∧ w = w' := by
  obtain ⟨y, hy⟩ : ∃ y : Int, (c : Int) = y := ⟨_, rfl⟩
  rw [hy]
  by_cases h1 : x < 0
  · clear h hy
    go_enter Tryd.func60, Tryd.ntmps60
    go_wp2
    go_ret2
    exact ⟨rfl, rfl⟩
  · by_cases h2 : 65535 < x
    · have h0 : 0 ≤ x := by omega
      clear h hy h1
      go_enter Tryd.func60, Tryd.ntmps60
      go_wp2
      go_ret2
      exact ⟨rfl, rfl⟩
    · have h0 : 0 ≤ x := by omega
      have h3 : x ≤ 65535 := by omega
      have h4 : 281474976710655 < y := by omega
      clear h hy h1 h2
      go_enter Tryd.func60, Tryd.ntmps60
      go_wp2
      go_ret2
      exact ⟨rfl, rfl⟩

set_option maxHeartbeats 400000 in
theorem refParts_int (x a : Int) (h0 : 0 ≤ x) (ha : x / 281474976710656 = a) (h1 : 0 ≤ a) (h2 : a ≤ 65535) (w : World) :
    Calls Tryd.prog 68 #[.int .u64 x] w fun e w' => e = .returned (.tuple #[.int .i64 a, .int .u64 (x % 281474976710656)]) ∧ w = w' := by
  go_enter Tryd.func68, Tryd.ntmps68
  go_wp2
  go_ret2
  exact ⟨rfl, rfl⟩
theorem refParts_any (e : Nat) (he : e < 18446744073709551616) (w : World) :
    Calls Tryd.prog 68 #[.int .u64 e] w fun x w' => x = .returned (.tuple #[.int .i64 (eI e : Nat), .int .u64 (eC e : Nat)]) ∧ w = w' := by
  have h := refParts_int (e : Int) ((eI e : Nat) : Int) (by omega) (eI_cast e) (by omega) (by have := eI_lt he; omega) w
  have h2 : ((e : Int) % 281474976710656) = ((eC e : Nat) : Int) := by unfold eC; omega
  rw [h2] at h
  exact h

set_option maxHeartbeats 400000 in
theorem refNext_arg (e n : Nat) (h : ¬ (1 ≤ n ∧ n < 281474976710656)) (w : World) :
    Calls Tryd.prog 73 #[.int .u64 e, .int .u64 n] w fun x w' => x = .returned (.tuple #[.int .u64 0, .int .i64 2]) ∧ w = w' := by
  obtain ⟨y, hy⟩ : ∃ y : Int, (n : Int) = y := ⟨_, rfl⟩
  rw [hy]
  by_cases h1 : y < 1
  · clear h hy
    go_enter Tryd.func73, Tryd.ntmps73
    go_wp2
    go_ret2
    exact ⟨rfl, rfl⟩
  · have h2 : 281474976710655 < y := by omega
    have h3 : 1 ≤ y := by omega
    clear h hy h1
    go_enter Tryd.func73, Tryd.ntmps73
    go_wp2
    go_ret2
    exact ⟨rfl, rfl⟩

set_option maxHeartbeats 400000 in
theorem refNext_full (e n : Nat) (he : e < 18446744073709551616) (h0 : 1 ≤ n) (h1 : n < 281474976710656) (h : n ≤ eC e) (w : World) :
    Calls Tryd.prog 73 #[.int .u64 e, .int .u64 n] w fun x w' => x = .returned (.tuple #[.int .u64 0, .int .i64 130]) ∧ w = w' := by
  have HK := Lib.hid (refParts_any e he)
  obtain ⟨a, c, ha, hc⟩ := gets e
  obtain ⟨y, hy⟩ : ∃ y : Int, (n : Int) = y := ⟨_, rfl⟩
  rw [← ha, ← hc] at HK
  rw [hy]
  have g0 : 1 ≤ y := by omega
  have g1 : y ≤ 281474976710655 := by omega
  have g2 : y ≤ c := by omega
  clear ha hc hy h0 h1 h he
  go_enter Tryd.func73, Tryd.ntmps73
  go_wp2_with (go_at_call 68; refine (HK.out _).mono ?_; rintro e w1 ⟨rfl, rfl⟩)
  go_ret2
  exact ⟨rfl, rfl⟩

set_option maxHeartbeats 400000 in
theorem refNext_yes (e n : Nat) (he : e < 18446744073709551616) (h0 : 1 ≤ n) (h1 : n < 281474976710656) (h : eC e < n) (w : World) :
    Calls Tryd.prog 73 #[.int .u64 e, .int .u64 n] w fun x w' => x = .returned (.tuple #[.int .u64 (e + 1 : Nat), .int .i64 0]) ∧ w = w' := by
  have HK := Lib.hid (refParts_any e he)
  have hlt : e + 1 < 18446744073709551616 := by unfold eC at h; omega
  obtain ⟨a, c, ha, hc⟩ := gets e
  obtain ⟨y, hy⟩ : ∃ y : Int, (n : Int) = y := ⟨_, rfl⟩
  obtain ⟨x, hx⟩ : ∃ x : Int, (e : Int) = x := ⟨_, rfl⟩
  obtain ⟨z, hz⟩ : ∃ z : Int, ((e + 1 : Nat) : Int) = z := ⟨_, rfl⟩
  have hw : IntKind.u64.wrap (x + 1) = z := by rw [IntKind.wrap_u64]; omega
  rw [← ha, ← hc, hx] at HK
  rw [hy, hx, hz]
  have g0 : 1 ≤ y := by omega
  have g1 : y ≤ 281474976710655 := by omega
  have g2 : c < y := by omega
  clear ha hc hy h0 h1 h he hx hz hlt
  go_enter Tryd.func73, Tryd.ntmps73
  go_wp2_with (go_at_call 68; refine (HK.out _).mono ?_; rintro e w1 ⟨rfl, rfl⟩)
  go_ret2
  exact ⟨rfl, rfl⟩

end Go.Proofs.YtcimppggemdidaaDoor
