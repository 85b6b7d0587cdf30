/- The document's answers, at whatever kind: Do, Signed, Fold. -/
import Derived.Test.YtooocgnjefbnkaaAR
namespace Go.Proofs.Ytooocgnjefbnkaa
open Go Go.RowKit

set_option maxRecDepth 100000 in
theorem refNot_any (x : Int) (a b : Nat) (ha : a < 4294967296) (hb : b < 4294967296) (hk : ¬ (1 ≤ x ∧ x ≤ 12)) (w : World) :
    Calls Try.prog 7 #[.int .i64 x, .int .u32 a, .int .u32 b] w (RefPost 0 2 w) := by
  by_cases h : x < 1
  · clear hk
    go_enter Try.func7, Try.ntmps7
    go_wp2
    go_ret2
    exact ⟨rfl, rfl⟩
  · have h2 : (12 : Int) < x := by omega
    clear hk
    go_enter Try.func7, Try.ntmps7
    go_wp2
    go_ret2
    exact ⟨rfl, rfl⟩
set_option maxRecDepth 100000 in
theorem refZero_any (x : Int) (a : Nat) (ha : a < 4294967296) (hk : x = 4 ∨ x = 5) (w : World) :
    Calls Try.prog 7 #[.int .i64 x, .int .u32 a, .int .u32 0] w (RefPost 0 150 w) := by
  rcases hk with rfl | rfl
  all_goals
    go_enter Try.func7, Try.ntmps7
    go_wp2
    go_ret2
    exact ⟨rfl, rfl⟩
theorem refDo_any (x : Int) (a b : Nat) (ha : a < 4294967296) (hb : b < 4294967296) (w : World) :
    Calls Try.prog 7 #[.int .i64 x, .int .u32 a, .int .u32 b] w (RefPost (doX x a b).1 (doX x a b).2 w) := by
  by_cases hk : 1 ≤ x ∧ x ≤ 12
  · obtain ⟨k, rfl⟩ : ∃ k : Nat, x = k := ⟨x.toNat, by omega⟩
    have h1 : 1 ≤ k := by omega
    have h12 : k ≤ 12 := by omega
    cases hz : byNone k b with
    | true =>
      have e : doX (k : Int) a b = (0, 150) := by simp [doX, hk, hz]
      rw [e]
      unfold byNone at hz
      simp at hz
      obtain ⟨rfl, h45⟩ := hz
      exact refZero_any (k : Int) a ha (by omega) w
    | false =>
      have e : doX (k : Int) a b = (doN k a b, 0) := by simp [doX, hk, hz]
      rw [e]
      match k, h1, h12 with
      | 1, _, _ => exact ref1_any a b ha hb w
      | 2, _, _ => exact ref2_any a b ha hb w
      | 3, _, _ => exact ref3_any a b ha hb w
      | 4, _, _ => exact ref4_any a b ha hb (by rintro rfl; simp [byNone] at hz) w
      | 5, _, _ => exact ref5_any a b ha hb (by rintro rfl; simp [byNone] at hz) w
      | 6, _, _ => exact ref6_any a b ha hb w
      | 7, _, _ => exact ref7_any a b ha hb w
      | 8, _, _ => exact ref8_any a b ha hb w
      | 9, _, _ => exact ref9_any a b ha hb w
      | 10, _, _ => exact ref10_any a b ha hb w
      | 11, _, _ => exact ref11_any a b ha hb w
      | 12, _, _ => exact ref12_any a b ha hb w
  · have e : doX x a b = (0, 2) := by simp [doX, hk]
    rw [e]
    exact refNot_any x a b ha hb hk w
set_option maxRecDepth 100000 in
theorem refSigned_any (n : Nat) (hn : n < 4294967296) (w : World) :
    Calls Try.prog 10 #[.int .u32 n] w fun e w' => e = .returned (.int .i64 (signN n)) ∧ w = w' := by
  unfold signN
  by_cases h : n < 2147483648
  · rw [if_pos h]
    have h' : (n : Int) < 2147483648 := by omega
    obtain ⟨z, hz⟩ : ∃ z : Int, (n : Int) = z := ⟨_, rfl⟩
    have h0 : 0 ≤ z := by omega
    rw [hz] at h' ⊢
    clear hz h hn
    go_enter Try.func10, Try.ntmps10
    go_wp2
    go_ret
    exact ⟨rfl, rfl⟩
  · rw [if_neg h]
    have h' : ¬ (n : Int) < 2147483648 := by omega
    obtain ⟨z, hz⟩ : ∃ z : Int, (n : Int) = z := ⟨_, rfl⟩
    have h1 : z < 4294967296 := by omega
    rw [hz] at h' ⊢
    clear hz h hn
    go_enter Try.func10, Try.ntmps10
    go_wp2
    go_ret
    exact ⟨rfl, rfl⟩

def RefFoldPost (r : Nat × Nat × Int) (w : World) (e : Ending) (w' : World) : Prop := e = .returned (.tuple #[.int .u32 r.1, .int .i64 r.2.1, .int .i64 r.2.2]) ∧ w = w'
set_option maxRecDepth 100000 in
theorem refFold_any (x : Int) (a : Nat) (ha : a < 4294967296) {n : Nat} (v : Value) (l : List UInt32) (w : World) (hv : Cells32 n w v l) :
    Calls Try.prog 13 #[.int .i64 x, .int .u32 a, v] w (RefFoldPost (foldX x a l) w) := by
  obtain ⟨ao, cap, rfl, hc1, hc2, hh3⟩ := hv
  have HC3 := Lib.hid hh3; clear hh3
  unfold maxLen at hc2
  unfold foldX
  by_cases hk : 1 ≤ x ∧ x ≤ 12
  · rw [if_pos hk]
    obtain ⟨k, rfl⟩ : ∃ k : Nat, x = k := ⟨x.toNat, by omega⟩
    have hx1 : ¬ (k : Int) < 1 := by omega
    have hx2 : ¬ (12 : Int) < (k : Int) := by omega
    have HD := Lib.hid (fun so b (h1 : so < 4294967296) (h2 : b < 4294967296) W => refDo_any (k : Int) so b h1 h2 W)
    have HE := Lib.hid (fun so b => show doX (k : Int) so b = if byNone k b then (0, 150) else (doN k so b, 0) by simp [doX, hk])
    rw [show ((k : Int)).toNat = k by omega]
    have HS := Lib.hid (SoFar.start k a l ha)
    clear ha hk
    go_enter Try.func13, Try.ntmps13
    go_wp2_with fail
    go_loop [1, 9, 10, 11] (fun s i _ _ => ∃ m so : Nat, s = .int .u32 so ∧ i = .int .i64 m ∧ SoFar k a l m so) (fun _ i _ _ => l.length - (intOf i).toNat)
    case atStart => exact ⟨0, a, rfl, rfl, HS.out⟩
    case round =>
      obtain ⟨m, so, rfl, rfl, hso⟩ := hrel
      have HSO := Lib.hid hso
      have hso32 := hso.2.1
      clear hso
      by_cases hlt : m < l.length
      · obtain ⟨b1, off, rfl, _, hcs⟩ := HC3.out (by rintro rfl; simp at hlt)
        have hcell := hcs m hlt
        unfold cellV at hcell
        clear hcs
        have HN := Lib.hid (fun hz => HSO.out.next hlt hz)
        have HR := Lib.hid (fun hz => HSO.out.refused hlt hz)
        have hx32 := (l.getD m 0).toNat_lt
        obtain ⟨x, hx⟩ : ∃ x, (l.getD m 0).toNat = x := ⟨_, rfl⟩
        rw [hx] at HN HR hcell hx32
        clear hx
        have HC := Lib.hid (fun W => HD.out so x hso32 hx32 W)
        rw [HE.out so x] at HC
        unfold RefPost at HC
        cases hz : byNone k x with
        | true =>
          rw [hz] at HC
          go_wp2_with (go_at_call 7; refine (HC.out _).mono ?_; rintro e w' ⟨rfl, rfl⟩)
          go_ret3
          exact ⟨by rw [HR.out hz]; rfl, rfl⟩
        | false =>
          rw [hz] at HC
          go_wp2_with (go_at_call 7; refine (HC.out _).mono ?_; rintro e w' ⟨rfl, rfl⟩)
          go_round
          case rel => exact ⟨m + 1, doN k so x, rfl, by go_num, HN.out hz⟩
          case measure => simp [intOf]; omega
      · have HD := Lib.hid (HSO.out.done hlt)
        go_wp2_with fail
        go_ret3
        exact ⟨by rw [HD.out]; rfl, rfl⟩
  · rw [if_neg hk]
    clear HC3
    by_cases h : x < 1
    · clear hk
      go_enter Try.func13, Try.ntmps13
      go_wp2
      go_ret3
      exact ⟨rfl, rfl⟩
    · have h2 : (12 : Int) < x := by omega
      clear hk
      go_enter Try.func13, Try.ntmps13
      go_wp2
      go_ret3
      exact ⟨rfl, rfl⟩
end Go.Proofs.Ytooocgnjefbnkaa
