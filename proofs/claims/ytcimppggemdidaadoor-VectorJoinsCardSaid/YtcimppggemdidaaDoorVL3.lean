/- The law VectorHolds: what it rests on. -/
import Derived.Test.YtcimppggemdidaaDoorVL2
namespace Go.Proofs.YtcimppggemdidaaDoor
open Go Go.RowKit

theorem listsW_2 {n : Nat} (w : World) (u v : Value) (a b : List UInt64) (hu : Words n w u a) (hv : Words n w v b) : ListsW (w.heap.size + 1) (w.alloc (.cells #[u, v] 48)) (.slice (some ⟨w.heap.size, 0, none⟩) 2 2) [a, b] := by
  refine ⟨_, 2, rfl, by simp, by simp [maxLen], fun _ => ⟨w.heap.size, 0, rfl, by omega, fun i hi => ?_⟩⟩
  have e : ∀ {y : Value} {l : List UInt64}, Words n w y l → Words (w.heap.size + 1) (w.alloc (.cells #[u, v] 48)) y l := fun h => (h.here.below (Adds.new _ _)).mono (by omega)
  match i, hi with
  | 0, _ => exact ⟨u, by simp, e hu⟩
  | 1, _ => exact ⟨v, by simp, e hv⟩
/-- The array that comes in, boxed: as a slice. -/
theorem listsW_arr {n : Nat} (w : World) (u v x : Value) (a b c : List UInt64) (hu : Words n w u a) (hv : Words n w v b) (hx : Words n w x c) : ListsW (w.heap.size + 1) (w.alloc (.cells #[u, v, x] 67)) (.slice (some ⟨w.heap.size, 0, none⟩) 3 3) [a, b, c] := by
  refine ⟨_, 3, rfl, by simp, by simp [maxLen], fun _ => ⟨w.heap.size, 0, rfl, by omega, fun i hi => ?_⟩⟩
  have e : ∀ {y : Value} {l : List UInt64}, Words n w y l → Words (w.heap.size + 1) (w.alloc (.cells #[u, v, x] 67)) y l := fun h => (h.here.below (Adds.new _ _)).mono (by omega)
  match i, hi with
  | 0, _ => exact ⟨u, by simp, e hu⟩
  | 1, _ => exact ⟨v, by simp, e hv⟩
  | 2, _ => exact ⟨x, by simp, e hx⟩

theorem gD_join2 (a b : List UInt64) (k : Nat) : gD (vJoin [a, b]) k = mx (gD a k) (gD b k) := by
  show gD (vTake (vTake [] a) b) k = _
  rw [gD_vTake, gD_vTake, gD_nil, zero_mx]
theorem join_up1 (a b : List UInt64) : upB a (vJoin [a, b]) = true := (upB_iff _ _).2 fun k => by rw [gD_join2, mx_toNat]; omega
theorem join_up2 (a b : List UInt64) : upB b (vJoin [a, b]) = true := (upB_iff _ _).2 fun k => by rw [gD_join2, mx_toNat]; omega
theorem join_least {a b c : List UInt64} (h : upB a c = true) (k : upB b c = true) : upB (vJoin [a, b]) c = true := (upB_iff _ _).2 fun i => by
  rw [gD_join2, mx_toNat]
  have h1 := (upB_iff _ _).1 h i
  have h2 := (upB_iff _ _).1 k i
  omega
theorem join_again (a b : List UInt64) : standI (vJoin [a, b]) (vJoin [b, a, vJoin [a, b]]) = 1 := by
  have e : ∀ k, (gD (vJoin [b, a, vJoin [a, b]]) k).toNat = (gD (vJoin [a, b]) k).toNat := fun k => by
    show (gD (vTake (vTake (vTake [] b) a) (vJoin [a, b])) k).toNat = _
    rw [gD_vTake, gD_vTake, gD_vTake, gD_nil, zero_mx, gD_join2, mx_toNat, mx_toNat, mx_toNat]
    omega
  unfold standI
  rw [if_pos ((upB_iff _ _).2 fun k => by rw [e]; exact Nat.le_refl _), if_pos ((upB_iff _ _).2 fun k => by rw [e]; exact Nat.le_refl _)]
theorem join2_length (a b : List UInt64) (n : Nat) (ha : a.length ≤ n) (hb : b.length ≤ n) : (vJoin [a, b]).length ≤ n :=
  foldTake_length [a, b] [] n (by simp) (by intro c hc; simp at hc; rcases hc with rfl | rfl <;> assumption)

set_option maxHeartbeats 800000 in
theorem lawUpTo_any {n : Nat} (va vb : Value) (a b : List UInt64) (z : Bool) (hz : upB a b = z) (w : World) (ha : Words n w va a) (hb : Words n w vb b) (hw : How w) :
    Calls Tryd.prog 44 #[va, vb] w fun e w' => e = .returned (.bool z) ∧ Adds w w' := by
  have HS := Lib.hid (stands_any va vb a b w ha hb hw); clear ha hb hw
  unfold standI at HS
  rw [hz] at HS
  clear hz
  obtain ⟨y, hy⟩ : ∃ y, upB b a = y := ⟨_, rfl⟩
  rw [hy] at HS
  clear hy
  cases z <;> cases y
  all_goals
    go_enter Tryd.func44, Tryd.ntmps44
    go_wp2_with (go_at_call 41; refine HS.out.mono ?_; rintro e w1 ⟨rfl, a1⟩; have A1 := Lib.hid a1; clear a1)
    go_ret
    exact ⟨rfl, A1.out⟩

/-- What a tick gives. -/
structure Ticked (a t : List UInt64) (i : Nat) (x : Nat) : Prop where
  ep : epV t i x 0
  before : standI a t = 2
  has : hasB t x = true
  not : hasB a x = false
  lt : x < 18446744073709551616
theorem tick_holds {a : List UInt64} {i : Nat} (h : TickYes a i 281474976710655 i) (ha : a.length ≤ 65536) : Ticked a (vTickL a i) i (epN i ((gD a i).toNat + 1)) := by
  have hg := h.hg
  have h3 := h.h3
  have hi := h.hi
  have hgd : ∀ k, (gD (vTickL a i) k).toNat = if k = i then (gD a i).toNat + 1 else (gD a k).toNat := fun k => by
    rw [gD_tick hg]
    split
    · exact up_toNat hg
    · rfl
  have hr : rightB (vTickL a i) = true := by
    unfold rightB clkB
    rw [Bool.and_eq_true, List.all_eq_true]
    refine ⟨decide_eq_true ?_, fun k _ => decide_eq_true ?_⟩
    · rw [vTickL_eq hg, List.length_set, reach_length, len_trim]
      have := tN_le a
      omega
    · rw [hgd]
      have := clk_lt h.hr k
      split <;> omega
  have hii : (gD (vTickL a i) i).toNat = (gD a i).toNat + 1 := by rw [hgd, if_pos rfl]
  refine ⟨.inl ⟨i, rfl, hi, hr, by rw [hii]; omega, by rw [hii], rfl⟩, ?_, ?_, ?_, epN_lt hi (by omega)⟩
  · unfold standI
    have h1 : upB a (vTickL a i) = true := (upB_iff _ _).2 fun k => by
      rw [hgd]
      split
      · rename_i e; subst e; omega
      · exact Nat.le_refl _
    have h2 : upB (vTickL a i) a = false := by
      cases hu : upB (vTickL a i) a with
      | false => rfl
      | true =>
        have := (upB_iff _ _).1 hu i
        rw [hii] at this
        omega
    rw [h1, h2]
    rfl
  · unfold hasB
    rw [eI_epN (by omega), eC_epN (by omega), hii]
    simp
  · unfold hasB
    rw [eI_epN (by omega), eC_epN (by omega)]
    simp
theorem few_three {a b c : List UInt64} (ha : a.length ≤ 40) (hb : b.length ≤ 40) (hc : c.length ≤ 40) : fewB [a, b, c] = true := by simp [fewB, ha, hb, hc]
theorem few_three_not {a b c : List UInt64} (h : ¬ (a.length ≤ 40 ∧ b.length ≤ 40 ∧ c.length ≤ 40)) : fewB [a, b, c] = false := by
  cases hf : fewB [a, b, c] with
  | false => rfl
  | true => simp [fewB] at hf; exact absurd hf h
end Go.Proofs.YtcimppggemdidaaDoor
