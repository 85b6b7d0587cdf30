/- Contracts: the reference's Trim; Epoch, of the program and of the reference. -/
import Derived.Test.YtcimppggemdidaaDoorVR1
namespace Go.Proofs.YtcimppggemdidaaDoor
open Go Go.RowKit

theorem words_pre {n : Nat} {w : World} {ao : Option Addr} {cap x : Nat} {l : List UInt64} (h : Words n w (.slice ao l.length cap) l) (hx : x ≤ l.length) : Words n w (.slice ao x cap) (l.take x) := by
  obtain ⟨ao', cap', e, h1, h2, h3⟩ := h
  cases e
  have hl : (l.take x).length = x := by rw [List.length_take]; omega
  refine ⟨_, _, by rw [hl], by rw [hl]; omega, h2, fun hne => ?_⟩
  obtain ⟨b, off, e, hb, hc⟩ := h3 (by rintro rfl; simp at hne)
  refine ⟨b, off, e, hb, fun i hi => ?_⟩
  rw [hl] at hi
  rw [hc i (by omega)]
  simp [List.getD_eq_getElem?_getD, hi]

set_option maxRecDepth 100000 in
set_option maxHeartbeats 800000 in
theorem refTrim_any {n : Nat} (v : Value) (l : List UInt64) (w : World) (hv : Words n w v l) (hl : l.length ≤ 200000) :
    Calls Tryd.prog 32 #[v] w fun e w' => ∃ v', e = .returned v' ∧ OwnW w' w.heap.size v' (vTrim l) ∧ Adds w w' := by
  have HV := Lib.hid hv
  obtain ⟨ao, cap, rfl, h1, h2, _⟩ := hv
  unfold maxLen at h2
  go_enter Tryd.func32, Tryd.ntmps32
  go_wp2
  go_loop [3] (fun i => ∃ k : Nat, k ≤ l.length ∧ i = .int .i64 k ∧ ∀ j, k ≤ j → gD l j = 0) (fun i => (intOf i).toNat)
  case atStart => exact ⟨l.length, Nat.le_refl _, rfl, fun j hj => gD_ge hj⟩
  case round =>
    obtain ⟨k, hk, rfl, hz⟩ := hrel
    have HZ := Lib.hid hz; clear hz
    by_cases hk0 : k = 0
    · subst hk0
      have e : vTrim l = l.take 0 := by unfold vTrim; rw [tN_eq (m := 0) (fun i hi => HZ.out i hi) (by omega)]
      have HE := Lib.hid e; clear e
      have HP := Lib.hid (words_pre HV.out (Nat.zero_le _))
      go_wp2_with (at_builtin; refine wp_append_w rfl _ _ 48 rfl Tryd.underlying48 w.heap.size (.slice none 0 0) [] rfl (World.ownsRow_nil _ _ _ _) _ (l.take 0) n rfl (by exact HP.out) (by simp) (Nat.le_refl _) ?_; intro v' w' o1 g1; have O1 := Lib.hid o1; have G1 := Lib.hid g1; clear o1 g1)
      go_ret
      exact ⟨_, rfl, by rw [HE.out]; exact O1.out, (Below.refl _ w).grown G1.out (Nat.le_refl _) (fun j hj => by cases hj)⟩
    · obtain ⟨m, hm⟩ : ∃ m, m + 1 = k := ⟨k - 1, by omega⟩
      obtain ⟨b, off, rfl, hc⟩ := word_cell HV.out m (by omega)
      have hix : (k : Int) - 1 = (m : Int) := by omega
      have hkp : (0 : Int) < (k : Int) := by omega
      have hml : m < l.length := by omega
      by_cases h0 : gD l m = 0
      · rw [h0] at hc
        have hc' : w.cell? ⟨b, off + m, none⟩ = some (.int .u64 0) := hc
        clear hc
        have HM := Lib.hid hm; clear hm
        have HKL := Lib.hid hk; clear hk
        go_wp2
        go_round
        case rel =>
          have hm := HM.out
          have hk := HKL.out
          refine ⟨m, by omega, by go_num, fun j hj => ?_⟩
          rcases Nat.lt_or_ge m j with h | h
          · exact HZ.out j (by omega)
          · rw [show j = m by omega]; exact h0
        case measure =>
          have hm := HM.out
          simp [intOf]; omega
      · obtain ⟨y, hy⟩ : ∃ y : Int, (((gD l m).toNat : Nat) : Int) = y := ⟨_, rfl⟩
        have hy0 : y ≠ 0 := by
          intro h
          apply h0
          apply UInt64.toNat_inj.1
          rw [h] at hy
          simpa using hy
        rw [hy] at hc
        clear hy
        have e : vTrim l = l.take k := by unfold vTrim; rw [tN_eq (m := k) (fun i hi => HZ.out i hi) (fun _ => by rw [show k - 1 = m by omega]; exact h0)]
        have HE := Lib.hid e; clear e
        have HP := Lib.hid (words_pre HV.out hk)
        have HM := Lib.hid hm; clear hm
        have hkc : k ≤ cap := by omega
        go_wp2_with (at_builtin; refine wp_append_w rfl _ _ 48 rfl Tryd.underlying48 w.heap.size (.slice none 0 0) [] rfl (World.ownsRow_nil _ _ _ _) _ (l.take k) n rfl (by exact HP.out) (by simp; omega) (Nat.le_refl _) ?_; intro v' w' o1 g1; have O1 := Lib.hid o1; have G1 := Lib.hid g1; clear o1 g1)
        go_ret
        exact ⟨_, rfl, by rw [HE.out]; exact O1.out, (Below.refl _ w).grown G1.out (Nat.le_refl _) (fun j hj => by cases hj)⟩

/-- Epoch, in one: the epoch, or none. -/
def epV (c : List UInt64) (x y z : Int) : Prop := (∃ i : Nat, x = i ∧ i < 65536 ∧ rightB c = true ∧ (gD c i).toNat < 281474976710656 ∧ y = ((epN i (gD c i).toNat : Nat) : Int) ∧ z = 0) ∨ (¬ (0 ≤ x ∧ x ≤ 65535 ∧ rightB c = true) ∧ y = 0 ∧ z = 2)
theorem clk_lt {c : List UInt64} (h : rightB c = true) (i : Nat) : (gD c i).toNat < 281474976710656 := by
  unfold rightB clkB at h
  rw [Bool.and_eq_true, List.all_eq_true] at h
  by_cases hi : i < c.length
  · have := of_decide_eq_true (h.2 i (List.mem_range.2 hi)); omega
  · rw [gD_ge (by omega)]; decide
theorem epV_ex (c : List UInt64) (x : Int) : ∃ y z, epV c x y z := by
  by_cases h : 0 ≤ x ∧ x ≤ 65535 ∧ rightB c = true
  · exact ⟨_, _, .inl ⟨x.toNat, by omega, by omega, h.2.2, clk_lt h.2.2 _, rfl, rfl⟩⟩
  · exact ⟨_, _, .inr ⟨h, rfl, rfl⟩⟩

set_option maxHeartbeats 1000000 in
theorem refEpoch_any {n : Nat} (v : Value) (c : List UInt64) (x y z : Int) (hx : (Lit.int .i64 x).wf = true) (h : epV c x y z) (w : World) (hv : Words n w v c) :
    Calls Tryd.prog 26 #[v, .int .i64 x] w fun e w' => e = .returned (.tuple #[.int .u64 y, .int .i64 z]) ∧ w = w' := by
  have HR := Lib.hid (refRight_any v c w hv)
  have HG := Lib.hid (refGet_any v c x w hv)
  clear hv
  rcases h with ⟨i, rfl, hi, hr, hlt, rfl, rfl⟩ | ⟨hn, rfl, rfl⟩
  · have HP := Lib.hid (refPack_yes i (gD c i).toNat hi hlt w)
    rw [gI_nat] at HG
    rw [hr] at HR
    obtain ⟨g, hg⟩ : ∃ g : Int, (((gD c i).toNat : Nat) : Int) = g := ⟨_, rfl⟩
    obtain ⟨y, hy⟩ : ∃ y : Int, ((epN i (gD c i).toNat : Nat) : Int) = y := ⟨_, rfl⟩
    rw [hg] at HG HP
    rw [hy] at HP ⊢
    clear hg hy hr hlt hx
    have h0 : ¬ ((i : Int) < 0) := by omega
    have h1 : ¬ ((65535 : Int) < (i : Int)) := by omega
    go_enter Tryd.func26, Tryd.ntmps26
    go_wp2_with (first
      | (go_at_call 29; refine HR.out.mono ?_; rintro e w' ⟨rfl, rfl⟩)
      | (go_at_call 34; refine HG.out.mono ?_; rintro e w' ⟨rfl, rfl⟩)
      | (go_at_call 60; refine HP.out.mono ?_; rintro e w' ⟨rfl, rfl⟩))
    go_ret2
    exact ⟨rfl, rfl⟩
  · clear HG
    obtain ⟨r, hr⟩ : ∃ r, rightB c = r := ⟨_, rfl⟩
    rw [hr] at HR hn
    clear hr
    cases r with
    | false =>
      go_enter Tryd.func26, Tryd.ntmps26
      go_wp2_with (go_at_call 29; refine HR.out.mono ?_; rintro e w' ⟨rfl, rfl⟩)
      go_ret2
      exact ⟨rfl, rfl⟩
    | true =>
      by_cases h0 : x < 0
      · go_enter Tryd.func26, Tryd.ntmps26
        go_wp2_with (go_at_call 29; refine HR.out.mono ?_; rintro e w' ⟨rfl, rfl⟩)
        go_ret2
        exact ⟨rfl, rfl⟩
      · have h1 : (65535 : Int) < x := by
          apply Classical.byContradiction
          intro h1
          exact hn ⟨by omega, by omega, rfl⟩
        clear hn
        go_enter Tryd.func26, Tryd.ntmps26
        go_wp2_with (go_at_call 29; refine HR.out.mono ?_; rintro e w' ⟨rfl, rfl⟩)
        go_ret2
        exact ⟨rfl, rfl⟩

set_option maxHeartbeats 1000000 in
theorem vEpoch_any {n : Nat} (v : Value) (c : List UInt64) (x y z : Int) (hx : (Lit.int .i64 x).wf = true) (h : epV c x y z) (w : World) (hv : Words n w v c) :
    Calls Tryd.prog 25 #[v, .int .i64 x] w fun e w' => e = .returned (.tuple #[.int .u64 y, .int .i64 z]) ∧ Adds w w' := by
  have HC := Lib.hid (check_any v c w hv)
  have HG := Lib.hid (fun W (h : Adds w W) => vget_any v c x W (hv.here.adds h))
  clear hv
  obtain ⟨r, hr⟩ : ∃ r, rightB c = r := ⟨_, rfl⟩
  rw [hr] at HC
  cases r with
  | false =>
    have hyz : y = 0 ∧ z = 2 := by
      rcases h with ⟨i, _, _, hr', _⟩ | ⟨_, h1, h2⟩
      · rw [hr] at hr'; cases hr'
      · exact ⟨h1, h2⟩
    obtain ⟨rfl, rfl⟩ := hyz
    clear h hr HG
    go_enter Tryd.func25, Tryd.ntmps25
    go_wp2
    refine wp_scope_fwd 0 rfl ?_
    go_wp2_with (go_at_call 28; refine HC.out.mono ?_; rintro e w1 ⟨rfl, a1⟩; have A1 := Lib.hid a1; clear a1)
    go_step3
    refine ⟨rfl, ?_⟩
    go_wp2
    rw [Exit.noGoto_ret]
    go_ret2
    exact ⟨rfl, A1.out⟩
  | true =>
    have HP : Hid (∀ W, Calls Tryd.prog 61 #[.int .i64 x, .int .u64 (gI c x : Nat)] W fun e w' => e = .returned (.tuple #[.int .u64 y, .int .i64 z]) ∧ Below W.heap.size W w') := Lib.hid fun W => by
      rcases h with ⟨i, rfl, hi, _, hlt, rfl, rfl⟩ | ⟨hn, rfl, rfl⟩
      · rw [gI_nat]
        exact pack_yes i _ hi hlt W
      · exact pack_no x (gI c x) hx (fun h => hn ⟨h.1, h.2.1, hr⟩) W
    obtain ⟨g, hg⟩ : ∃ g : Int, ((gI c x : Nat) : Int) = g := ⟨_, rfl⟩
    rw [hg] at HG HP
    clear h hr hg
    go_enter Tryd.func25, Tryd.ntmps25
    go_wp2
    refine wp_scope_fwd 0 rfl ?_
    go_wp2_with (first
      | (go_at_call 28; refine HC.out.mono ?_; rintro e w1 ⟨rfl, a1⟩; have A1 := Lib.hid a1; clear a1)
      | (go_at_call 33; refine (HG.out _ A1.out).mono ?_; rintro e w' ⟨rfl, rfl⟩)
      | (go_at_call 61; refine (HP.out _).mono ?_; rintro e w2 ⟨rfl, a2⟩; have A2 := Lib.hid (show Adds w1 w2 from a2); clear a2))
    simp only [Exit.jump]
    go_ret2
    exact ⟨rfl, A1.out.trans A2.out⟩
end Go.Proofs.YtcimppggemdidaaDoor
