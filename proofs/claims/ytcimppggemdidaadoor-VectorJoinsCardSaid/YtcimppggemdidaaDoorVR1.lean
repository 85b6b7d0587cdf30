/- Contracts of the vector reference: Right, Get, Trim, Has, UpTo, Same, Stands, Equal, Epoch; Epoch of the program. -/
import Derived.BigQuiet
import Derived.Deep.QuietTactic
import Derived.Test.YtcimppggemdidaaDoorVF2
import Derived.Test.YtcimppggemdidaaDoorKRefN
namespace Go.Proofs.YtcimppggemdidaaDoor
open Go Go.RowKit

set_option maxHeartbeats 800000 in
theorem refRight_any {n : Nat} (v : Value) (c : List UInt64) (w : World) (hv : Words n w v c) :
    Calls Tryd.prog 29 #[v] w fun e w' => e = .returned (.bool (rightB c)) ∧ w = w' := by
  have HV := Lib.hid hv
  obtain ⟨ao, cap, rfl, h1, h2, _⟩ := hv
  unfold maxLen at h2
  go_enter Tryd.func29, Tryd.ntmps29
  go_wp2
  go_loop [3] (fun i => ∃ k : Nat, k ≤ c.length ∧ i = .int .i64 k ∧ ∀ j, j < k → (gD c j).toNat ≤ 281474976710655) (fun i => c.length - (intOf i).toNat)
  case atStart => exact ⟨0, Nat.zero_le _, rfl, fun j hj => by omega⟩
  case round =>
    obtain ⟨k, hk, rfl, hz⟩ := hrel
    have HZ := Lib.hid hz; clear hz
    by_cases hlt : k < c.length
    · obtain ⟨b, off, rfl, hc⟩ := word_cell HV.out k hlt
      obtain ⟨y, hy⟩ : ∃ y : Nat, (gD c k).toNat = y := ⟨_, rfl⟩
      rw [hy] at hc
      have HY := Lib.hid hy; clear hy
      by_cases hyl : y ≤ 281474976710655
      · go_wp2
        go_round
        case rel =>
          refine ⟨k + 1, by omega, by go_num, fun j hj => ?_⟩
          rcases Nat.lt_or_ge j k with h | h
          · exact HZ.out j h
          · rw [show j = k by omega, HY.out]; exact hyl
        case measure => simp [intOf]; omega
      · have e : rightB c = false := by
          unfold rightB clkB
          rw [Bool.and_eq_false_iff]
          right
          rw [List.all_eq_false]
          exact ⟨k, List.mem_range.2 hlt, by rw [HY.out]; simpa using hyl⟩
        have HE := Lib.hid e; clear e
        go_wp2
        go_ret
        exact ⟨by rw [HE.out]; rfl, rfl⟩
    · have e : rightB c = decide ((c.length : Int) ≤ 65536) := by
        unfold rightB clkB
        have : ((List.range c.length).all fun i => decide ((gD c i).toNat ≤ 281474976710655)) = true := by
          rw [List.all_eq_true]
          intro i hi
          exact decide_eq_true (HZ.out i (by have := List.mem_range.1 hi; omega))
        rw [this, Bool.and_true, decide_eq_decide]
        omega
      have HE := Lib.hid e; clear e
      go_wp2
      go_ret
      exact ⟨by rw [HE.out]; rfl, rfl⟩

set_option maxHeartbeats 400000 in
theorem refGet_any {n : Nat} (v : Value) (l : List UInt64) (x : Int) (w : World) (hv : Words n w v l) :
    Calls Tryd.prog 34 #[v, .int .i64 x] w fun e w' => e = .returned (.int .u64 (gI l x : Nat)) ∧ w = w' := by
  have HV := Lib.hid hv
  obtain ⟨ao, cap, rfl, h1, h2, _⟩ := hv
  unfold maxLen at h2
  by_cases h0 : x < 0
  · rw [gI_out (by omega)]
    go_enter Tryd.func34, Tryd.ntmps34
    go_wp2
    go_ret
    exact ⟨rfl, rfl⟩
  · by_cases hlt : x < l.length
    · obtain ⟨i, rfl⟩ : ∃ i : Nat, x = i := ⟨x.toNat, by omega⟩
      rw [gI_nat]
      obtain ⟨b, off, rfl, hc⟩ := word_cell HV.out i (by omega)
      obtain ⟨y, hy⟩ : ∃ y : Int, (((gD l i).toNat : Nat) : Int) = y := ⟨_, rfl⟩
      rw [hy] at hc ⊢
      clear hy
      go_enter Tryd.func34, Tryd.ntmps34
      go_wp2
      go_ret
      exact ⟨rfl, rfl⟩
    · rw [gI_out (by omega)]
      go_enter Tryd.func34, Tryd.ntmps34
      go_wp2
      go_ret
      exact ⟨rfl, rfl⟩

set_option maxHeartbeats 400000 in
theorem refHas_any {n : Nat} (v : Value) (c : List UInt64) (x : Nat) (hx : x < 18446744073709551616) (w : World) (hv : Words n w v c) :
    Calls Tryd.prog 36 #[v, .int .u64 x] w fun e w' => e = .returned (.bool (hasB c x)) ∧ w = w' := by
  have HP := Lib.hid (refParts_any x hx w)
  have HG := Lib.hid (refGet_any v c ((eI x : Nat) : Int) w hv); clear hv
  rw [gI_nat] at HG
  obtain ⟨a, b, ha, hb⟩ := gets x
  obtain ⟨y, hy⟩ : ∃ y : Int, (((gD c (eI x)).toNat : Nat) : Int) = y := ⟨_, rfl⟩
  have HZ := Lib.hid (show decide (b ≤ y) = hasB c x by unfold hasB; rw [decide_eq_decide]; omega)
  rw [← ha, ← hb] at HP
  rw [← ha, hy] at HG
  clear ha hb hx hy
  go_enter Tryd.func36, Tryd.ntmps36
  go_wp2_with (first
    | (go_at_call 68; refine HP.out.mono ?_; rintro e w' ⟨rfl, rfl⟩)
    | (go_at_call 34; refine HG.out.mono ?_; rintro e w' ⟨rfl, rfl⟩))
  go_ret
  exact ⟨ret_bool HZ.out, rfl⟩

theorem quiet_leftV {P : Program} {f : FuncId} {args : Array Value} {w : World} {n : Nat} {v : Value}
    (h : Calls P f args (w.drewN n) fun e w' => e = .returned v ∧ w.drewN n = w') : Calls P f args (w.drewN n) fun e w'' => e = .returned v ∧ ∃ m, w'' = w.drewN m :=
  h.mono fun _ _ ⟨he, hm⟩ => ⟨he, n, hm.symm⟩
set_option maxRecDepth 100000 in
set_option maxHeartbeats 800000 in
theorem refUpTo_any {n : Nat} (va vb : Value) (a b : List UInt64) (w : World) (ha : Words n w va a) (hb : Words n w vb b) :
    Calls Tryd.prog 78 #[va, vb] w fun e w' => e = .returned (.bool (upB a b)) ∧ Adds w w' := by
  have HA := Lib.hid ha
  have HB := Lib.hid hb; clear hb
  obtain ⟨ao, cap, rfl, h1, h2, _⟩ := ha
  unfold maxLen at h2
  go_enter Tryd.func78, Tryd.ntmps78
  go_wp2
  go_loopw [5] (fun i wr => ∃ k : Nat, k ≤ a.length ∧ i = .int .i64 k ∧ (∀ j, j < k → gD a j ≤ gD b j) ∧ Adds w wr) (fun i _ => a.length - (intOf i).toNat)
  case atStart => exact ⟨0, Nat.zero_le _, rfl, fun j hj => by omega, Adds.refl _⟩
  case round =>
    obtain ⟨k, hk, rfl, hz, ha1⟩ := hrel
    have HZ := Lib.hid hz; clear hz
    by_cases hlt : k < a.length
    · obtain ⟨ba, off, rfl, hc0⟩ := word_cell HA.out k hlt
      have hc : wr.cell? ⟨ba, off + k, none⟩ = some (.int .u64 ((gD a k).toNat : Nat)) := ha1.cellAt hc0
      have HG := Lib.hid (fun m => refGet_any vb b ((k : Nat) : Int) (wr.drewN m) ((HB.out.here.adds ha1).adds (Adds.drewN wr m)))
      rw [gI_nat] at HG
      have HA1 := Lib.hid ha1; clear ha1
      obtain ⟨y, hy⟩ : ∃ y : Nat, (gD a k).toNat = y := ⟨_, rfl⟩
      obtain ⟨z, hz⟩ : ∃ z : Nat, (gD b k).toNat = z := ⟨_, rfl⟩
      rw [hy] at hc
      rw [hz] at HG
      have HY := Lib.hid (And.intro hy hz); clear hy hz hc0
      by_cases hyz : y ≤ z
      · have hn : ¬ ((z : Int) < (y : Int)) := by omega
        go_wp2
        go_quiet ((go_at_call 34; exact quiet_leftV (HG.out _)))
        go_wp2
        go_roundw
        case rel =>
          refine ⟨k + 1, by omega, by go_num, fun j hj => ?_, HA1.out.trans (Adds.drewN _ _)⟩
          rcases Nat.lt_or_ge j k with h | h
          · exact HZ.out j h
          · rw [show j = k by omega, UInt64.le_iff_toNat_le, HY.out.1, HY.out.2]; exact hyz
        case measure => simp [intOf]; omega
      · have hn : (z : Int) < (y : Int) := by omega
        have e : upB a b = false := by
          unfold upB
          rw [List.all_eq_false]
          exact ⟨k, List.mem_range.2 hlt, by rw [decide_eq_true_iff, UInt64.le_iff_toNat_le, HY.out.1, HY.out.2]; exact hyz⟩
        have HE := Lib.hid e; clear e
        go_wp2
        go_quiet ((go_at_call 34; exact quiet_leftV (HG.out _)))
        go_wp2
        go_ret
        exact ⟨by rw [HE.out]; rfl, HA1.out.trans (Adds.drewN _ _)⟩
    · have HA1 := Lib.hid ha1; clear ha1
      have e : upB a b = true := by
        unfold upB
        rw [List.all_eq_true]
        intro i hi
        exact decide_eq_true (HZ.out i (by have := List.mem_range.1 hi; omega))
      have HE := Lib.hid e; clear e
      go_wp2
      go_ret
      exact ⟨by rw [HE.out]; rfl, HA1.out⟩

set_option maxHeartbeats 400000 in
theorem refSame_any {n : Nat} (va vb : Value) (a b : List UInt64) (w : World) (ha : Words n w va a) (hb : Words n w vb b) :
    Calls Tryd.prog 64 #[va, vb] w fun e w' => e = .returned (.bool (upB a b && upB b a)) ∧ Adds w w' := by
  have H1 := Lib.hid (refUpTo_any va vb a b w ha hb)
  have H2 := Lib.hid (fun W (h : Adds w W) => refUpTo_any vb va b a W (hb.here.adds h) (ha.here.adds h))
  clear ha hb
  cases h : upB a b with
  | true =>
    rw [h] at H1
    obtain ⟨z, hz⟩ : ∃ z, upB b a = z := ⟨_, rfl⟩
    rw [hz] at H2 ⊢
    clear h hz
    go_enter Tryd.func64, Tryd.ntmps64
    go_wp2_with (go_at_call 78; first
      | (refine H1.out.mono ?_; rintro e w1 ⟨rfl, a1⟩; have A1 := Lib.hid a1; clear a1 H1)
      | (refine (H2.out _ A1.out).mono ?_; rintro e w2 ⟨rfl, a2⟩; have A2 := Lib.hid a2; clear a2))
    go_ret
    exact ⟨rfl, A1.out.trans A2.out⟩
  | false =>
    rw [h] at H1
    clear h H2
    go_enter Tryd.func64, Tryd.ntmps64
    go_wp2_with (go_at_call 78; refine H1.out.mono ?_; rintro e w1 ⟨rfl, a1⟩; have A1 := Lib.hid a1; clear a1)
    go_ret
    exact ⟨rfl, A1.out⟩

set_option maxHeartbeats 400000 in
theorem refStands_any {n : Nat} (va vb : Value) (a b : List UInt64) (w : World) (ha : Words n w va a) (hb : Words n w vb b) :
    Calls Tryd.prog 42 #[va, vb] w fun e w' => e = .returned (.int .i64 (standI a b)) ∧ Adds w w' := by
  have H1 := Lib.hid (refUpTo_any va vb a b w ha hb)
  have H2 := Lib.hid (fun W (h : Adds w W) => refUpTo_any vb va b a W (hb.here.adds h) (ha.here.adds h))
  clear ha hb
  unfold standI
  obtain ⟨z1, hz1⟩ : ∃ z, upB a b = z := ⟨_, rfl⟩
  obtain ⟨z2, hz2⟩ : ∃ z, upB b a = z := ⟨_, rfl⟩
  rw [hz1] at H1 ⊢
  rw [hz2] at H2 ⊢
  clear hz1 hz2
  cases z1 <;> cases z2
  all_goals
    go_enter Tryd.func42, Tryd.ntmps42
    go_wp2_with (go_at_call 78; first
      | (refine H1.out.mono ?_; rintro e w1 ⟨rfl, a1⟩; have A1 := Lib.hid a1; clear a1 H1)
      | (refine (H2.out _ A1.out).mono ?_; rintro e w2 ⟨rfl, a2⟩; have A2 := Lib.hid a2; clear a2))
    go_ret
    exact ⟨rfl, A1.out.trans A2.out⟩

def eqB (a b : List UInt64) : Bool := decide (a.length = b.length) && (upB a b && upB b a)
theorem eqB_self (a : List UInt64) : eqB a a = true := by simp [eqB, upB_refl]
set_option maxHeartbeats 400000 in
theorem refEqual_any {n : Nat} (va vb : Value) (a b : List UInt64) (w : World) (ha : Words n w va a) (hb : Words n w vb b) :
    Calls Tryd.prog 30 #[va, vb] w fun e w' => e = .returned (.bool (eqB a b)) ∧ Adds w w' := by
  have H1 := Lib.hid (refSame_any va vb a b w ha hb)
  obtain ⟨ao, cap, rfl, _⟩ := ha
  obtain ⟨bo, cap2, rfl, _⟩ := hb
  by_cases h : a.length = b.length
  · have e : eqB a b = (upB a b && upB b a) := by simp [eqB, h]
    rw [e]
    obtain ⟨z, hz⟩ : ∃ z, (upB a b && upB b a) = z := ⟨_, rfl⟩
    rw [hz] at H1 ⊢
    clear e hz
    have h' : ((a.length : Int) == (b.length : Int)) = true := by simp [h]
    rw [h] at H1
    rw [h]
    clear h h'
    go_enter Tryd.func30, Tryd.ntmps30
    go_wp2_with (go_at_call 64; refine H1.out.mono ?_; rintro e w1 ⟨rfl, a1⟩; have A1 := Lib.hid a1; clear a1)
    go_ret
    exact ⟨rfl, A1.out⟩
  · have e : eqB a b = false := by simp [eqB, h]
    rw [e]
    have h' : ¬ ((a.length : Int) = (b.length : Int)) := by omega
    clear e H1
    go_enter Tryd.func30, Tryd.ntmps30
    go_wp2
    go_ret
    exact ⟨rfl, Adds.refl _⟩

theorem words_pre {n : Nat} {w : World} {ao : Option Addr} {cap x : Nat} {l : List UInt64} (h : Words n w (.slice ao l.length cap) l) (hx : x ≤ l.length) : Words n w (.slice ao x cap) (l.take x) := by
  obtain ⟨ao', cap', e, h1, h2, h3⟩ := h
  cases e
  have hl : (l.take x).length = x := by rw [List.length_take]; omega
  refine ⟨_, _, by rw [hl], by rw [hl]; omega, h2, fun hne => ?_⟩
  obtain ⟨b, off, e, hb, hc⟩ := h3 (by rintro rfl; simp at hne)
  refine ⟨b, off, e, hb, fun i hi => ?_⟩
  rw [hl] at hi
  rw [hc i (by omega)]
  simp [List.getD_eq_getElem?_getD, hi]

set_option maxRecDepth 100000 in
set_option maxHeartbeats 800000 in
theorem refTrim_any {n : Nat} (v : Value) (l : List UInt64) (w : World) (hv : Words n w v l) (hl : l.length ≤ 200000) :
    Calls Tryd.prog 32 #[v] w fun e w' => ∃ v', e = .returned v' ∧ OwnW w' w.heap.size v' (vTrim l) ∧ Adds w w' := by
  have HV := Lib.hid hv
  obtain ⟨ao, cap, rfl, h1, h2, _⟩ := hv
  unfold maxLen at h2
  go_enter Tryd.func32, Tryd.ntmps32
  go_wp2
  go_loop [3] (fun i => ∃ k : Nat, k ≤ l.length ∧ i = .int .i64 k ∧ ∀ j, k ≤ j → gD l j = 0) (fun i => (intOf i).toNat)
  case atStart => exact ⟨l.length, Nat.le_refl _, rfl, fun j hj => gD_ge hj⟩
  case round =>
    obtain ⟨k, hk, rfl, hz⟩ := hrel
    have HZ := Lib.hid hz; clear hz
    by_cases hk0 : k = 0
    · subst hk0
      have e : vTrim l = l.take 0 := by unfold vTrim; rw [tN_eq (m := 0) (fun i hi => HZ.out i hi) (by omega)]
      have HE := Lib.hid e; clear e
      have HP := Lib.hid (words_pre HV.out (Nat.zero_le _))
      go_wp2_with (at_builtin; refine wp_append_w rfl _ _ 48 rfl Tryd.underlying48 w.heap.size (.slice none 0 0) [] rfl (World.ownsRow_nil _ _ _ _) _ (l.take 0) n rfl (by exact HP.out) (by simp) (Nat.le_refl _) ?_; intro v' w' o1 g1; have O1 := Lib.hid o1; have G1 := Lib.hid g1; clear o1 g1)
      go_ret
      exact ⟨_, rfl, by rw [HE.out]; exact O1.out, (Below.refl _ w).grown G1.out (Nat.le_refl _) (fun j hj => by cases hj)⟩
    · obtain ⟨m, hm⟩ : ∃ m, m + 1 = k := ⟨k - 1, by omega⟩
      obtain ⟨b, off, rfl, hc⟩ := word_cell HV.out m (by omega)
      have hix : (k : Int) - 1 = (m : Int) := by omega
      have hkp : (0 : Int) < (k : Int) := by omega
      have hml : m < l.length := by omega
      by_cases h0 : gD l m = 0
      · rw [h0] at hc
        have hc' : w.cell? ⟨b, off + m, none⟩ = some (.int .u64 0) := hc
        clear hc
        have HM := Lib.hid hm; clear hm
        have HKL := Lib.hid hk; clear hk
        go_wp2
        go_round
        case rel =>
          have hm := HM.out
          have hk := HKL.out
          refine ⟨m, by omega, by go_num, fun j hj => ?_⟩
          rcases Nat.lt_or_ge m j with h | h
          · exact HZ.out j (by omega)
          · rw [show j = m by omega]; exact h0
        case measure =>
          have hm := HM.out
          simp [intOf]; omega
      · obtain ⟨y, hy⟩ : ∃ y : Int, (((gD l m).toNat : Nat) : Int) = y := ⟨_, rfl⟩
        have hy0 : y ≠ 0 := by
          intro h
          apply h0
          apply UInt64.toNat_inj.1
          rw [h] at hy
          simpa using hy
        rw [hy] at hc
        clear hy
        have e : vTrim l = l.take k := by unfold vTrim; rw [tN_eq (m := k) (fun i hi => HZ.out i hi) (fun _ => by rw [show k - 1 = m by omega]; exact h0)]
        have HE := Lib.hid e; clear e
        have HP := Lib.hid (words_pre HV.out hk)
        have HM := Lib.hid hm; clear hm
        have hkc : k ≤ cap := by omega
        go_wp2_with (at_builtin; refine wp_append_w rfl _ _ 48 rfl Tryd.underlying48 w.heap.size (.slice none 0 0) [] rfl (World.ownsRow_nil _ _ _ _) _ (l.take k) n rfl (by exact HP.out) (by simp; omega) (Nat.le_refl _) ?_; intro v' w' o1 g1; have O1 := Lib.hid o1; have G1 := Lib.hid g1; clear o1 g1)
        go_ret
        exact ⟨_, rfl, by rw [HE.out]; exact O1.out, (Below.refl _ w).grown G1.out (Nat.le_refl _) (fun j hj => by cases hj)⟩

/-- Epoch, in one: the epoch, or none. -/
def epV (c : List UInt64) (x y z : Int) : Prop := (∃ i : Nat, x = i ∧ i < 65536 ∧ rightB c = true ∧ (gD c i).toNat < 281474976710656 ∧ y = ((epN i (gD c i).toNat : Nat) : Int) ∧ z = 0) ∨ (¬ (0 ≤ x ∧ x ≤ 65535 ∧ rightB c = true) ∧ y = 0 ∧ z = 2)
theorem clk_lt {c : List UInt64} (h : rightB c = true) (i : Nat) : (gD c i).toNat < 281474976710656 := by
  unfold rightB clkB at h
  rw [Bool.and_eq_true, List.all_eq_true] at h
  by_cases hi : i < c.length
  · have := of_decide_eq_true (h.2 i (List.mem_range.2 hi)); omega
  · rw [gD_ge (by omega)]; decide
theorem epV_ex (c : List UInt64) (x : Int) : ∃ y z, epV c x y z := by
  by_cases h : 0 ≤ x ∧ x ≤ 65535 ∧ rightB c = true
  · exact ⟨_, _, .inl ⟨x.toNat, by omega, by omega, h.2.2, clk_lt h.2.2 _, rfl, rfl⟩⟩
  · exact ⟨_, _, .inr ⟨h, rfl, rfl⟩⟩

set_option maxHeartbeats 1000000 in
theorem refEpoch_any {n : Nat} (v : Value) (c : List UInt64) (x y z : Int) (hx : (Lit.int .i64 x).wf = true) (h : epV c x y z) (w : World) (hv : Words n w v c) :
    Calls Tryd.prog 26 #[v, .int .i64 x] w fun e w' => e = .returned (.tuple #[.int .u64 y, .int .i64 z]) ∧ w = w' := by
  have HR := Lib.hid (refRight_any v c w hv)
  have HG := Lib.hid (refGet_any v c x w hv)
  clear hv
  rcases h with ⟨i, rfl, hi, hr, hlt, rfl, rfl⟩ | ⟨hn, rfl, rfl⟩
  · have HP := Lib.hid (refPack_yes i (gD c i).toNat hi hlt w)
    rw [gI_nat] at HG
    rw [hr] at HR
    obtain ⟨g, hg⟩ : ∃ g : Int, (((gD c i).toNat : Nat) : Int) = g := ⟨_, rfl⟩
    obtain ⟨y, hy⟩ : ∃ y : Int, ((epN i (gD c i).toNat : Nat) : Int) = y := ⟨_, rfl⟩
    rw [hg] at HG HP
    rw [hy] at HP ⊢
    clear hg hy hr hlt hx
    have h0 : ¬ ((i : Int) < 0) := by omega
    have h1 : ¬ ((65535 : Int) < (i : Int)) := by omega
    go_enter Tryd.func26, Tryd.ntmps26
    go_wp2_with (first
      | (go_at_call 29; refine HR.out.mono ?_; rintro e w' ⟨rfl, rfl⟩)
      | (go_at_call 34; refine HG.out.mono ?_; rintro e w' ⟨rfl, rfl⟩)
      | (go_at_call 60; refine HP.out.mono ?_; rintro e w' ⟨rfl, rfl⟩))
    go_ret2
    exact ⟨rfl, rfl⟩
  · clear HG
    obtain ⟨r, hr⟩ : ∃ r, rightB c = r := ⟨_, rfl⟩
    rw [hr] at HR hn
    clear hr
    cases r with
    | false =>
      go_enter Tryd.func26, Tryd.ntmps26
      go_wp2_with (go_at_call 29; refine HR.out.mono ?_; rintro e w' ⟨rfl, rfl⟩)
      go_ret2
      exact ⟨rfl, rfl⟩
    | true =>
      by_cases h0 : x < 0
      · go_enter Tryd.func26, Tryd.ntmps26
        go_wp2_with (go_at_call 29; refine HR.out.mono ?_; rintro e w' ⟨rfl, rfl⟩)
        go_ret2
        exact ⟨rfl, rfl⟩
      · have h1 : (65535 : Int) < x := by
          apply Classical.byContradiction
          intro h1
          exact hn ⟨by omega, by omega, rfl⟩
        clear hn
        go_enter Tryd.func26, Tryd.ntmps26
        go_wp2_with (go_at_call 29; refine HR.out.mono ?_; rintro e w' ⟨rfl, rfl⟩)
        go_ret2
        exact ⟨rfl, rfl⟩

set_option maxHeartbeats 1000000 in
theorem vEpoch_any {n : Nat} (v : Value) (c : List UInt64) (x y z : Int) (hx : (Lit.int .i64 x).wf = true) (h : epV c x y z) (w : World) (hv : Words n w v c) :
    Calls Tryd.prog 25 #[v, .int .i64 x] w fun e w' => e = .returned (.tuple #[.int .u64 y, .int .i64 z]) ∧ Adds w w' := by
  have HC := Lib.hid (check_any v c w hv)
  have HG := Lib.hid (fun W (h : Adds w W) => vget_any v c x W (hv.here.adds h))
  clear hv
  obtain ⟨r, hr⟩ : ∃ r, rightB c = r := ⟨_, rfl⟩
  rw [hr] at HC
  cases r with
  | false =>
    have hyz : y = 0 ∧ z = 2 := by
      rcases h with ⟨i, _, _, hr', _⟩ | ⟨_, h1, h2⟩
      · rw [hr] at hr'; cases hr'
      · exact ⟨h1, h2⟩
    obtain ⟨rfl, rfl⟩ := hyz
    clear h hr HG
    go_enter Tryd.func25, Tryd.ntmps25
    go_wp2
    refine wp_scope_fwd 0 rfl ?_
    go_wp2_with (go_at_call 28; refine HC.out.mono ?_; rintro e w1 ⟨rfl, a1⟩; have A1 := Lib.hid a1; clear a1)
    go_step3
    refine ⟨rfl, ?_⟩
    go_wp2
    rw [Exit.noGoto_ret]
    go_ret2
    exact ⟨rfl, A1.out⟩
  | true =>
    have HP : Hid (∀ W, Calls Tryd.prog 61 #[.int .i64 x, .int .u64 (gI c x : Nat)] W fun e w' => e = .returned (.tuple #[.int .u64 y, .int .i64 z]) ∧ Below W.heap.size W w') := Lib.hid fun W => by
      rcases h with ⟨i, rfl, hi, _, hlt, rfl, rfl⟩ | ⟨hn, rfl, rfl⟩
      · rw [gI_nat]
        exact pack_yes i _ hi hlt W
      · exact pack_no x (gI c x) hx (fun h => hn ⟨h.1, h.2.1, hr⟩) W
    obtain ⟨g, hg⟩ : ∃ g : Int, ((gI c x : Nat) : Int) = g := ⟨_, rfl⟩
    rw [hg] at HG HP
    clear h hr hg
    go_enter Tryd.func25, Tryd.ntmps25
    go_wp2
    refine wp_scope_fwd 0 rfl ?_
    go_wp2_with (first
      | (go_at_call 28; refine HC.out.mono ?_; rintro e w1 ⟨rfl, a1⟩; have A1 := Lib.hid a1; clear a1)
      | (go_at_call 33; refine (HG.out _ A1.out).mono ?_; rintro e w' ⟨rfl, rfl⟩)
      | (go_at_call 61; refine (HP.out _).mono ?_; rintro e w2 ⟨rfl, a2⟩; have A2 := Lib.hid (show Adds w1 w2 from a2); clear a2))
    simp only [Exit.jump]
    go_ret2
    exact ⟨rfl, A1.out.trans A2.out⟩
end Go.Proofs.YtcimppggemdidaaDoor
