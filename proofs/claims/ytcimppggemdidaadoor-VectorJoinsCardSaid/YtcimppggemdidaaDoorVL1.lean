/- The laws VectorTells and VectorTicks, walked. -/
import Derived.Test.YtcimppggemdidaaDoorVW
namespace Go.Proofs.YtcimppggemdidaaDoor
open Go Go.RowKit

def fewB (ls : List (List UInt64)) : Bool := ls.all fun c => decide (c.length ≤ 40)
set_option maxHeartbeats 800000 in
theorem few_any {n : Nat} (vl : Value) (ls : List (List UInt64)) (w : World) (hv : ListsW n w vl ls) :
    Calls Tryd.prog 23 #[vl] w fun e w' => e = .returned (.bool (fewB ls)) ∧ w = w' := by
  obtain ⟨ao, cap, rfl, h1, h2, h3⟩ := hv
  unfold maxLen at h2
  have HV := Lib.hid h3; clear h3
  go_enter Tryd.func23, Tryd.ntmps23
  go_wp2
  go_loop [3] (fun i => ∃ k : Nat, k ≤ ls.length ∧ i = .int .i64 k ∧ ∀ j, (hj : j < ls.length) → j < k → ls[j].length ≤ 40) (fun i => ls.length - (intOf i).toNat)
  case atStart => exact ⟨0, Nat.zero_le _, rfl, fun j _ hj => by omega⟩
  case round =>
    obtain ⟨k, hk, rfl, hz⟩ := hrel
    have HZ := Lib.hid hz; clear hz
    by_cases hlt : k < ls.length
    · obtain ⟨b, off, rfl, _, hc⟩ := HV.out (by rintro rfl; simp at hlt)
      obtain ⟨u, hcell, hu⟩ := hc k hlt
      clear hc
      obtain ⟨a2, cap2, rfl, h4, h5, _⟩ := hu
      unfold maxLen at h5
      have hgd : ls.getD k [] = ls[k] := by simp [hlt]
      rw [hgd] at hcell h4
      obtain ⟨m, hm⟩ : ∃ m, ls[k].length = m := ⟨_, rfl⟩
      rw [hm] at hcell h4
      have HM := Lib.hid hm; clear hm hgd
      by_cases hml : m ≤ 40
      · have hn : ¬ ((40 : Int) < (m : Int)) := by omega
        go_wp2
        go_round
        case rel =>
          refine ⟨k + 1, by omega, by go_num, fun j hj hjk => ?_⟩
          rcases Nat.lt_or_ge j k with h | h
          · exact HZ.out j hj h
          · have e : j = k := by omega
            subst e
            rw [HM.out]; exact hml
        case measure => simp [intOf]; omega
      · have e : fewB ls = false := by
          unfold fewB
          rw [List.all_eq_false]
          exact ⟨ls[k], List.getElem_mem hlt, by rw [HM.out]; simpa using hml⟩
        have HE := Lib.hid e; clear e
        have hn : (40 : Int) < (m : Int) := by omega
        go_wp2
        go_ret
        exact ⟨by rw [HE.out]; rfl, rfl⟩
    · have e : fewB ls = true := by
        unfold fewB
        rw [List.all_eq_true]
        intro c hc
        obtain ⟨j, hj, rfl⟩ := List.mem_iff_getElem.1 hc
        exact decide_eq_true (HZ.out j hj (by omega))
      have HE := Lib.hid e; clear e
      go_wp2
      go_ret
      exact ⟨by rw [HE.out]; rfl, rfl⟩
theorem few_one {c : List UInt64} (h : c.length ≤ 40) : fewB [c] = true := by simp [fewB, h]
theorem few_not {c : List UInt64} (h : ¬ c.length ≤ 40) : fewB [c] = false := by simp [fewB]; omega

set_option maxRecDepth 100000 in
set_option maxHeartbeats 8000000 in
theorem law_tells {nb : Nat} (v : Value) (c : List UInt64) (x : Int) (hx : (Lit.int .i64 x).wf = true) (e : Nat) (he : e < 18446744073709551616) (w : World) (hv : Words nb w v c) (hw : How w) :
    Calls Tryd.prog 5 #[v, .int .i64 x, .int .u64 e] w (TrueAdds w) := by
  have HV := Lib.hid hv
  have HF := Lib.hid (few_any _ [c] _ (listsW_1 w v c hv)); clear hv
  have HW := Lib.hid (fun W (h : Adds w W) => works4_any W (hw.adds h)); clear hw
  obtain ⟨ao, cap, rfl, h1, h2, _⟩ := id HV.out
  by_cases hl : c.length ≤ 40
  · rw [few_one hl] at HF
    obtain ⟨y, z, hyz⟩ := epV_ex c x
    have HE := Lib.hid (fun W (h : Adds w W) => vEpoch_any _ c x y z hx hyz W (HV.out.here.adds h))
    have HRE := Lib.hid (fun W (h : Adds w W) => refEpoch_any _ c x y z hx hyz W (HV.out.here.adds h))
    have HCK := Lib.hid (fun W (h : Adds w W) => check_any _ c W (HV.out.here.adds h))
    have HRR := Lib.hid (fun W (h : Adds w W) => refRight_any _ c W (HV.out.here.adds h))
    have HT := Lib.hid (fun W (h : Adds w W) => trim_any _ c W (HV.out.here.adds h) (by omega))
    have HRT := Lib.hid (fun W (h : Adds w W) => refTrim_any _ c W (HV.out.here.adds h) (by omega))
    have HG := Lib.hid (fun W (h : Adds w W) => vget_any _ c x W (HV.out.here.adds h))
    have HRG := Lib.hid (fun W (h : Adds w W) => refGet_any _ c x W (HV.out.here.adds h))
    have HH := Lib.hid (fun W (h : Adds w W) => has_any _ c e he W (HV.out.here.adds h))
    have HRH := Lib.hid (fun W (h : Adds w W) => refHas_any _ c e he W (HV.out.here.adds h))
    have HQ := Lib.hid (fun va vb W (ha : Words W.heap.size W va (vTrim c)) (hb : Words W.heap.size W vb (vTrim c)) => refEqual_any va vb (vTrim c) (vTrim c) W ha hb)
    rw [eqB_self] at HQ
    obtain ⟨g, hg⟩ : ∃ g : Int, ((gI c x : Nat) : Int) = g := ⟨_, rfl⟩
    rw [hg] at HG HRG
    obtain ⟨ee, hee⟩ : ∃ y : Int, (e : Int) = y := ⟨_, rfl⟩
    rw [hee] at HH HRH ⊢
    obtain ⟨hb, hhb⟩ : ∃ z, hasB c e = z := ⟨_, rfl⟩
    rw [hhb] at HH HRH
    obtain ⟨r, hr⟩ : ∃ z, rightB c = z := ⟨_, rfl⟩
    rw [hr] at HCK HRR
    have HL := Lib.hid hl
    clear hg hee hhb hr hyz hx he hl h1 h2
    have AX := Lib.hid (Adds.new w (.cells #[.slice ao c.length cap] 48))
    cases r <;> cases hb
    all_goals
      go_enter Tryd.func5, Tryd.ntmps5
      go_wp2_with (first
        | (go_at_call 23; refine HF.out.mono ?_; rintro e w' ⟨rfl, rfl⟩)
        | (go_at_call 24; refine (HW.out _ AX.out).mono ?_; rintro e w1 ⟨rfl, a1⟩; have AX := Lib.hid (AX.out.trans a1); clear a1)
        | (go_at_call 25; refine (HE.out _ AX.out).mono ?_; rintro e w1 ⟨rfl, a1⟩; have AX := Lib.hid (AX.out.trans a1); clear a1)
        | (go_at_call 26; refine (HRE.out _ AX.out).mono ?_; rintro e w' ⟨rfl, rfl⟩)
        | (go_at_call 28; refine (HCK.out _ AX.out).mono ?_; rintro e w1 ⟨rfl, a1⟩; have AX := Lib.hid (AX.out.trans a1); clear a1)
        | (go_at_call 27; refine (num4_any _ _).mono ?_; rintro e w' ⟨rfl, rfl⟩)
        | (go_at_call 29; refine (HRR.out _ AX.out).mono ?_; rintro e w' ⟨rfl, rfl⟩)
        | (go_at_call 31; refine (HT.out _ AX.out).mono ?_; rintro e w1 ⟨v1, rfl, o1, a1⟩; obtain ⟨a2, c2, rfl⟩ := o1.isSlice; have O1 := Lib.hid o1.words; have AX := Lib.hid (AX.out.trans a1); clear a1 o1)
        | (go_at_call 32; refine (HRT.out _ AX.out).mono ?_; rintro e w1 ⟨v1, rfl, o1, a1⟩; obtain ⟨a3, c3, rfl⟩ := o1.isSlice; have O2 := Lib.hid o1.words; have O1 := Lib.hid (O1.out.adds a1); have AX := Lib.hid (AX.out.trans a1); clear a1 o1)
        | (go_at_call 30; refine (HQ.out _ _ _ O1.out O2.out).mono ?_; rintro e w1 ⟨rfl, a1⟩; have AX := Lib.hid (AX.out.trans a1); clear a1)
        | (go_at_call 33; refine (HG.out _ AX.out).mono ?_; rintro e w' ⟨rfl, rfl⟩)
        | (go_at_call 34; refine (HRG.out _ AX.out).mono ?_; rintro e w' ⟨rfl, rfl⟩)
        | (go_at_call 35; refine (HH.out _ AX.out).mono ?_; rintro e w1 ⟨rfl, a1⟩; have AX := Lib.hid (AX.out.trans a1); clear a1)
        | (go_at_call 36; refine (HRH.out _ AX.out).mono ?_; rintro e w' ⟨rfl, rfl⟩))
      go_ret
      exact ⟨rfl, AX.out⟩
  · rw [few_not hl] at HF
    have AX := Lib.hid (Adds.new w (.cells #[.slice ao c.length cap] 48))
    clear hl h1 h2
    go_enter Tryd.func5, Tryd.ntmps5
    go_wp2_with (first
      | (go_at_call 23; refine HF.out.mono ?_; rintro e w' ⟨rfl, rfl⟩)
      | (go_at_call 24; refine (HW.out _ AX.out).mono ?_; rintro e w1 ⟨rfl, a1⟩; have AX := Lib.hid (AX.out.trans a1); clear a1))
    go_ret
    exact ⟨rfl, AX.out⟩
end Go.Proofs.YtcimppggemdidaaDoor
