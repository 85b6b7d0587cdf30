/- Merged: MR3, GD1. -/
import Derived.Test.YthhegcngkpfcoaaGreatDoorF25
import Derived.Test.YthhegcngkpfcoaaGreatDoorF20
import Derived.Test.YthhegcngkpfcoaaGreatDoorF30
import Derived.Test.YthhegcngkpfcoaaGreatDoorF9
namespace Go.Proofs.YthhegcngkpfcoaaGreatDoor
open Go Go.RowKit Go.Shelf Go.Lib

theorem u64_sum (l : List UInt8) : U64 (sumS l) := by have := sumS_lt l; unfold U64; omega
set_option maxRecDepth 100000 in
set_option maxHeartbeats 4000000 in
theorem refSealed_any {n : Nat} (v : Value) (l : List UInt8) (w : World) (hv : Bytes n w v l) (hl : l.length ≤ 70368744177664) :
    Calls Tryz.prog 15 #[v] w (GivesB (sealB l) id w) := by
  have HV := Lib.hid hv
  obtain ⟨ao, cap, rfl, h1, h2, _⟩ := hv
  unfold maxLen at h2
  have HL := Lib.hid hl
  have hf8 : fixE (sumS l) 8 = 0 := by unfold fixE; rw [if_pos (by decide)]; exact if_pos (sumS_lt8 l)
  have hlf : (fixB (sumS l) 8).length = 8 := by unfold fixB; rw [if_pos hf8]; exact leB_length _ _
  have HLF := Lib.hid hlf
  have HO := Lib.hid (refOf_any _ l w HV.out)
  have HX := Lib.hid (refFixed_any (sumS l) (u64_sum l) 8 w)
  rw [hf8] at HX
  have HE := Lib.hid (fun W : World => own_empty W)
  clear h1 h2 hl hf8 hlf
  obtain ⟨sm, hsm⟩ : ∃ sm, sumS l = sm := ⟨_, rfl⟩
  unfold sealB
  rw [hsm] at HO HX HLF ⊢
  clear hsm
  obtain ⟨ln, hln⟩ : ∃ ln, l.length = ln := ⟨_, rfl⟩
  have HLn := Lib.hid hln
  rw [hln] at HO HV ⊢
  clear hln
  go_enter Tryz.func15, Tryz.ntmps15
  go_wp2_with (first
    | (go_at_call 28; refine HO.out.mono ?_; rintro e w1 ⟨rfl, rfl⟩)
    | (go_at_call 27; refine HX.out.mono ?_; rintro e w2 ⟨v2, rfl, o2, b2⟩; have O2 := Lib.hid o2; have B2 := Lib.hid b2; clear o2 b2)
    | (at_builtin; refine wp_append_bytes rfl (.tmp 11) (.tmp 12) rfl w2.heap.size _ [] rfl (by exact (HE.out _)) _ l _ rfl (by exact (HV.out.here.below B2.out).here.below (Gr.new w2 (.cells #[] 5)).adds) (by have := HL.out; simp; omega) (by simp) ?_; intro v3 w3 o3 b3; have O3 := Lib.hid o3; have B3 := Lib.hid (Below.trans (Gr.new w2 (.cells #[] 5)).adds b3); clear o3 b3)
    | (at_builtin; refine wp_append_bytes rfl (.tmp 13) (.tmp 14) rfl w2.heap.size _ ([] ++ l) rfl (by exact O3.out) _ (fixB sm 8) _ rfl (by exact (O2.out.adds B3.out).bytes) (by have := HL.out; have := HLF.out; rw [List.nil_append]; omega) (by exact B3.out.size) ?_; intro v4 w4 o4 b4; have O4 := Lib.hid o4; have B4 := Lib.hid (Below.trans B3.out b4); clear o4 b4))
  go_ret
  exact ⟨_, rfl, O4.out.lower B2.out.size, Adds.trans B2.out B4.out⟩
end Go.Proofs.YthhegcngkpfcoaaGreatDoor
namespace Go.Proofs.YthhegcngkpfcoaaGreatDoor
open Go Go.RowKit Go.Shelf

theorem numsP_no {p : Pg} (h : ¬ ((1 ≤ (p.1.length : Int) ∧ (p.1.length : Int) ≤ 32) ∧ (0 ≤ p.2.1 ∧ p.2.1 ≤ 64) ∧ (0 ≤ p.2.2.1 ∧ p.2.2.1 ≤ 64) ∧ (0 ≤ p.2.2.2 ∧ p.2.2.2 ≤ 64))) : numsP p = false := by
  rw [← Bool.not_eq_true]
  intro hn
  unfold numsP sharedB at hn
  simp only [Bool.and_eq_true, List.all_eq_true, inB, decide_eq_true_eq, List.mem_cons, List.not_mem_nil, or_false, forall_eq_or_imp, forall_eq] at hn
  exact h ⟨hn.1, hn.2.1.1, hn.2.1.2.1, hn.2.1.2.2⟩
theorem numsP_is {p : Pg} (h1 : 1 ≤ (p.1.length : Int) ∧ (p.1.length : Int) ≤ 32) (h2 : 0 ≤ p.2.1 ∧ p.2.1 ≤ 64) (h3 : 0 ≤ p.2.2.1 ∧ p.2.2.1 ≤ 64) (h4 : 0 ≤ p.2.2.2 ∧ p.2.2.2 ≤ 64) : numsP p = p.1.all numsF := by
  unfold numsP sharedB
  simp only [inB, List.all_cons, List.all_nil, h1, h2, h3, h4, and_self, decide_true, Bool.true_and, Bool.and_true]
theorem all_no {fs : List Fu} {k : Nat} (hk : k < fs.length) (h : numsF (fs.getD k zF) = false) : fs.all numsF = false := by
  rw [← Bool.not_eq_true, List.all_eq_true]
  intro ha
  have := ha (fs.getD k zF) (by rw [List.getD_eq_getElem?_getD, List.getElem?_eq_getElem hk]; exact List.getElem_mem hk)
  rw [h] at this; cases this
theorem all_yes {fs : List Fu} (h : ∀ q, q < fs.length → numsF (fs.getD q zF) = true) : fs.all numsF = true := by
  rw [List.all_eq_true]
  intro f hf
  obtain ⟨i, hi, rfl⟩ := List.mem_iff_getElem.1 hf
  have := h i hi
  rwa [List.getD_eq_getElem?_getD, List.getElem?_eq_getElem hi] at this
set_option maxRecDepth 100000 in
set_option maxHeartbeats 8000000 in
theorem refNums_any {m : Nat} (u : Value) (p : Pg) (w : World) (hf : FuncsW m w u p.1) : Calls Tryz.prog 41 #[pgV u p] w fun e w' => e = .returned (.bool (numsP p)) ∧ Adds w w' := by
  have hno := @numsP_no p
  have his := @numsP_is p
  obtain ⟨fs, x1, x2, x3⟩ := p
  simp only at hf hno his ⊢
  have HF := Lib.hid hf.here
  obtain ⟨ao, cap, rfl, _, _, _⟩ := hf
  obtain ⟨fl, hfl⟩ : ∃ fl, fs.length = fl := ⟨_, rfl⟩
  have HFl := Lib.hid hfl
  simp only [hfl] at HF hno his ⊢
  have HNo := Lib.hid hno
  have HIs := Lib.hid his
  obtain ⟨fz, hfz⟩ : ∃ fz : Int, (fl : Int) = fz := ⟨_, rfl⟩
  have HFz := Lib.hid hfz
  rw [hfz] at HNo HIs
  clear hfl hno his
  obtain ⟨w1, hw1⟩ : ∃ w1, w.alloc (.cells #[.slice ao fl cap, .int .i64 x1, .int .i64 x2, .int .i64 x3] 24) = w1 := ⟨_, rfl⟩
  have A1 := Lib.hid (show Adds w w1 by rw [← hw1]; exact (Gr.new _ _).adds)
  have B1 := Lib.hid (show BkS 24 w1 w.heap.size [.slice ao fl cap, .int .i64 x1, .int .i64 x2, .int .i64 x3] by rw [← hw1]; exact BkS.new _ _ _)
  have b0 : w1.cell? ⟨w.heap.size, 0, none⟩ = some (.slice ao fl cap) := B1.out.cell 0
  have b1 : w1.cell? ⟨w.heap.size, 1, none⟩ = some (.int .i64 x1) := B1.out.cell 1
  have b2 : w1.cell? ⟨w.heap.size, 2, none⟩ = some (.int .i64 x2) := B1.out.cell 2
  have b3 : w1.cell? ⟨w.heap.size, 3, none⟩ = some (.int .i64 x3) := B1.out.cell 3
  by_cases c0 : (fl : Int) < 1
  · have hn := HNo.out (by have := HFz.out; omega)
    rw [hn]
    clear hn hfz
    go_enter Tryz.func41, Tryz.ntmps41
    go_wp2
    go_ret
    exact ⟨rfl, A1.out⟩
  by_cases c1 : 32 < (fl : Int)
  · have hn := HNo.out (by have := HFz.out; omega)
    rw [hn]
    clear hn hfz
    go_enter Tryz.func41, Tryz.ntmps41
    go_wp2
    go_ret
    exact ⟨rfl, A1.out⟩
  by_cases c2 : x1 < 0
  · have hn := HNo.out (by have := HFz.out; omega)
    rw [hn]
    clear hn hfz
    go_enter Tryz.func41, Tryz.ntmps41
    go_wp2
    go_ret
    exact ⟨rfl, A1.out⟩
  by_cases c3 : 64 < x1
  · have hn := HNo.out (by have := HFz.out; omega)
    rw [hn]
    clear hn hfz
    go_enter Tryz.func41, Tryz.ntmps41
    go_wp2
    go_ret
    exact ⟨rfl, A1.out⟩
  by_cases c4 : x2 < 0
  · have hn := HNo.out (by have := HFz.out; omega)
    rw [hn]
    clear hn hfz
    go_enter Tryz.func41, Tryz.ntmps41
    go_wp2
    go_ret
    exact ⟨rfl, A1.out⟩
  by_cases c5 : 64 < x2
  · have hn := HNo.out (by have := HFz.out; omega)
    rw [hn]
    clear hn hfz
    go_enter Tryz.func41, Tryz.ntmps41
    go_wp2
    go_ret
    exact ⟨rfl, A1.out⟩
  by_cases c6 : x3 < 0
  · have hn := HNo.out (by have := HFz.out; omega)
    rw [hn]
    clear hn hfz
    go_enter Tryz.func41, Tryz.ntmps41
    go_wp2
    go_ret
    exact ⟨rfl, A1.out⟩
  by_cases c7 : 64 < x3
  · have hn := HNo.out (by have := HFz.out; omega)
    rw [hn]
    clear hn hfz
    go_enter Tryz.func41, Tryz.ntmps41
    go_wp2
    go_ret
    exact ⟨rfl, A1.out⟩
  rw [HIs.out (by have := HFz.out; omega) (by omega) (by omega) (by omega)]
  clear hfz
  obtain ⟨vb, hvb⟩ : ∃ vb, fs.all numsF = vb := ⟨_, rfl⟩
  have HVb := Lib.hid hvb
  rw [hvb]
  clear hvb
  go_enter Tryz.func41, Tryz.ntmps41
  go_wp2
  go_loopw [3] (fun i wr => ∃ j : Nat, i = .int .i64 (j : Int) ∧ j ≤ fl ∧ Hid (∀ q, q < j → numsF (fs.getD q zF) = true) ∧ Hid (Adds w1 wr)) (fun i _ => fl + 1 - (intOf i).toNat)
  case atStart => exact ⟨0, rfl, Nat.zero_le _, Lib.hid (fun q hq => absurd hq (by omega)), Lib.hid (Adds.refl _)⟩
  case round =>
    obtain ⟨j, rfl, hj, HA, HW⟩ := hrel
    have d0 : wr.cell? ⟨w.heap.size, 0, none⟩ = some (.slice ao fl cap) := (B1.out.adds HW.out).cell 0
    by_cases hlt : j < fl
    · have hltI : (j : Int) < (fl : Int) := by omega
      have HLt := Lib.hid hlt
      have hjc : j < fs.length := by rw [HFl.out]; exact hlt
      have HJc := Lib.hid hjc
      obtain ⟨g, off, rfl, hg, hat⟩ := (show FuncsW w.heap.size wr (.slice ao fs.length cap) fs by have h := HF.out.adds (Adds.trans A1.out HW.out); rw [← HFl.out] at h; exact h).at (i := j) hjc
      obtain ⟨k0, cv, k1, hc, _⟩ := hat
      obtain ⟨ac, cc, rfl, _, _⟩ := hc.form
      obtain ⟨⟨r, c⟩, hre⟩ : ∃ f, fs.getD j zF = f := ⟨_, rfl⟩
      have HRe := Lib.hid hre
      rw [hre] at k0 hc k1
      simp only at k0 hc k1
      obtain ⟨cl, hcl⟩ : ∃ cl, c.length = cl := ⟨_, rfl⟩
      rw [hcl] at k1
      have HNf := Lib.hid (show numsF (r, c) = (decide (1 ≤ r ∧ r ≤ 16) && decide (1 ≤ (cl : Int) ∧ (cl : Int) ≤ 512)) by unfold numsF inB; rw [hcl])
      clear hc hcl hre hlt hj hjc hg
      by_cases f0 : r < 1
      · have hno : vb = false := by rw [← HVb.out]; exact all_no HJc.out (by rw [HRe.out, HNf.out]; simp; omega)
        subst hno
        go_wp2
        go_ret
        exact ⟨rfl, Adds.trans A1.out (Adds.trans HW.out (Gr.new _ _).adds)⟩
      by_cases f1 : 16 < r
      · have hno : vb = false := by rw [← HVb.out]; exact all_no HJc.out (by rw [HRe.out, HNf.out]; simp; omega)
        subst hno
        go_wp2
        go_ret
        exact ⟨rfl, Adds.trans A1.out (Adds.trans HW.out (Gr.new _ _).adds)⟩
      by_cases f2 : (cl : Int) < 1
      · have hno : vb = false := by rw [← HVb.out]; exact all_no HJc.out (by rw [HRe.out, HNf.out]; simp; omega)
        subst hno
        go_wp2
        go_ret
        exact ⟨rfl, Adds.trans A1.out (Adds.trans HW.out (Gr.new _ _).adds)⟩
      by_cases f3 : 512 < (cl : Int)
      · have hno : vb = false := by rw [← HVb.out]; exact all_no HJc.out (by rw [HRe.out, HNf.out]; simp; omega)
        subst hno
        go_wp2
        go_ret
        exact ⟨rfl, Adds.trans A1.out (Adds.trans HW.out (Gr.new _ _).adds)⟩
      have HYes := Lib.hid (show numsF (fs.getD j zF) = true by rw [HRe.out, HNf.out]; simp; omega)
      go_wp2
      go_roundw
      case rel => exact ⟨j + 1, by go_num, HLt.out, Lib.hid (fun q hq => (Nat.lt_or_eq_of_le (Nat.le_of_lt_succ hq)).elim (fun h => HA.out q h) (fun h => h ▸ HYes.out)), Lib.hid (Adds.trans HW.out (Gr.new _ _).adds)⟩
      case measure => simp [intOf]; have := HLt.out; omega
    · have hje : j = fl := by omega
      have hltI : ¬ (j : Int) < (fl : Int) := by omega
      have hy : vb = true := by rw [← HVb.out]; exact all_yes (fun q hq => HA.out q (by rw [HFl.out] at hq; omega))
      subst hy
      clear hlt hj hje
      go_wp2
      go_ret
      exact ⟨rfl, Adds.trans A1.out HW.out⟩
end Go.Proofs.YthhegcngkpfcoaaGreatDoor
