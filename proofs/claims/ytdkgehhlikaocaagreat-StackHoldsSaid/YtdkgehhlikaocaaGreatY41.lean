/- Merged: GD3, GD4, GD5. -/
import Derived.Test.YtdkgehhlikaocaaGreatY36
import Derived.Test.YtdkgehhlikaocaaGreatY37
import Derived.Test.YtdkgehhlikaocaaGreatY38
import Derived.Test.YtdkgehhlikaocaaGreatY39
import Derived.Test.YtdkgehhlikaocaaGreatY40
import Derived.Test.YtdkgehhlikaocaaGreatY33
namespace Go.Proofs.YtdkgehhlikaocaaGreat
open Go Go.RowKit Go.Shelf

theorem refFine_any {m : Nat} (u : Value) (p : Pg) (f pc : Nat) (w : World) (hf : FuncsW m w u p.1) (hfl : f < p.1.length) (hpc : pc < (p.1.getD f zF).2.length) : Calls Tryz.prog 53 #[pgV u p, .int .i64 (f : Int), .int .i64 (pc : Int)] w fun e w' => e = .returned (.bool (fineB p.1 (p.1.getD f zF) pc ((p.1.getD f zF).2.getD pc zI))) ∧ Adds w w' := by
  by_cases hm : mayI ((p.1.getD f zF).2.getD pc zI) = true
  rotate_left
  · exact refFine_a1 u p f pc w hf hfl hpc (by simpa using hm)
  by_cases hr : regsI ((p.1.getD f zF).2.getD pc zI) ≤ (p.1.getD f zF).1
  rotate_left
  · exact refFine_a2 u p f pc w hf hfl hpc ⟨hm, hr⟩
  by_cases h4 : ((p.1.getD f zF).2.getD pc zI).1 = 4
  · exact refFine_b4 u p f pc w hf hfl hpc ⟨hm, hr, h4⟩
  by_cases h5 : ((p.1.getD f zF).2.getD pc zI).1 = 5
  · exact refFine_b5 u p f pc w hf hfl hpc ⟨hm, hr, h5⟩
  by_cases h8 : ((p.1.getD f zF).2.getD pc zI).1 = 8
  · exact refFine_d8 u p f pc w hf hfl hpc ⟨hm, hr, h8⟩
  by_cases h10 : ((p.1.getD f zF).2.getD pc zI).1 = 10
  · exact refFine_d10 u p f pc w hf hfl hpc ⟨hm, hr, h10⟩
  exact refFine_c u p f pc w hf hfl hpc ⟨hm, hr, by omega, by omega⟩
end Go.Proofs.YtdkgehhlikaocaaGreat
namespace Go.Proofs.YtdkgehhlikaocaaGreat
open Go Go.RowKit Go.Shelf

theorem find_bad {fs : List Fu} {i k : Nat} (hi : i < fs.length) (hk : k < (fs.getD i zF).2.length) (h : ∀ x ∈ preL fs i k, badX fs x = false) (hb : badX fs (i, k) = true) : (plL fs fs.length).find? (badX fs) = some (i, k) := by
  obtain ⟨t, ht⟩ := plL_at (fs := fs) (pre := preL fs i k) (x := (i, k)) ⟨hi, hk, rfl⟩
  rw [ht, List.find?_append, List.find?_eq_none.2 (fun x hx => by simp [h x hx])]
  simp [hb]
theorem find_fine {fs : List Fu} (h : ∀ x ∈ plL fs fs.length, badX fs x = false) : (plL fs fs.length).find? (badX fs) = none := List.find?_eq_none.2 (fun x hx => by simp [h x hx])
set_option maxRecDepth 100000 in
set_option maxHeartbeats 8000000 in
theorem refWrong_any {m : Nat} (u : Value) (p : Pg) (w : World) (hf : FuncsW m w u p.1) : Calls Tryz.prog 31 #[pgV u p] w fun e w' => e = .returned (wrV (wrongP p)) ∧ Adds w w' := by
  have HNu := Lib.hid (fun (W : World) (h : Adds w W) => refNums_any u p W (hf.adds h))
  have HFi := Lib.hid (fun (f pc : Nat) (h1 : f < p.1.length) (h2 : pc < (p.1.getD f zF).2.length) (W : World) (h : Adds w W) => refFine_any u p f pc W (hf.adds h) h1 h2)
  unfold wrongP
  obtain ⟨nb, hnb⟩ : ∃ nb, numsP p = nb := ⟨_, rfl⟩
  rw [hnb] at HNu ⊢
  clear hnb
  obtain ⟨R, hR⟩ : ∃ R, (plL p.1 p.1.length).find? (badX p.1) = R := ⟨_, rfl⟩
  have HR := Lib.hid hR
  rw [hR]
  clear hR
  obtain ⟨fs, x1, x2, x3⟩ := p
  simp only at hf HNu HFi HR ⊢
  have HF := Lib.hid hf.here
  obtain ⟨ao, cap, rfl, h1, h2, _⟩ := hf
  unfold maxLen at h2
  obtain ⟨fl, hfl⟩ : ∃ fl, fs.length = fl := ⟨_, rfl⟩
  have HFl := Lib.hid hfl
  have HF2 := HF
  have hfI : (fl : Int) ≤ 9223372036854775807 := by omega
  rw [hfl] at HF HNu HFi ⊢
  clear hfl h1 h2
  obtain ⟨w1, hw1⟩ : ∃ w1, (w.alloc (.cells #[.slice ao fl cap, .int .i64 x1, .int .i64 x2, .int .i64 x3] 24)).alloc (.cells #[.int .i64 0, .int .i64 0] 58) = w1 := ⟨_, rfl⟩
  have A1 := Lib.hid (show Adds w w1 by rw [← hw1]; exact Adds.trans (Adds.new _ _) (Adds.new _ _))
  have B1 := Lib.hid (show BkS 24 w1 w.heap.size [.slice ao fl cap, .int .i64 x1, .int .i64 x2, .int .i64 x3] by rw [← hw1]; exact (BkS.new _ _ _).adds (Adds.new _ _))
  have B2 := Lib.hid (show BkS 58 w1 (w.heap.size + 1) [.int .i64 0, .int .i64 0] by rw [← hw1]; have h := BkS.new 58 (w.alloc (.cells #[.slice ao fl cap, .int .i64 x1, .int .i64 x2, .int .i64 x3] 24)) [.int .i64 0, .int .i64 0]; simpa using h)
  have HC := Lib.hid (fun (W : World) (h : Adds w1 W) => And.intro (B1.out.adds h) (B2.out.adds h))
  obtain ⟨b0, b1, b2, b3⟩ : w1.cell? ⟨w.heap.size, 0, none⟩ = some (.slice ao fl cap) ∧ w1.cell? ⟨w.heap.size, 1, none⟩ = some (.int .i64 x1) ∧ w1.cell? ⟨w.heap.size, 2, none⟩ = some (.int .i64 x2) ∧ w1.cell? ⟨w.heap.size, 3, none⟩ = some (.int .i64 x3) := ⟨B1.out.cell 0, B1.out.cell 1, B1.out.cell 2, B1.out.cell 3⟩
  cases nb
  · clear HFi
    go_enter Tryz.func31, Tryz.ntmps31
    go_wp2_with (go_at_call 32; refine (HNu.out _ A1.out).mono ?_; rintro e w2 ⟨rfl, a2⟩; have A2 := Lib.hid (Adds.trans A1.out a2); have D2 := Lib.hid ((HC.out _ a2).2); have c0 := D2.out.cell 0; have c1 := D2.out.cell 1; have y0 := D2.out.free 0; have y1 := D2.out.free 1; clear a2)
    try simp only [Exit.inBlock, Exit.then]
    refine bodyPost_ret (res_box2 rfl _ _ _ _ _ _ _ rfl ((D2.out.set 0 (.int .i64 0)).set 1 (.int .i64 0)) Tryz.underlying58 rfl (by kernel_rfl)) rfl ?_
    exact ⟨rfl, Adds.set (Adds.set A2.out (by omega) _ _) (by omega) _ _⟩
  · go_enter Tryz.func31, Tryz.ntmps31
    go_wp2_with (go_at_call 32; refine (HNu.out _ A1.out).mono ?_; rintro e w2 ⟨rfl, a2⟩; have A2 := Lib.hid a2; clear a2)
    go_loopw [4] (fun i wr => ∃ k : Nat, i = .int .i64 k ∧ k ≤ fl ∧ Hid (∀ x ∈ plL fs k, badX fs x = false) ∧ Hid (Adds w1 wr)) (fun i _ => fl + 1 - (intOf i).toNat)
    case atStart => exact ⟨0, rfl, by omega, Lib.hid (fun x hx => by simp [plL] at hx), A2⟩
    case round =>
      obtain ⟨k, rfl, hkl, HP, HA⟩ := hrel
      have b0 : wr.cell? ⟨w.heap.size, 0, none⟩ = some (.slice ao fl cap) := (HC.out _ HA.out).1.cell 0
      by_cases hlt : k < fl
      · have hltI : (k : Int) < (fl : Int) := by omega
        have HLt := Lib.hid hlt
        clear hlt hkl
        go_wp2
        clear b0
        go_loopw [5] (fun j wr => ∃ q : Nat, j = .int .i64 q ∧ q ≤ (fs.getD k zF).2.length ∧ Hid (∀ x ∈ preL fs k q, badX fs x = false) ∧ Hid (Adds w1 wr)) (fun j _ => (fs.getD k zF).2.length + 1 - (intOf j).toNat)
        case atStart => exact ⟨0, rfl, Nat.zero_le _, Lib.hid (fun x hx => HP.out x (by simpa [preL] using hx)), HA⟩
        case round =>
          rename_i HP1 HA1 _
          obtain ⟨q, rfl, hq, HP, HA⟩ := hrel
          obtain ⟨b0, b1, b2, b3⟩ : wr.cell? ⟨w.heap.size, 0, none⟩ = some (.slice ao fl cap) ∧ wr.cell? ⟨w.heap.size, 1, none⟩ = some (.int .i64 x1) ∧ wr.cell? ⟨w.heap.size, 2, none⟩ = some (.int .i64 x2) ∧ wr.cell? ⟨w.heap.size, 3, none⟩ = some (.int .i64 x3) := by
            have h := (HC.out _ HA.out).1
            exact ⟨h.cell 0, h.cell 1, h.cell 2, h.cell 3⟩
          obtain ⟨g, off, rfl, hg, hat⟩ := (show FuncsW w.heap.size wr (.slice ao fs.length cap) fs from by have h := HF2.out.adds (Adds.trans A1.out HA.out); exact h).at (i := k) (by rw [HFl.out]; exact HLt.out)
          obtain ⟨k0, c, k1, hc, _⟩ := hat
          obtain ⟨ac, cc, rfl, hc1, hc2⟩ := hc.form
          unfold maxLen at hc2
          obtain ⟨cl, hcle⟩ : ∃ l, (fs.getD k zF).2.length = l := ⟨_, rfl⟩
          have hclI : (cl : Int) ≤ 9223372036854775807 := by omega
          clear hc1 hc2
          have HCl := Lib.hid hcle
          rw [hcle] at k1 hq
          by_cases hqt : q < cl
          · have hqI : (q : Int) < (cl : Int) := by omega
            have HQt := Lib.hid hqt
            have HN := Lib.hid (HFi.out k q HLt.out (by rw [HCl.out]; exact hqt) wr (Adds.trans A1.out HA.out))
            obtain ⟨fb, hfb⟩ : ∃ fb, fineB fs (fs.getD k zF) q ((fs.getD k zF).2.getD q zI) = fb := ⟨_, rfl⟩
            rw [hfb] at HN
            have HB := Lib.hid (show badX fs (k, q) = !fb by unfold badX; rw [hfb])
            clear hc hcle hqt hq k0 hg hfb
            cases fb
            · have hR : R = some (k, q) := by
                rw [← HR.out]
                exact find_bad (by rw [HFl.out]; exact HLt.out) (by rw [HCl.out]; exact HQt.out) HP.out HB.out
              subst hR
              go_wp2_with (go_at_call 53; refine HN.out.mono ?_; rintro e w3 ⟨rfl, a3⟩; have A3 := Lib.hid (Adds.trans HA.out a3); have D3 := Lib.hid ((HC.out _ A3.out).2); have c0 := D3.out.cell 0; have c1 := D3.out.cell 1; have y0 := D3.out.free 0; have y1 := D3.out.free 1; clear a3)
              try simp only [Exit.inBlock, Exit.then]
              refine bodyPost_ret (res_box2 rfl _ _ _ _ _ _ _ rfl ((D3.out.set 0 (.int .i64 (k : Int))).set 1 (.int .i64 (q : Int))) Tryz.underlying58 rfl (by kernel_rfl)) rfl ?_
              exact ⟨rfl, Adds.set (Adds.set (Adds.trans A1.out A3.out) (by omega) _ _) (by omega) _ _⟩
            · go_wp2_with (go_at_call 53; refine HN.out.mono ?_; rintro e w3 ⟨rfl, a3⟩; have A3 := Lib.hid (Adds.trans HA.out a3); clear a3)
              go_roundw
              case rel => exact ⟨q + 1, by go_num, by rw [HCl.out]; exact HQt.out, Lib.hid (fun x hx => by rw [preL_succ] at hx; rcases List.mem_append.1 hx with h | h; exact HP.out x h; (obtain rfl := List.mem_singleton.1 h; exact HB.out)), A3⟩
              case measure => rw [HCl.out]; simp [intOf]; have := HQt.out; omega
          · have hqe : q = cl := Nat.le_antisymm hq (Nat.le_of_not_lt hqt)
            have hqI : ¬ (q : Int) < (cl : Int) := by rw [hqe]; exact Int.lt_irrefl _
            have HE := Lib.hid (show preL fs k q = plL fs (k + 1) by rw [hqe, ← HCl.out]; exact preL_end fs k)
            clear hqe hc hcle hqt hq k0 hg
            go_wp2
            go_roundw
            case rel => exact ⟨k + 1, by go_num, HLt.out, Lib.hid (by rw [← HE.out]; exact HP.out), HA⟩
            case measure => simp [intOf]; have := HLt.out; omega
      · have hltI : ¬ (k : Int) < (fl : Int) := by omega
        have hR : R = none := by
          rw [← HR.out]
          exact find_fine (fun x hx => HP.out x (by rw [HFl.out] at hx; rwa [show k = fl from Nat.le_antisymm hkl (Nat.le_of_not_lt hlt)]))
        subst hR
        clear hlt hkl
        have D3 := Lib.hid ((HC.out _ HA.out).2)
        have c0 := D3.out.cell 0; have c1 := D3.out.cell 1; have y0 := D3.out.free 0; have y1 := D3.out.free 1
        go_wp2
        try simp only [Exit.inBlock, Exit.then]
        refine bodyPost_ret (res_box2 rfl _ _ _ _ _ _ _ rfl ((D3.out.set 0 (.int .i64 0)).set 1 (.int .i64 0)) Tryz.underlying58 rfl (by kernel_rfl)) rfl ?_
        exact ⟨rfl, Adds.set (Adds.set (Adds.trans A1.out HA.out) (by omega) _ _) (by omega) _ _⟩
end Go.Proofs.YtdkgehhlikaocaaGreat
namespace Go.Proofs.YtdkgehhlikaocaaGreat
open Go Go.RowKit Go.Shelf

def rightP (p : Pg) : Bool := decide (checkP p = 0)
theorem rightP_is (p : Pg) : rightP p = (numsP p && !(wrongP p).isSome) := by
  unfold rightP checkP
  cases numsP p <;> cases wrongP p <;> rfl
set_option maxRecDepth 100000 in
set_option maxHeartbeats 4000000 in
theorem refRightP_any {m : Nat} (u : Value) (p : Pg) (w : World) (hf : FuncsW m w u p.1) : Calls Tryz.prog 11 #[pgV u p] w fun e w' => e = .returned (.bool (rightP p)) ∧ Adds w w' := by
  rw [rightP_is]
  have HNu := Lib.hid (fun (W : World) (h : Adds w W) => refNums_any u p W (hf.adds h))
  have HWr := Lib.hid (fun (W : World) (h : Adds w W) => refWrong_any u p W (hf.adds h))
  obtain ⟨nb, hnb⟩ : ∃ nb, numsP p = nb := ⟨_, rfl⟩
  rw [hnb] at HNu ⊢
  obtain ⟨wo, hwo⟩ : ∃ wo, wrongP p = wo := ⟨_, rfl⟩
  rw [hwo] at HWr ⊢
  clear hnb hwo
  obtain ⟨fs, x1, x2, x3⟩ := p
  obtain ⟨ao, cap, rfl, _, _, _⟩ := hf
  simp only at HNu HWr ⊢
  generalize fs.length = fl at HNu HWr ⊢
  obtain ⟨w0, hw0⟩ : ∃ w0, w.alloc (.cells #[.slice ao fl cap, .int .i64 x1, .int .i64 x2, .int .i64 x3] 24) = w0 := ⟨_, rfl⟩
  have A0 := Lib.hid (show Adds w w0 by rw [← hw0]; exact Adds.new _ _)
  have HB1 := Lib.hid (show BkS 24 w0 w.heap.size [.slice ao fl cap, .int .i64 x1, .int .i64 x2, .int .i64 x3] by rw [← hw0]; exact BkS.new _ _ _)
  have b0 : w0.cell? ⟨w.heap.size, 0, none⟩ = some (.slice ao fl cap) := HB1.out.cell 0
  have b1 : w0.cell? ⟨w.heap.size, 1, none⟩ = some (.int .i64 x1) := HB1.out.cell 1
  have b2 : w0.cell? ⟨w.heap.size, 2, none⟩ = some (.int .i64 x2) := HB1.out.cell 2
  have b3 : w0.cell? ⟨w.heap.size, 3, none⟩ = some (.int .i64 x3) := HB1.out.cell 3
  obtain ⟨s1, s2, ob, how, hob⟩ : ∃ (s1 s2 : Int) (ob : Bool), wrV wo = .tuple #[.agg #[.int .i64 s1, .int .i64 s2], .bool ob] ∧ wo.isSome = ob := by
    cases wo
    · exact ⟨0, 0, false, rfl, rfl⟩
    · exact ⟨_, _, true, rfl, rfl⟩
  rw [how] at HWr
  rw [hob]
  clear how hob
  have HX := Lib.hid (show (true && !true) = false ∧ (true && !false) = true ∧ (false && !true) = false ∧ (false && !false) = false from ⟨rfl, rfl, rfl, rfl⟩)
  cases nb <;> cases ob
  all_goals
    simp only [HX.out.1, HX.out.2.1, HX.out.2.2.1, HX.out.2.2.2]
    go_enter Tryz.func11, Tryz.ntmps11
    go_wp2_with (first
      | (go_at_call 31; refine (HWr.out _ A0.out).mono ?_; rintro e w1 ⟨rfl, q⟩; have HA1 := Lib.hid (Adds.trans A0.out q); have qq := HB1.out.adds q; have c0 : w1.cell? ⟨w.heap.size, 0, none⟩ = some (.slice ao fl cap) := qq.cell 0; have c1 : w1.cell? ⟨w.heap.size, 1, none⟩ = some (.int .i64 x1) := qq.cell 1; have c2 : w1.cell? ⟨w.heap.size, 2, none⟩ = some (.int .i64 x2) := qq.cell 2; have c3 : w1.cell? ⟨w.heap.size, 3, none⟩ = some (.int .i64 x3) := qq.cell 3; have hk := qq.lt; clear q qq)
      | (go_at_call 32; refine (HNu.out _ (Adds.trans HA1.out (Adds.new _ _))).mono ?_; rintro e w2 ⟨rfl, q⟩; have HA2 := Lib.hid (Adds.trans (Adds.trans HA1.out (Adds.new _ _)) q); clear q))
    go_ret
    exact ⟨by first | rfl | (apply ret_bool; simp; done) | (apply ret_bool; rfl), HA2.out⟩
end Go.Proofs.YtdkgehhlikaocaaGreat
