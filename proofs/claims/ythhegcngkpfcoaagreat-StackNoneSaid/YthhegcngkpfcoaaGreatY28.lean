/- Merged: G6. -/
import Derived.Test.YthhegcngkpfcoaaGreatY27
namespace Go.Proofs.YthhegcngkpfcoaaGreat
open Go Go.RowKit Go.Shelf

set_option maxRecDepth 100000 in
set_option maxHeartbeats 4000000 in
theorem hands_any {n : Nat} (r : Int) (cv : Value) (pc : Int) (fo : Option Addr) (fc : Nat) (fs : List Fu) (x : In) (hx : OkIn x) (w : World) (hf : FuncsW n w (.slice fo fs.length fc) fs) :
    Calls Tryz.prog 101 #[plV r cv pc (.slice fo fs.length fc), insV x] w fun e w' => e = .returned (.bool (handsB fs x)) ∧ Adds w w' := by
  have htb := two_boxes w r cv pc (.slice fo fs.length fc) x
  have HH : Hid (∀ W, Calls Tryz.prog 112 #[.slice fo fs.length fc, .int .i64 x.2.2.2.2] W fun e w' => e = .returned (.bool (hasB fs.length x.2.2.2.2)) ∧ Adds W w') := Lib.hid (fun W => (hasF fo fs.length fc x.2.2.2.2 W).mono (fun e w' ⟨h1, h2⟩ => ⟨h1, h2 ▸ Adds.refl _⟩))
  have HF := Lib.hid hf
  have hi1 := hx.imm.1
  have hi2 := hx.imm.2
  obtain ⟨x0, x1, x2, x3, x4⟩ := x
  obtain ⟨w1, hw1⟩ : ∃ w1, (w.alloc (.cells #[.int .i64 r, cv, .int .i64 pc, .slice fo fs.length fc] 132)).alloc (.cells #[.int .i64 x0, .int .i64 x1, .int .i64 x2, .int .i64 x3, .int .u32 x4] 37) = w1 := ⟨_, rfl⟩
  have e1 : (w.alloc (.cells #[.int .i64 r, cv, .int .i64 pc, .slice fo fs.length fc] 132)).alloc (.cells (insC (x0, x1, x2, x3, x4)).toArray 37) = w1 := hw1
  rw [e1] at htb
  have HA1 := Lib.hid htb.1
  have HB1 := Lib.hid htb.2.1
  have HB2 := Lib.hid htb.2.2
  have j0 : w1.cell? ⟨w.heap.size + 1, 0, none⟩ = some (.int .i64 x0) := htb.2.2.cell 0
  have HD := Lib.hid (show ∀ w', Adds w1.drew w' → w'.cell? ⟨w.heap.size, 3, none⟩ = some (.slice fo fs.length fc) ∧ w'.cell? ⟨w.heap.size + 1, 3, none⟩ = some (.int .i64 x3) ∧ w'.cell? ⟨w.heap.size + 1, 4, none⟩ = some (.int .u32 x4) from fun w' h => by
    have h1 := HB1.out.adds (Adds.trans (Adds.drew _) h)
    have h2 := HB2.out.adds (Adds.trans (Adds.drew _) h)
    exact ⟨h1.cell 3, h2.cell 3, h2.cell 4⟩)
  simp only at hi1 hi2 HH
  have hhb : handsB fs (x0, x1, x2, x3, x4) = if x0 = 8 ∨ x0 = 10 then hasB fs.length x4 && decide (x3 ≤ (fs.getD x4.toNat zF).1) else true := rfl
  rw [hhb]
  clear htb e1 hx hf hhb
  by_cases h8 : x0 = 8 ∨ x0 = 10
  · rw [if_pos h8]
    cases hb : hasB fs.length x4
    · have HB := Lib.hid hb
      rw [hb] at HH
      obtain ⟨fl, hfl⟩ : ∃ fl, fs.length = fl := ⟨_, rfl⟩
      rw [hfl] at HD HH hw1
      simp only [hfl]
      have HWr := Lib.hid (show IntKind.i64.wrap x4 = x4 by rw [IntKind.wrap_i64]; omega)
      clear hfl hb HB HF
      rcases h8 with h8 | h8
      · have q8 : (x0 == 8) = true := by simp [h8]
        clear h8
        go_enter Tryz.func101, Tryz.ntmps101
        go_wp2_with fail
        refine wp_region_loose [] (fun _ _ _ => True) Adds (by kernel_rfl) (by kernel_rfl) (by simp []) Adds.refl (fun _ _ _ h k => Adds.trans h k) (fun _ _ _ _ _ _ => trivial) ?_
        repeat (refine wpL_step (fun K hK => ?_); first
          | (refine stepL_skip rfl rfl rfl ?_; go_simp; refine hK _ ?_; clear hK K)
          | (refine stepL_ex (v := .int .i64 x4) rfl rfl rfl Adds.refl ?_ ?_; (· (intro w' hw'; clear hK; have e := HWr.out; go_simp; done)); go_simp; refine hK _ ?_; clear hK K)
          | (refine stepL_ex rfl rfl rfl Adds.refl (fun w' hw' => rfl) ?_; go_simp; refine hK _ ?_; clear hK K)
          | (refine stepL_ex (v := .slice fo fl fc) rfl rfl rfl Adds.refl ?_ ?_; (· (intro w' hw'; clear hK; have hc := HD.out w' hw'; go_simp)); go_simp; refine hK _ ?_; clear hK K)
          | (refine stepL_ex (v := .int .u32 x4) rfl rfl rfl Adds.refl ?_ ?_; (· (intro w' hw'; clear hK; have hc := HD.out w' hw'; go_simp)); go_simp; refine hK _ ?_; clear hK K)
          | (refine stepL_ex (v := .bool false) rfl rfl rfl Adds.refl ?_ ?_; (· (intro w' hw'; clear hK; go_simp)); go_simp; refine hK _ ?_; clear hK K)
          | (refine stepL_call (v := .bool false) (f := 112) (args := #[.slice fo fl fc, .int .i64 x4]) rfl rfl rfl ?_ (fun w' hw' => HH.out w') ?_; (· (intro w'; clear hK; go_simp)); go_simp; refine hK _ ?_; clear hK K))
        refine wpL_nil ?_
        intro w4 a4
        simp only [forL]
        have HA4 := Lib.hid (Adds.trans HA1.out (Adds.trans (Adds.drew w1) a4))
        clear a4
        go_wp2_with fail
        go_ret
        exact ⟨rfl, HA4.out⟩
      · have q8 : (x0 == 8) = false := by simp [h8]
        have q10 : (x0 == 10) = true := by simp [h8]
        clear h8
        go_enter Tryz.func101, Tryz.ntmps101
        go_wp2_with fail
        refine wp_region_loose [] (fun _ _ _ => True) Adds (by kernel_rfl) (by kernel_rfl) (by simp []) Adds.refl (fun _ _ _ h k => Adds.trans h k) (fun _ _ _ _ _ _ => trivial) ?_
        repeat (refine wpL_step (fun K hK => ?_); first
          | (refine stepL_skip rfl rfl rfl ?_; go_simp; refine hK _ ?_; clear hK K)
          | (refine stepL_ex (v := .int .i64 x4) rfl rfl rfl Adds.refl ?_ ?_; (· (intro w' hw'; clear hK; have e := HWr.out; go_simp; done)); go_simp; refine hK _ ?_; clear hK K)
          | (refine stepL_ex rfl rfl rfl Adds.refl (fun w' hw' => rfl) ?_; go_simp; refine hK _ ?_; clear hK K)
          | (refine stepL_ex (v := .slice fo fl fc) rfl rfl rfl Adds.refl ?_ ?_; (· (intro w' hw'; clear hK; have hc := HD.out w' hw'; go_simp)); go_simp; refine hK _ ?_; clear hK K)
          | (refine stepL_ex (v := .int .u32 x4) rfl rfl rfl Adds.refl ?_ ?_; (· (intro w' hw'; clear hK; have hc := HD.out w' hw'; go_simp)); go_simp; refine hK _ ?_; clear hK K)
          | (refine stepL_ex (v := .bool false) rfl rfl rfl Adds.refl ?_ ?_; (· (intro w' hw'; clear hK; go_simp)); go_simp; refine hK _ ?_; clear hK K)
          | (refine stepL_call (v := .bool false) (f := 112) (args := #[.slice fo fl fc, .int .i64 x4]) rfl rfl rfl ?_ (fun w' hw' => HH.out w') ?_; (· (intro w'; clear hK; go_simp)); go_simp; refine hK _ ?_; clear hK K))
        refine wpL_nil ?_
        intro w4 a4
        simp only [forL]
        have HA4 := Lib.hid (Adds.trans HA1.out (Adds.trans (Adds.drew w1) a4))
        clear a4
        go_wp2_with fail
        go_ret
        exact ⟨rfl, HA4.out⟩
    · unfold hasB at hb
      rw [decide_eq_true_eq] at hb
      obtain ⟨k, rfl⟩ : ∃ k : Nat, x4 = k := ⟨x4.toNat, by omega⟩
      have hk : k < fs.length := by omega
      have hbt : hasB fs.length (k : Int) = true := by unfold hasB; rw [decide_eq_true_eq]; exact hb
      rw [hbt] at HH
      rw [show ((k : Nat) : Int).toNat = k by omega]
      obtain ⟨g, off, rfl, hg, hat⟩ := HF.out.at hk
      obtain ⟨k0, _⟩ := hat
      obtain ⟨rg, hrg⟩ : ∃ x, (fs.getD k zF).1 = x := ⟨_, rfl⟩
      rw [hrg] at k0 ⊢
      have HR := Lib.hid (show ∀ w', Adds w1.drew w' → w'.cell? ⟨g, off + k * 2, none⟩ = some (.int .i64 rg) from fun w' h => (Adds.trans HA1.out (Adds.trans (Adds.drew _) h)).cellAt k0)
      obtain ⟨b, hbb⟩ : ∃ b, decide (x3 ≤ rg) = b := ⟨_, rfl⟩
      rw [hbb]
      have HBb := Lib.hid hbb
      obtain ⟨ao', cap', e, h1, h2, _⟩ := id HF.out
      unfold maxLen at h2
      simp only [Value.slice.injEq, true_and] at e
      obtain ⟨rfl, rfl⟩ := e
      obtain ⟨fl, hfl⟩ : ∃ fl, fs.length = fl := ⟨_, rfl⟩
      rw [hfl] at HD HH hk h1 hw1
      simp only [hfl]
      have hkI : (k : Int) < (fl : Int) := by omega
      have hlI : (fl : Int) ≤ 9223372036854775807 := by omega
      have HWr := Lib.hid (show IntKind.i64.wrap (k : Int) = k by rw [IntKind.wrap_i64]; omega)
      clear hfl hb hbt hrg hbb k0 hg HF h1 h2 hk
      rcases h8 with h8 | h8
      · have q8 : (x0 == 8) = true := by simp [h8]
        clear h8
        go_enter Tryz.func101, Tryz.ntmps101
        go_wp2_with fail
        refine wp_region_loose [] (fun _ _ _ => True) Adds (by kernel_rfl) (by kernel_rfl) (by simp []) Adds.refl (fun _ _ _ h k => Adds.trans h k) (fun _ _ _ _ _ _ => trivial) ?_
        repeat (refine wpL_step (fun K hK => ?_); first
          | (refine stepL_ex (v := .bool true) rfl rfl rfl Adds.refl ?_ ?_; (· (intro w' hw'; clear hK; go_simp)); go_simp; refine hK _ ?_; clear hK K)
          | (refine stepL_ex (v := .bool b) rfl rfl rfl Adds.refl ?_ ?_; (· (intro w' hw'; clear hK; have hb := HBb.out; go_simp)); go_simp; refine hK _ ?_; clear hK K)
          | (refine stepL_ex (v := .pointer (some ⟨g, off + k * 2, none⟩)) rfl rfl rfl Adds.refl ?_ ?_; (· (intro w' hw'; clear hK; go_simp)); go_simp; refine hK _ ?_; clear hK K)
          | (refine stepL_ex (v := .int .i64 (k : Nat)) rfl rfl rfl Adds.refl ?_ ?_; (· (intro w' hw'; clear hK; have e := HWr.out; go_simp; done)); go_simp; refine hK _ ?_; clear hK K)
          | (refine stepL_ex rfl rfl rfl Adds.refl (fun w' hw' => rfl) ?_; go_simp; refine hK _ ?_; clear hK K)
          | (refine stepL_ex (v := .slice (some ⟨g, off, none⟩) fl fc) rfl rfl rfl Adds.refl ?_ ?_; (· (intro w' hw'; clear hK; have hc := HD.out w' hw'; go_simp)); go_simp; refine hK _ ?_; clear hK K)
          | (refine stepL_ex (v := .int .u32 (k : Nat)) rfl rfl rfl Adds.refl ?_ ?_; (· (intro w' hw'; clear hK; have hc := HD.out w' hw'; go_simp)); go_simp; refine hK _ ?_; clear hK K)
          | (refine stepL_ex (v := .int .i64 x3) rfl rfl rfl Adds.refl ?_ ?_; (· (intro w' hw'; clear hK; have hc := HD.out w' hw'; go_simp)); go_simp; refine hK _ ?_; clear hK K)
          | (refine stepL_ex (v := .int .i64 rg) rfl rfl rfl Adds.refl ?_ ?_; (· (intro w' hw'; clear hK; have hc := HR.out w' hw'; go_simp)); go_simp; refine hK _ ?_; clear hK K)
          | (refine stepL_call (v := .bool true) (f := 112) (args := #[.slice (some ⟨g, off, none⟩) fl fc, .int .i64 (k : Nat)]) rfl rfl rfl ?_ (fun w' hw' => HH.out w') ?_; (· (intro w'; clear hK; go_simp)); go_simp; refine hK _ ?_; clear hK K))
        refine wpL_nil ?_
        intro w4 a4
        simp only [forL]
        have HA4 := Lib.hid (Adds.trans HA1.out (Adds.trans (Adds.drew w1) a4))
        clear a4
        go_wp2_with fail
        go_ret
        exact ⟨rfl, HA4.out⟩
      · have q8 : (x0 == 8) = false := by simp [h8]
        have q10 : (x0 == 10) = true := by simp [h8]
        clear h8
        go_enter Tryz.func101, Tryz.ntmps101
        go_wp2_with fail
        refine wp_region_loose [] (fun _ _ _ => True) Adds (by kernel_rfl) (by kernel_rfl) (by simp []) Adds.refl (fun _ _ _ h k => Adds.trans h k) (fun _ _ _ _ _ _ => trivial) ?_
        repeat (refine wpL_step (fun K hK => ?_); first
          | (refine stepL_ex (v := .bool true) rfl rfl rfl Adds.refl ?_ ?_; (· (intro w' hw'; clear hK; go_simp)); go_simp; refine hK _ ?_; clear hK K)
          | (refine stepL_ex (v := .bool b) rfl rfl rfl Adds.refl ?_ ?_; (· (intro w' hw'; clear hK; have hb := HBb.out; go_simp)); go_simp; refine hK _ ?_; clear hK K)
          | (refine stepL_ex (v := .pointer (some ⟨g, off + k * 2, none⟩)) rfl rfl rfl Adds.refl ?_ ?_; (· (intro w' hw'; clear hK; go_simp)); go_simp; refine hK _ ?_; clear hK K)
          | (refine stepL_ex (v := .int .i64 (k : Nat)) rfl rfl rfl Adds.refl ?_ ?_; (· (intro w' hw'; clear hK; have e := HWr.out; go_simp; done)); go_simp; refine hK _ ?_; clear hK K)
          | (refine stepL_ex rfl rfl rfl Adds.refl (fun w' hw' => rfl) ?_; go_simp; refine hK _ ?_; clear hK K)
          | (refine stepL_ex (v := .slice (some ⟨g, off, none⟩) fl fc) rfl rfl rfl Adds.refl ?_ ?_; (· (intro w' hw'; clear hK; have hc := HD.out w' hw'; go_simp)); go_simp; refine hK _ ?_; clear hK K)
          | (refine stepL_ex (v := .int .u32 (k : Nat)) rfl rfl rfl Adds.refl ?_ ?_; (· (intro w' hw'; clear hK; have hc := HD.out w' hw'; go_simp)); go_simp; refine hK _ ?_; clear hK K)
          | (refine stepL_ex (v := .int .i64 x3) rfl rfl rfl Adds.refl ?_ ?_; (· (intro w' hw'; clear hK; have hc := HD.out w' hw'; go_simp)); go_simp; refine hK _ ?_; clear hK K)
          | (refine stepL_ex (v := .int .i64 rg) rfl rfl rfl Adds.refl ?_ ?_; (· (intro w' hw'; clear hK; have hc := HR.out w' hw'; go_simp)); go_simp; refine hK _ ?_; clear hK K)
          | (refine stepL_call (v := .bool true) (f := 112) (args := #[.slice (some ⟨g, off, none⟩) fl fc, .int .i64 (k : Nat)]) rfl rfl rfl ?_ (fun w' hw' => HH.out w') ?_; (· (intro w'; clear hK; go_simp)); go_simp; refine hK _ ?_; clear hK K))
        refine wpL_nil ?_
        intro w4 a4
        simp only [forL]
        have HA4 := Lib.hid (Adds.trans HA1.out (Adds.trans (Adds.drew w1) a4))
        clear a4
        go_wp2_with fail
        go_ret
        exact ⟨rfl, HA4.out⟩
  · rw [if_neg h8]
    have n8 : (x0 == 8) = false := beq_eq_false_iff_ne.2 (by omega)
    have n10 : (x0 == 10) = false := beq_eq_false_iff_ne.2 (by omega)
    clear h8
    go_enter Tryz.func101, Tryz.ntmps101
    go_wp2_with fail
    go_ret
    exact ⟨rfl, HA1.out⟩
end Go.Proofs.YthhegcngkpfcoaaGreat
