/- Contracts of package epoch: Parts, Pack, Next. -/
import Derived.BigQuiet
import Derived.OpenShut
import Derived.Deep.QuietTactic
import Derived.Test.YtcimppggemdidaaDoorKF2
import Derived.Test.YtcimppggemdidaaDoorLoose2
import Derived.Test.YtcimppggemdidaaDoorLib
namespace Go.Proofs.YtcimppggemdidaaDoor
open Go Go.RowKit

set_option maxHeartbeats 1000000 in
theorem full_any (e n : Nat) (z : Bool) (hz : decide (n ≤ eC e) = z) (w : World) :
    Calls Tryd.prog 98 #[.agg #[.int .u64 e, .int .u64 n]] w fun x w' => x = .returned (.bool z) ∧ Below w.heap.size w w' := by
  have HK := Lib.hid (clock_any e)
  obtain ⟨c, hc⟩ : ∃ c : Int, c = ((eC e : Nat) : Int) := ⟨_, rfl⟩
  rw [← hc] at HK
  have hd : decide ((n : Int) ≤ c) = z := by rw [hc, ← hz]; exact decide_eq_decide.2 (by omega)
  clear hz hc
  have HC : Hid (∀ w', Adds (w.alloc (.cells #[.int .u64 e, .int .u64 n] 143)).drew w' → w'.cell? ⟨w.heap.size, 0, none⟩ = some (.int .u64 e) ∧ w'.cell? ⟨w.heap.size, 1, none⟩ = some (.int .u64 n)) :=
    Lib.hid fun w' h => ⟨(h.cell (by simp)).trans (by simp), (h.cell (by simp)).trans (by simp)⟩
  go_enter Tryd.func98, Tryd.ntmps98
  go_wp2
  refine wp_region_loose [] (fun _ _ _ => True) Adds (by kernel_rfl) (by kernel_rfl) (by simp) Adds.refl (fun _ _ _ h k => h.trans k) (fun _ _ _ _ _ _ => trivial) ?_
  repeat (refine wpL_step (fun K hK => ?_); first
    | (refine stepL_ex (v := .pointer (some ⟨w.heap.size, 0, none⟩)) rfl rfl rfl Adds.refl ?_ ?_; (· (intro w' hw'; clear hK; go_simp)); go_simp; refine hK _ ?_; clear hK K)
    | (refine stepL_ex (v := .pointer (some ⟨w.heap.size, 1, none⟩)) rfl rfl rfl Adds.refl ?_ ?_; (· (intro w' hw'; clear hK; go_simp)); go_simp; refine hK _ ?_; clear hK K)
    | (refine stepL_ex (v := .int .u64 e) rfl rfl rfl Adds.refl ?_ ?_; (· (intro w' hw'; clear hK; have hS := (HC.out w' hw').1; go_simp)); go_simp; refine hK _ ?_; clear hK K)
    | (refine stepL_ex (v := .int .u64 n) rfl rfl rfl Adds.refl ?_ ?_; (· (intro w' hw'; clear hK; have hS := (HC.out w' hw').2; go_simp)); go_simp; refine hK _ ?_; clear hK K)
    | (refine stepL_ex (v := .bool z) rfl rfl rfl Adds.refl ?_ ?_; (· (intro w' hw'; clear hK; go_simp)); go_simp; refine hK _ ?_; clear hK K)
    | (refine stepL_call (v := .int .u64 c) (f := 100) (args := #[.int .u64 e]) rfl rfl rfl ?_ (fun w' hw' => HK.out w') ?_; (· (intro w'; clear hK; go_simp)); go_simp; refine hK _ ?_; clear hK K))
  refine wpL_nil ?_
  intro w2 a2
  simp only [forL]
  have A2 := Lib.hid a2; clear a2
  go_wp2
  go_ret
  exact ⟨rfl, (adds_b w _).trans ((Adds.drew _).trans A2.out |>.mono (by simp))⟩

set_option maxHeartbeats 1000000 in
theorem epParts_any (e : Nat) (he : e < 18446744073709551616) (w : World) :
    Calls Tryd.prog 67 #[.int .u64 e] w fun x w' => x = .returned (.tuple #[.int .i64 (eI e : Nat), .int .u64 (eC e : Nat)]) ∧ Below w.heap.size w w' := by
  have HK := Lib.hid (parts_any e)
  obtain ⟨a, c, ha, hc⟩ := gets e
  rw [← ha, ← hc] at HK
  rw [← ha, ← hc]
  have h0 : 0 ≤ a := by omega
  have h1 : a ≤ 65535 := by have := eI_lt he; omega
  clear ha hc he
  go_enter Tryd.func67, Tryd.ntmps67
  go_wp2_with (go_at_call 96; refine (HK.out _).mono ?_; rintro e w1 ⟨rfl, b1⟩; have A1 := Lib.hid b1; clear b1)
  go_quiet (fail)
  go_wp2
  go_ret2
  exact ⟨rfl, A1.out.trans (((adds_b w1 _).mono A1.out.size).trans ⟨rfl, rfl, rfl, Nat.le_refl _, fun _ _ => rfl⟩)⟩

theorem may_yes {i c : Nat} (hi : i < 65536) (hc : c < 281474976710656) : mayB (i : Int) (c : Int) = true := by
  unfold mayB; rw [inB_yes (by omega) (by omega), inB_yes (by omega) (by omega)]; rfl
theorem may_no {i c : Int} (h : ¬ (0 ≤ i ∧ i ≤ 65535 ∧ 0 ≤ c ∧ c ≤ 281474976710655)) : mayB i c = false := by
  unfold mayB
  by_cases h1 : 0 ≤ i ∧ i ≤ 65535
  · rw [inB_no (a := 0) (n := c) (by omega), Bool.and_false]
  · rw [inB_no h1, Bool.false_and]

set_option maxHeartbeats 1000000 in
theorem pack_yes (i c : Nat) (hi : i < 65536) (hc : c < 281474976710656) (w : World) :
    Calls Tryd.prog 61 #[.int .i64 i, .int .u64 c] w fun x w' => x = .returned (.tuple #[.int .u64 (epN i c : Nat), .int .i64 0]) ∧ Below w.heap.size w w' := by
  have HM := Lib.hid (may_any i c true (may_yes hi hc))
  have HE := Lib.hid (epoch_any i c hi hc)
  obtain ⟨y, hy⟩ : ∃ y : Int, y = ((epN i c : Nat) : Int) := ⟨_, rfl⟩
  rw [← hy] at HE
  rw [← hy]
  clear hy hc
  go_enter Tryd.func61, Tryd.ntmps61
  go_wp2
  refine wp_scope_fwd 0 rfl ?_
  go_wp2_with (first
    | (go_at_call 94; refine (HM.out _).mono ?_; rintro e w1 ⟨rfl, b1⟩; have A1 := Lib.hid b1; obtain ⟨hc, hf⟩ := bcell b1; clear b1)
    | (go_at_call 95; refine (HE.out _).mono ?_; rintro e w2 ⟨rfl, b2⟩; have A2 := Lib.hid b2; clear b2))
  simp only [Exit.jump]
  go_ret2
  exact ⟨rfl, (adds_b w _).trans ((A1.out.trans (A2.out.mono A1.out.size)).mono (by simp))⟩

set_option maxHeartbeats 1000000 in
theorem pack_no (x : Int) (c : Nat) (hx : (Lit.int .i64 x).wf = true) (h : ¬ (0 ≤ x ∧ x ≤ 65535 ∧ c < 281474976710656)) (w : World) :
    Calls Tryd.prog 61 #[.int .i64 x, .int .u64 c] w fun e w' => e = .returned (.tuple #[.int .u64 0, .int .i64 2]) ∧ Below w.heap.size w w' := by
  have hb := bounds_i64 hx
  have hw := IntKind.wrap_u64 x
  obtain ⟨y, hy⟩ : ∃ y : Int, IntKind.u64.wrap x = y := ⟨_, rfl⟩
  rw [hy] at hw
  have HM := Lib.hid (may_any y c false (may_no (by omega)))
  clear hb hw h hx
  go_enter Tryd.func61, Tryd.ntmps61
  go_wp2
  refine wp_scope_fwd 0 rfl ?_
  go_wp2_with (first
    | (go_at_call 94; refine (HM.out _).mono ?_; rintro e w1 ⟨rfl, b1⟩; have A1 := Lib.hid b1; clear b1))
  go_step3
  refine ⟨rfl, ?_⟩
  go_wp2
  rw [Exit.noGoto_ret]
  go_ret2
  exact ⟨rfl, (adds_b w _).trans (A1.out.mono (by simp))⟩

theorem end_yes {n : Nat} (h0 : 1 ≤ n) (h1 : n < 281474976710656) : endB (n : Int) = true := by unfold endB; exact inB_yes (by omega) (by omega)
theorem end_no {n : Nat} (h : ¬ (1 ≤ n ∧ n < 281474976710656)) : endB (n : Int) = false := by unfold endB; exact inB_no (by omega)

set_option maxHeartbeats 1000000 in
theorem next_arg (e n : Nat) (h : ¬ (1 ≤ n ∧ n < 281474976710656)) (w : World) :
    Calls Tryd.prog 69 #[.int .u64 e, .int .u64 n] w fun x w' => x = .returned (.tuple #[.int .u64 0, .int .i64 2]) ∧ Below w.heap.size w w' := by
  have HM := Lib.hid (ends_any e n false (end_no h))
  clear h
  go_enter Tryd.func69, Tryd.ntmps69
  go_wp2
  refine wp_scope_fwd 0 rfl ?_
  go_wp2_with (first
    | (go_at_call 97; refine (HM.out _).mono ?_; rintro e w1 ⟨rfl, b1⟩; have A1 := Lib.hid b1; clear b1))
  go_step3
  refine ⟨rfl, ?_⟩
  go_wp2
  rw [Exit.noGoto_ret]
  go_ret2
  exact ⟨rfl, (adds_b w _).trans (A1.out.mono (by simp))⟩

set_option maxHeartbeats 1000000 in
theorem next_full (e n : Nat) (h0 : 1 ≤ n) (h1 : n < 281474976710656) (h : n ≤ eC e) (w : World) :
    Calls Tryd.prog 69 #[.int .u64 e, .int .u64 n] w fun x w' => x = .returned (.tuple #[.int .u64 0, .int .i64 130]) ∧ Below w.heap.size w w' := by
  have HM := Lib.hid (ends_any e n true (end_yes h0 h1))
  have HF := Lib.hid (full_any e n true (decide_eq_true h))
  clear h h0 h1
  go_enter Tryd.func69, Tryd.ntmps69
  go_wp2
  refine wp_scope_fwd 0 rfl ?_
  go_wp2_with (first
    | (go_at_call 97; refine (HM.out _).mono ?_; rintro e w1 ⟨rfl, b1⟩; have A1 := Lib.hid b1; obtain ⟨hc, hf⟩ := bcell b1; clear b1)
    | (go_at_call 98; refine (HF.out _).mono ?_; rintro e w2 ⟨rfl, b2⟩; have A2 := Lib.hid b2; clear b2))
  go_step3
  refine ⟨rfl, ?_⟩
  go_wp2
  rw [Exit.noGoto_ret]
  go_ret2
  exact ⟨rfl, (adds_b w _).trans ((A1.out.trans (A2.out.mono A1.out.size)).mono (by simp))⟩

set_option maxHeartbeats 2000000 in
theorem next_yes (e n : Nat) (he : e < 18446744073709551616) (h0 : 1 ≤ n) (h1 : n < 281474976710656) (h : eC e < n) (w : World) :
    Calls Tryd.prog 69 #[.int .u64 e, .int .u64 n] w fun x w' => x = .returned (.tuple #[.int .u64 (epN (eI e) (eC e + 1) : Nat), .int .i64 0]) ∧ Below w.heap.size w w' := by
  have HM := Lib.hid (ends_any e n true (end_yes h0 h1))
  have HF := Lib.hid (full_any e n false (decide_eq_false (by omega)))
  have HK := Lib.hid (clock_any e)
  have HT := Lib.hid (at_any e (eC e + 1) he (by omega))
  obtain ⟨c, hc⟩ : ∃ c : Int, c = ((eC e : Nat) : Int) := ⟨_, rfl⟩
  obtain ⟨d, hd⟩ : ∃ d : Int, d = ((eC e + 1 : Nat) : Int) := ⟨_, rfl⟩
  obtain ⟨y, hy⟩ : ∃ y : Int, y = ((epN (eI e) (eC e + 1) : Nat) : Int) := ⟨_, rfl⟩
  have hw1 : IntKind.u64.wrap (c + 1) = d := by rw [IntKind.wrap_u64]; omega
  rw [← hc] at HK
  rw [← hd, ← hy] at HT
  rw [← hy]
  clear hc hd hy h h0 h1 he
  go_enter Tryd.func69, Tryd.ntmps69
  go_wp2
  refine wp_scope_fwd 0 rfl ?_
  go_wp2_with (first
    | (go_at_call 97; refine (HM.out _).mono ?_; rintro e w1 ⟨rfl, b1⟩; have A1 := Lib.hid b1; obtain ⟨hc, hf⟩ := bcell b1; clear b1)
    | (go_at_call 98; refine (HF.out _).mono ?_; rintro e w2 ⟨rfl, b2⟩; have A2 := Lib.hid (A1.out.trans (b2.mono A1.out.size)); clear b2))
  clear hc hf
  have HC : Hid (∀ w', Adds w2.drew w' → w'.cell? ⟨w.heap.size, 0, none⟩ = some (.int .u64 e)) :=
    Lib.hid fun w' h => (h.cell (p := ⟨w.heap.size, 0, none⟩) (Nat.lt_of_lt_of_le (by simp) A2.out.size)).trans ((A2.out.cell (p := ⟨w.heap.size, 0, none⟩) (by simp)).trans (by simp))
  refine wp_region_loose [] (fun _ _ _ => True) Adds (by kernel_rfl) (by kernel_rfl) (by simp) Adds.refl (fun _ _ _ h k => h.trans k) (fun _ _ _ _ _ _ => trivial) ?_
  repeat (refine wpL_step (fun K hK => ?_); first
    | (refine stepL_ex (v := .pointer (some ⟨w.heap.size, 0, none⟩)) rfl rfl rfl Adds.refl ?_ ?_; (· (intro w' hw'; clear hK; go_simp)); go_simp; refine hK _ ?_; clear hK K)
    | (refine stepL_ex (v := .int .u64 e) rfl rfl rfl Adds.refl ?_ ?_; (· (intro w' hw'; clear hK; have hS := HC.out w' hw'; go_simp)); go_simp; refine hK _ ?_; clear hK K)
    | (refine stepL_ex (v := .int .u64 d) rfl rfl rfl Adds.refl ?_ ?_; (· (intro w' hw'; clear hK; go_simp)); go_simp; refine hK _ ?_; clear hK K)
    | (refine stepL_ex (v := .int .u64 y) rfl rfl rfl Adds.refl ?_ ?_; (· (intro w' hw'; clear hK; go_simp)); go_simp; refine hK _ ?_; clear hK K)
    | (refine stepL_ex (v := .int .i64 0) rfl rfl rfl Adds.refl ?_ ?_; (· (intro w' hw'; clear hK; go_simp)); go_simp; refine hK _ ?_; clear hK K)
    | (refine stepL_call (v := .int .u64 c) (f := 100) (args := #[.int .u64 e]) rfl rfl rfl ?_ (fun w' hw' => HK.out w') ?_; (· (intro w'; clear hK; go_simp)); go_simp; refine hK _ ?_; clear hK K)
    | (refine stepL_call (v := .int .u64 y) (f := 99) (args := #[.int .u64 e, .int .u64 d]) rfl rfl rfl ?_ (fun w' hw' => HT.out w') ?_; (· (intro w'; clear hK; go_simp)); go_simp; refine hK _ ?_; clear hK K))
  refine wpL_nil ?_
  intro w3 a3
  simp only [forL]
  have A3 := Lib.hid a3; clear a3
  go_wp2
  simp only [Exit.jump]
  go_ret2
  exact ⟨rfl, (adds_b w _).trans ((A2.out.trans (((Adds.drew w2).trans A3.out).mono A2.out.size)).mono (by simp))⟩
end Go.Proofs.YtcimppggemdidaaDoor
