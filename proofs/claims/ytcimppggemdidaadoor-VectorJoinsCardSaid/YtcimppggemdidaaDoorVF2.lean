/- Contracts: upTo, Check, Get, Has, Stands. -/
import Derived.Test.YtcimppggemdidaaDoorVE2
import Derived.Test.YtcimppggemdidaaDoorKF3
namespace Go.Proofs.YtcimppggemdidaaDoor
open Go Go.RowKit

set_option maxHeartbeats 400000 in
theorem upTo_any {n : Nat} (va vb : Value) (a b : List UInt64) (z : Bool) (hz : upB a b = z) (w : World) (ha : Words n w va a) (hb : Words n w vb b) :
    Calls Tryd.prog 77 #[va, vb] w fun e w' => e = .returned (.bool z) ∧ Adds w w' := by
  have HE := Lib.hid (every_cov va a vb b w hb ha z hz fun i h => by rw [h]; exact UInt64.le_iff_toNat_le.2 (by simp))
  clear ha hb hz
  go_enter Tryd.func77, Tryd.ntmps77
  go_wp2_with (go_at_call 62; refine HE.out.mono ?_; rintro e w' ⟨rfl, a1⟩; have A1 := Lib.hid a1; clear a1)
  go_ret
  exact ⟨rfl, A1.out⟩

/-- May a vector be? -/
def clkB (c : List UInt64) : Bool := (List.range c.length).all fun i => decide ((gD c i).toNat ≤ 281474976710655)
def rightB (c : List UInt64) : Bool := decide (c.length ≤ 65536) && clkB c
set_option maxHeartbeats 1000000 in
theorem check_any {n : Nat} (v : Value) (c : List UInt64) (w : World) (hv : Words n w v c) :
    Calls Tryd.prog 28 #[v] w fun e w' => e = .returned (.int .i64 (if rightB c then 0 else 2)) ∧ Adds w w' := by
  have HE := Lib.hid (fun z hz => every_clk v c w hv z hz fun i h => by rw [h]; decide)
  obtain ⟨ao, cap, rfl, h1, h2, _⟩ := hv
  unfold maxLen at h2
  by_cases hl : c.length ≤ 65536
  · cases hc : clkB c with
    | true =>
      have e : rightB c = true := by simp [rightB, hl, hc]
      rw [e]
      have HC := Lib.hid (HE.out true hc)
      have hgt : ¬ ((65536 : Int) < (c.length : Int)) := by omega
      clear HE hc e
      go_enter Tryd.func28, Tryd.ntmps28
      go_wp2
      refine wp_scope_fwd 0 rfl ?_
      go_wp2_with (go_at_call 62; refine HC.out.mono ?_; rintro e w' ⟨rfl, a1⟩; have A1 := Lib.hid a1; clear a1)
      simp only [Exit.jump]
      go_ret
      exact ⟨rfl, A1.out⟩
    | false =>
      have e : rightB c = false := by simp [rightB, hc]
      rw [e]
      have HC := Lib.hid (HE.out false hc)
      have hgt : ¬ ((65536 : Int) < (c.length : Int)) := by omega
      clear HE hc e
      go_enter Tryd.func28, Tryd.ntmps28
      go_wp2
      refine wp_scope_fwd 0 rfl ?_
      go_wp2_with (go_at_call 62; refine HC.out.mono ?_; rintro e w' ⟨rfl, a1⟩; have A1 := Lib.hid a1; clear a1)
      go_step3
      refine ⟨rfl, ?_⟩
      go_wp2
      rw [Exit.noGoto_ret]
      go_ret
      exact ⟨rfl, A1.out⟩
  · have e : rightB c = false := by simp [rightB, hl]
    rw [e]
    have hgt : (65536 : Int) < (c.length : Int) := by omega
    clear HE e
    go_enter Tryd.func28, Tryd.ntmps28
    go_wp2
    refine wp_scope_fwd 0 rfl ?_
    go_wp2
    go_step3
    refine ⟨rfl, ?_⟩
    go_wp2
    rw [Exit.noGoto_ret]
    go_ret
    exact ⟨rfl, Adds.refl _⟩

set_option maxHeartbeats 400000 in
theorem vget_any {n : Nat} (v : Value) (l : List UInt64) (x : Int) (w : World) (hv : Words n w v l) :
    Calls Tryd.prog 33 #[v, .int .i64 x] w fun e w' => e = .returned (.int .u64 (gI l x : Nat)) ∧ w = w' := by
  have HG := Lib.hid (get_any v l x w hv); clear hv
  obtain ⟨y, hy⟩ : ∃ y : Int, ((gI l x : Nat) : Int) = y := ⟨_, rfl⟩
  rw [hy] at HG ⊢
  clear hy
  go_enter Tryd.func33, Tryd.ntmps33
  go_wp2_with (go_at_call 65; refine HG.out.mono ?_; rintro e w' ⟨rfl, rfl⟩)
  go_ret
  exact ⟨rfl, rfl⟩

/-- Has a vector an epoch? -/
def hasB (c : List UInt64) (e : Nat) : Bool := decide (eC e ≤ (gD c (eI e)).toNat)
set_option maxHeartbeats 400000 in
theorem has_any {n : Nat} (v : Value) (c : List UInt64) (x : Nat) (hx : x < 18446744073709551616) (w : World) (hv : Words n w v c) :
    Calls Tryd.prog 35 #[v, .int .u64 x] w fun e w' => e = .returned (.bool (hasB c x)) ∧ Adds w w' := by
  have HP := Lib.hid (epParts_any x hx w)
  have HC := Lib.hid (fun W (h : Adds w W) => covers_any v c ((eI x : Nat) : Int) (eC x) (hasB c x) (by unfold hasB; rw [gI_nat]) W (hv.here.adds h)); clear hv
  obtain ⟨a, b, ha, hb⟩ := gets x
  rw [← ha, ← hb] at HP
  rw [← ha, ← hb] at HC
  clear ha hb hx
  obtain ⟨z, hz⟩ : ∃ z, hasB c x = z := ⟨_, rfl⟩
  rw [hz] at HC ⊢
  clear hz
  go_enter Tryd.func35, Tryd.ntmps35
  go_wp2_with (first
    | (go_at_call 67; refine HP.out.mono ?_; rintro e w1 ⟨rfl, a1⟩; have A1 := Lib.hid a1; clear a1)
    | (go_at_call 66; refine (HC.out _ A1.out).mono ?_; rintro e w' ⟨rfl, rfl⟩))
  go_ret
  exact ⟨rfl, A1.out⟩

theorem gH : Tryd.prog.globalNamed "linesman/vector.how" = some 0 := by kernel_rfl
/-- What the table of how two stand holds. -/
structure How (w : World) : Prop where
  c0 : w.cell? ⟨0, 0, none⟩ = some (.int .i64 4)
  c1 : w.cell? ⟨0, 1, none⟩ = some (.int .i64 3)
  c2 : w.cell? ⟨0, 2, none⟩ = some (.int .i64 2)
  c3 : w.cell? ⟨0, 3, none⟩ = some (.int .i64 1)
theorem How.adds {w w' : World} (h : How w) (hb : Adds w w') : How w' :=
  ⟨hb.cellAt h.c0, hb.cellAt h.c1, hb.cellAt h.c2, hb.cellAt h.c3⟩

set_option maxRecDepth 100000 in
set_option maxHeartbeats 4000000 in
theorem stands_any {n : Nat} (va vb : Value) (a b : List UInt64) (w : World) (ha : Words n w va a) (hb : Words n w vb b) (hw : How w) :
    Calls Tryd.prog 41 #[va, vb] w fun e w' => e = .returned (.int .i64 (standI a b)) ∧ Adds w w' := by
  have HU1 := Lib.hid (fun z (hz : upB a b = z) W (h : Adds w W) => upTo_any va vb a b z hz W (ha.here.adds h) (hb.here.adds h))
  have HU2 := Lib.hid (fun z (hz : upB b a = z) W (h : Adds w W) => upTo_any vb va b a z hz W (hb.here.adds h) (ha.here.adds h))
  have HH := Lib.hid (fun W (h : Adds w W) => hw.adds h)
  clear ha hb hw
  obtain ⟨z1, h1⟩ : ∃ z, upB a b = z := ⟨_, rfl⟩
  obtain ⟨z2, h2⟩ : ∃ z, upB b a = z := ⟨_, rfl⟩
  have HA := Lib.hid (HU1.out z1 h1)
  have HB := Lib.hid (HU2.out z2 h2)
  unfold standI
  rw [h1, h2]
  clear HU1 HU2 h1 h2
  have HG := Lib.hid (Adds.drew w)
  go_enter Tryd.func41, Tryd.ntmps41
  rcases z1 with _ | _ <;> rcases z2 with _ | _
  · have HL0 := Lib.hid (fun W (h : Adds w.drew W) => (HH.out W ((Adds.drew w).trans h)).c0)
    have HL1 := Lib.hid (fun W (h : Adds w.drew W) => (HH.out W ((Adds.drew w).trans h)).c1)
    have HL2 := Lib.hid (fun W (h : Adds w.drew W) => (HH.out W ((Adds.drew w).trans h)).c2)
    have HL3 := Lib.hid (fun W (h : Adds w.drew W) => (HH.out W ((Adds.drew w).trans h)).c3)
    go_wp2_with fail
    refine wp_region_loose [] (fun _ _ _ => True) Adds (by kernel_rfl) (by kernel_rfl) (by simp) Adds.refl (fun _ _ _ h k => h.trans k) (fun _ _ _ _ _ _ => trivial) ?_
    repeat (refine wpL_step (fun K hK => ?_); first
      | (refine stepL_call (f := 76) (v := .int .i64 0) (args := #[.bool false]) rfl rfl rfl ?_ (fun w' _ => (place_any false w').mono fun e w'' h => ⟨h.1, h.2 ▸ Adds.refl _⟩) ?_; (· (intro w'; clear hK; go_simp)); refine hK _ ?_; clear hK K)
      | (refine stepL_call (f := 76) (v := .int .i64 1) (args := #[.bool true]) rfl rfl rfl ?_ (fun w' _ => (place_any true w').mono fun e w'' h => ⟨h.1, h.2 ▸ Adds.refl _⟩) ?_; (· (intro w'; clear hK; go_simp)); refine hK _ ?_; clear hK K)
      | (refine stepL_call (f := 77) (v := .bool false) (args := #[va, vb]) rfl rfl rfl ?_ (fun w' hw' => HA.out w' ((Adds.drew _).trans hw')) ?_; (· (intro w'; clear hK; go_simp)); refine hK _ ?_; clear hK K)
      | (refine stepL_call (f := 77) (v := .bool false) (args := #[vb, va]) rfl rfl rfl ?_ (fun w' hw' => HB.out w' ((Adds.drew _).trans hw')) ?_; (· (intro w'; clear hK; go_simp)); refine hK _ ?_; clear hK K)
      | (refine stepL_ex (v := .pointer (some ⟨0, 0, none⟩)) rfl rfl rfl Adds.refl (fun w' hw' => rfl) ?_; go_simp; refine hK _ ?_; clear hK K)
      | (refine stepL_ex (v := .pointer (some ⟨0, 0, none⟩)) rfl rfl rfl Adds.refl (fun w' hw' => rfl) ?_; go_simp; refine hK _ ?_; clear hK K)
      | (refine stepL_ex (v := .int .i64 4) rfl rfl rfl Adds.refl (fun w' hw' => ?_) ?_; (· (have hc := HL0.out w' hw'; clear hK; simp [execOp, Instr.loadAt, go_sem, hc]; done)); go_simp; refine hK _ ?_; clear hK K)
      | (refine stepL_ex rfl rfl rfl Adds.refl (fun w' hw' => rfl) ?_; go_simp; refine hK _ ?_; clear hK K))
    refine wpL_nil ?_
    intro w10 a10
    simp only [forL]
    have A10 := Lib.hid ((Adds.drew _).trans a10); clear a10
    go_wp2
    go_ret
    exact ⟨rfl, A10.out⟩
  · have HL0 := Lib.hid (fun W (h : Adds w.drew W) => (HH.out W ((Adds.drew w).trans h)).c0)
    have HL1 := Lib.hid (fun W (h : Adds w.drew W) => (HH.out W ((Adds.drew w).trans h)).c1)
    have HL2 := Lib.hid (fun W (h : Adds w.drew W) => (HH.out W ((Adds.drew w).trans h)).c2)
    have HL3 := Lib.hid (fun W (h : Adds w.drew W) => (HH.out W ((Adds.drew w).trans h)).c3)
    go_wp2_with fail
    refine wp_region_loose [] (fun _ _ _ => True) Adds (by kernel_rfl) (by kernel_rfl) (by simp) Adds.refl (fun _ _ _ h k => h.trans k) (fun _ _ _ _ _ _ => trivial) ?_
    repeat (refine wpL_step (fun K hK => ?_); first
      | (refine stepL_call (f := 76) (v := .int .i64 0) (args := #[.bool false]) rfl rfl rfl ?_ (fun w' _ => (place_any false w').mono fun e w'' h => ⟨h.1, h.2 ▸ Adds.refl _⟩) ?_; (· (intro w'; clear hK; go_simp)); refine hK _ ?_; clear hK K)
      | (refine stepL_call (f := 76) (v := .int .i64 1) (args := #[.bool true]) rfl rfl rfl ?_ (fun w' _ => (place_any true w').mono fun e w'' h => ⟨h.1, h.2 ▸ Adds.refl _⟩) ?_; (· (intro w'; clear hK; go_simp)); refine hK _ ?_; clear hK K)
      | (refine stepL_call (f := 77) (v := .bool false) (args := #[va, vb]) rfl rfl rfl ?_ (fun w' hw' => HA.out w' ((Adds.drew _).trans hw')) ?_; (· (intro w'; clear hK; go_simp)); refine hK _ ?_; clear hK K)
      | (refine stepL_call (f := 77) (v := .bool true) (args := #[vb, va]) rfl rfl rfl ?_ (fun w' hw' => HB.out w' ((Adds.drew _).trans hw')) ?_; (· (intro w'; clear hK; go_simp)); refine hK _ ?_; clear hK K)
      | (refine stepL_ex (v := .pointer (some ⟨0, 0, none⟩)) rfl rfl rfl Adds.refl (fun w' hw' => rfl) ?_; go_simp; refine hK _ ?_; clear hK K)
      | (refine stepL_ex (v := .pointer (some ⟨0, 1, none⟩)) rfl rfl rfl Adds.refl (fun w' hw' => rfl) ?_; go_simp; refine hK _ ?_; clear hK K)
      | (refine stepL_ex (v := .int .i64 3) rfl rfl rfl Adds.refl (fun w' hw' => ?_) ?_; (· (have hc := HL1.out w' hw'; clear hK; simp [execOp, Instr.loadAt, go_sem, hc]; done)); go_simp; refine hK _ ?_; clear hK K)
      | (refine stepL_ex rfl rfl rfl Adds.refl (fun w' hw' => rfl) ?_; go_simp; refine hK _ ?_; clear hK K))
    refine wpL_nil ?_
    intro w10 a10
    simp only [forL]
    have A10 := Lib.hid ((Adds.drew _).trans a10); clear a10
    go_wp2
    go_ret
    exact ⟨rfl, A10.out⟩
  · have HL0 := Lib.hid (fun W (h : Adds w.drew W) => (HH.out W ((Adds.drew w).trans h)).c0)
    have HL1 := Lib.hid (fun W (h : Adds w.drew W) => (HH.out W ((Adds.drew w).trans h)).c1)
    have HL2 := Lib.hid (fun W (h : Adds w.drew W) => (HH.out W ((Adds.drew w).trans h)).c2)
    have HL3 := Lib.hid (fun W (h : Adds w.drew W) => (HH.out W ((Adds.drew w).trans h)).c3)
    go_wp2_with fail
    refine wp_region_loose [] (fun _ _ _ => True) Adds (by kernel_rfl) (by kernel_rfl) (by simp) Adds.refl (fun _ _ _ h k => h.trans k) (fun _ _ _ _ _ _ => trivial) ?_
    repeat (refine wpL_step (fun K hK => ?_); first
      | (refine stepL_call (f := 76) (v := .int .i64 0) (args := #[.bool false]) rfl rfl rfl ?_ (fun w' _ => (place_any false w').mono fun e w'' h => ⟨h.1, h.2 ▸ Adds.refl _⟩) ?_; (· (intro w'; clear hK; go_simp)); refine hK _ ?_; clear hK K)
      | (refine stepL_call (f := 76) (v := .int .i64 1) (args := #[.bool true]) rfl rfl rfl ?_ (fun w' _ => (place_any true w').mono fun e w'' h => ⟨h.1, h.2 ▸ Adds.refl _⟩) ?_; (· (intro w'; clear hK; go_simp)); refine hK _ ?_; clear hK K)
      | (refine stepL_call (f := 77) (v := .bool true) (args := #[va, vb]) rfl rfl rfl ?_ (fun w' hw' => HA.out w' ((Adds.drew _).trans hw')) ?_; (· (intro w'; clear hK; go_simp)); refine hK _ ?_; clear hK K)
      | (refine stepL_call (f := 77) (v := .bool false) (args := #[vb, va]) rfl rfl rfl ?_ (fun w' hw' => HB.out w' ((Adds.drew _).trans hw')) ?_; (· (intro w'; clear hK; go_simp)); refine hK _ ?_; clear hK K)
      | (refine stepL_ex (v := .pointer (some ⟨0, 2, none⟩)) rfl rfl rfl Adds.refl (fun w' hw' => rfl) ?_; go_simp; refine hK _ ?_; clear hK K)
      | (refine stepL_ex (v := .pointer (some ⟨0, 2, none⟩)) rfl rfl rfl Adds.refl (fun w' hw' => rfl) ?_; go_simp; refine hK _ ?_; clear hK K)
      | (refine stepL_ex (v := .int .i64 2) rfl rfl rfl Adds.refl (fun w' hw' => ?_) ?_; (· (have hc := HL2.out w' hw'; clear hK; simp [execOp, Instr.loadAt, go_sem, hc]; done)); go_simp; refine hK _ ?_; clear hK K)
      | (refine stepL_ex rfl rfl rfl Adds.refl (fun w' hw' => rfl) ?_; go_simp; refine hK _ ?_; clear hK K))
    refine wpL_nil ?_
    intro w10 a10
    simp only [forL]
    have A10 := Lib.hid ((Adds.drew _).trans a10); clear a10
    go_wp2
    go_ret
    exact ⟨rfl, A10.out⟩
  · have HL0 := Lib.hid (fun W (h : Adds w.drew W) => (HH.out W ((Adds.drew w).trans h)).c0)
    have HL1 := Lib.hid (fun W (h : Adds w.drew W) => (HH.out W ((Adds.drew w).trans h)).c1)
    have HL2 := Lib.hid (fun W (h : Adds w.drew W) => (HH.out W ((Adds.drew w).trans h)).c2)
    have HL3 := Lib.hid (fun W (h : Adds w.drew W) => (HH.out W ((Adds.drew w).trans h)).c3)
    go_wp2_with fail
    refine wp_region_loose [] (fun _ _ _ => True) Adds (by kernel_rfl) (by kernel_rfl) (by simp) Adds.refl (fun _ _ _ h k => h.trans k) (fun _ _ _ _ _ _ => trivial) ?_
    repeat (refine wpL_step (fun K hK => ?_); first
      | (refine stepL_call (f := 76) (v := .int .i64 0) (args := #[.bool false]) rfl rfl rfl ?_ (fun w' _ => (place_any false w').mono fun e w'' h => ⟨h.1, h.2 ▸ Adds.refl _⟩) ?_; (· (intro w'; clear hK; go_simp)); refine hK _ ?_; clear hK K)
      | (refine stepL_call (f := 76) (v := .int .i64 1) (args := #[.bool true]) rfl rfl rfl ?_ (fun w' _ => (place_any true w').mono fun e w'' h => ⟨h.1, h.2 ▸ Adds.refl _⟩) ?_; (· (intro w'; clear hK; go_simp)); refine hK _ ?_; clear hK K)
      | (refine stepL_call (f := 77) (v := .bool true) (args := #[va, vb]) rfl rfl rfl ?_ (fun w' hw' => HA.out w' ((Adds.drew _).trans hw')) ?_; (· (intro w'; clear hK; go_simp)); refine hK _ ?_; clear hK K)
      | (refine stepL_call (f := 77) (v := .bool true) (args := #[vb, va]) rfl rfl rfl ?_ (fun w' hw' => HB.out w' ((Adds.drew _).trans hw')) ?_; (· (intro w'; clear hK; go_simp)); refine hK _ ?_; clear hK K)
      | (refine stepL_ex (v := .pointer (some ⟨0, 2, none⟩)) rfl rfl rfl Adds.refl (fun w' hw' => rfl) ?_; go_simp; refine hK _ ?_; clear hK K)
      | (refine stepL_ex (v := .pointer (some ⟨0, 3, none⟩)) rfl rfl rfl Adds.refl (fun w' hw' => rfl) ?_; go_simp; refine hK _ ?_; clear hK K)
      | (refine stepL_ex (v := .int .i64 1) rfl rfl rfl Adds.refl (fun w' hw' => ?_) ?_; (· (have hc := HL3.out w' hw'; clear hK; simp [execOp, Instr.loadAt, go_sem, hc]; done)); go_simp; refine hK _ ?_; clear hK K)
      | (refine stepL_ex rfl rfl rfl Adds.refl (fun w' hw' => rfl) ?_; go_simp; refine hK _ ?_; clear hK K))
    refine wpL_nil ?_
    intro w10 a10
    simp only [forL]
    have A10 := Lib.hid ((Adds.drew _).trans a10); clear a10
    go_wp2
    go_ret
    exact ⟨rfl, A10.out⟩
end Go.Proofs.YtcimppggemdidaaDoor
