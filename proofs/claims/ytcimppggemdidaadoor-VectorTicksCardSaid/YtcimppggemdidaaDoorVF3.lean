/- Contract: Stands. -/
import Derived.Test.YtcimppggemdidaaDoorVF2
namespace Go.Proofs.YtcimppggemdidaaDoor
open Go Go.RowKit

set_option maxRecDepth 100000 in
set_option maxHeartbeats 4000000 in
theorem stands_any {n : Nat} (va vb : Value) (a b : List UInt64) (w : World) (ha : Words n w va a) (hb : Words n w vb b) (hw : How w) :
    Calls Tryd.prog 41 #[va, vb] w fun e w' => e = .returned (.int .i64 (standI a b)) ∧ Adds w w' := by
  have HU1 := Lib.hid (fun z (hz : upB a b = z) W (h : Adds w W) => upTo_any va vb a b z hz W (ha.here.adds h) (hb.here.adds h))
  have HU2 := Lib.hid (fun z (hz : upB b a = z) W (h : Adds w W) => upTo_any vb va b a z hz W (hb.here.adds h) (ha.here.adds h))
  have HH := Lib.hid (fun W (h : Adds w W) => hw.adds h)
  clear ha hb hw
  obtain ⟨z1, h1⟩ : ∃ z, upB a b = z := ⟨_, rfl⟩
  obtain ⟨z2, h2⟩ : ∃ z, upB b a = z := ⟨_, rfl⟩
  have HA := Lib.hid (HU1.out z1 h1)
  have HB := Lib.hid (HU2.out z2 h2)
  unfold standI
  rw [h1, h2]
  clear HU1 HU2 h1 h2
  have HG := Lib.hid (Adds.drew w)
  go_enter Tryd.func41, Tryd.ntmps41
  rcases z1 with _ | _ <;> rcases z2 with _ | _
  · have HL0 := Lib.hid (fun W (h : Adds w.drew W) => (HH.out W ((Adds.drew w).trans h)).c0)
    have HL1 := Lib.hid (fun W (h : Adds w.drew W) => (HH.out W ((Adds.drew w).trans h)).c1)
    have HL2 := Lib.hid (fun W (h : Adds w.drew W) => (HH.out W ((Adds.drew w).trans h)).c2)
    have HL3 := Lib.hid (fun W (h : Adds w.drew W) => (HH.out W ((Adds.drew w).trans h)).c3)
    go_wp2_with fail
    refine wp_region_loose [] (fun _ _ _ => True) Adds (by kernel_rfl) (by kernel_rfl) (by simp) Adds.refl (fun _ _ _ h k => h.trans k) (fun _ _ _ _ _ _ => trivial) ?_
    repeat (refine wpL_step (fun K hK => ?_); first
      | (refine stepL_call (f := 76) (v := .int .i64 0) (args := #[.bool false]) rfl rfl rfl ?_ (fun w' _ => (place_any false w').mono fun e w'' h => ⟨h.1, h.2 ▸ Adds.refl _⟩) ?_; (· (intro w'; clear hK; go_simp)); refine hK _ ?_; clear hK K)
      | (refine stepL_call (f := 76) (v := .int .i64 1) (args := #[.bool true]) rfl rfl rfl ?_ (fun w' _ => (place_any true w').mono fun e w'' h => ⟨h.1, h.2 ▸ Adds.refl _⟩) ?_; (· (intro w'; clear hK; go_simp)); refine hK _ ?_; clear hK K)
      | (refine stepL_call (f := 77) (v := .bool false) (args := #[va, vb]) rfl rfl rfl ?_ (fun w' hw' => HA.out w' ((Adds.drew _).trans hw')) ?_; (· (intro w'; clear hK; go_simp)); refine hK _ ?_; clear hK K)
      | (refine stepL_call (f := 77) (v := .bool false) (args := #[vb, va]) rfl rfl rfl ?_ (fun w' hw' => HB.out w' ((Adds.drew _).trans hw')) ?_; (· (intro w'; clear hK; go_simp)); refine hK _ ?_; clear hK K)
      | (refine stepL_ex (v := .pointer (some ⟨0, 0, none⟩)) rfl rfl rfl Adds.refl (fun w' hw' => rfl) ?_; go_simp; refine hK _ ?_; clear hK K)
      | (refine stepL_ex (v := .pointer (some ⟨0, 0, none⟩)) rfl rfl rfl Adds.refl (fun w' hw' => rfl) ?_; go_simp; refine hK _ ?_; clear hK K)
      | (refine stepL_ex (v := .int .i64 4) rfl rfl rfl Adds.refl (fun w' hw' => ?_) ?_; (· (have hc := HL0.out w' hw'; clear hK; simp [execOp, Instr.loadAt, go_sem, hc]; done)); go_simp; refine hK _ ?_; clear hK K)
      | (refine stepL_ex rfl rfl rfl Adds.refl (fun w' hw' => rfl) ?_; go_simp; refine hK _ ?_; clear hK K))
    refine wpL_nil ?_
    intro w10 a10
    simp only [forL]
    have A10 := Lib.hid ((Adds.drew _).trans a10); clear a10
    go_wp2
    go_ret
    exact ⟨rfl, A10.out⟩
  · have HL0 := Lib.hid (fun W (h : Adds w.drew W) => (HH.out W ((Adds.drew w).trans h)).c0)
    have HL1 := Lib.hid (fun W (h : Adds w.drew W) => (HH.out W ((Adds.drew w).trans h)).c1)
    have HL2 := Lib.hid (fun W (h : Adds w.drew W) => (HH.out W ((Adds.drew w).trans h)).c2)
    have HL3 := Lib.hid (fun W (h : Adds w.drew W) => (HH.out W ((Adds.drew w).trans h)).c3)
    go_wp2_with fail
    refine wp_region_loose [] (fun _ _ _ => True) Adds (by kernel_rfl) (by kernel_rfl) (by simp) Adds.refl (fun _ _ _ h k => h.trans k) (fun _ _ _ _ _ _ => trivial) ?_
    repeat (refine wpL_step (fun K hK => ?_); first
      | (refine stepL_call (f := 76) (v := .int .i64 0) (args := #[.bool false]) rfl rfl rfl ?_ (fun w' _ => (place_any false w').mono fun e w'' h => ⟨h.1, h.2 ▸ Adds.refl _⟩) ?_; (· (intro w'; clear hK; go_simp)); refine hK _ ?_; clear hK K)
      | (refine stepL_call (f := 76) (v := .int .i64 1) (args := #[.bool true]) rfl rfl rfl ?_ (fun w' _ => (place_any true w').mono fun e w'' h => ⟨h.1, h.2 ▸ Adds.refl _⟩) ?_; (· (intro w'; clear hK; go_simp)); refine hK _ ?_; clear hK K)
      | (refine stepL_call (f := 77) (v := .bool false) (args := #[va, vb]) rfl rfl rfl ?_ (fun w' hw' => HA.out w' ((Adds.drew _).trans hw')) ?_; (· (intro w'; clear hK; go_simp)); refine hK _ ?_; clear hK K)
      | (refine stepL_call (f := 77) (v := .bool true) (args := #[vb, va]) rfl rfl rfl ?_ (fun w' hw' => HB.out w' ((Adds.drew _).trans hw')) ?_; (· (intro w'; clear hK; go_simp)); refine hK _ ?_; clear hK K)
      | (refine stepL_ex (v := .pointer (some ⟨0, 0, none⟩)) rfl rfl rfl Adds.refl (fun w' hw' => rfl) ?_; go_simp; refine hK _ ?_; clear hK K)
      | (refine stepL_ex (v := .pointer (some ⟨0, 1, none⟩)) rfl rfl rfl Adds.refl (fun w' hw' => rfl) ?_; go_simp; refine hK _ ?_; clear hK K)
      | (refine stepL_ex (v := .int .i64 3) rfl rfl rfl Adds.refl (fun w' hw' => ?_) ?_; (· (have hc := HL1.out w' hw'; clear hK; simp [execOp, Instr.loadAt, go_sem, hc]; done)); go_simp; refine hK _ ?_; clear hK K)
      | (refine stepL_ex rfl rfl rfl Adds.refl (fun w' hw' => rfl) ?_; go_simp; refine hK _ ?_; clear hK K))
    refine wpL_nil ?_
    intro w10 a10
    simp only [forL]
    have A10 := Lib.hid ((Adds.drew _).trans a10); clear a10
    go_wp2
    go_ret
    exact ⟨rfl, A10.out⟩
  · have HL0 := Lib.hid (fun W (h : Adds w.drew W) => (HH.out W ((Adds.drew w).trans h)).c0)
    have HL1 := Lib.hid (fun W (h : Adds w.drew W) => (HH.out W ((Adds.drew w).trans h)).c1)
    have HL2 := Lib.hid (fun W (h : Adds w.drew W) => (HH.out W ((Adds.drew w).trans h)).c2)
    have HL3 := Lib.hid (fun W (h : Adds w.drew W) => (HH.out W ((Adds.drew w).trans h)).c3)
    go_wp2_with fail
    refine wp_region_loose [] (fun _ _ _ => True) Adds (by kernel_rfl) (by kernel_rfl) (by simp) Adds.refl (fun _ _ _ h k => h.trans k) (fun _ _ _ _ _ _ => trivial) ?_
    repeat (refine wpL_step (fun K hK => ?_); first
      | (refine stepL_call (f := 76) (v := .int .i64 0) (args := #[.bool false]) rfl rfl rfl ?_ (fun w' _ => (place_any false w').mono fun e w'' h => ⟨h.1, h.2 ▸ Adds.refl _⟩) ?_; (· (intro w'; clear hK; go_simp)); refine hK _ ?_; clear hK K)
      | (refine stepL_call (f := 76) (v := .int .i64 1) (args := #[.bool true]) rfl rfl rfl ?_ (fun w' _ => (place_any true w').mono fun e w'' h => ⟨h.1, h.2 ▸ Adds.refl _⟩) ?_; (· (intro w'; clear hK; go_simp)); refine hK _ ?_; clear hK K)
      | (refine stepL_call (f := 77) (v := .bool true) (args := #[va, vb]) rfl rfl rfl ?_ (fun w' hw' => HA.out w' ((Adds.drew _).trans hw')) ?_; (· (intro w'; clear hK; go_simp)); refine hK _ ?_; clear hK K)
      | (refine stepL_call (f := 77) (v := .bool false) (args := #[vb, va]) rfl rfl rfl ?_ (fun w' hw' => HB.out w' ((Adds.drew _).trans hw')) ?_; (· (intro w'; clear hK; go_simp)); refine hK _ ?_; clear hK K)
      | (refine stepL_ex (v := .pointer (some ⟨0, 2, none⟩)) rfl rfl rfl Adds.refl (fun w' hw' => rfl) ?_; go_simp; refine hK _ ?_; clear hK K)
      | (refine stepL_ex (v := .pointer (some ⟨0, 2, none⟩)) rfl rfl rfl Adds.refl (fun w' hw' => rfl) ?_; go_simp; refine hK _ ?_; clear hK K)
      | (refine stepL_ex (v := .int .i64 2) rfl rfl rfl Adds.refl (fun w' hw' => ?_) ?_; (· (have hc := HL2.out w' hw'; clear hK; simp [execOp, Instr.loadAt, go_sem, hc]; done)); go_simp; refine hK _ ?_; clear hK K)
      | (refine stepL_ex rfl rfl rfl Adds.refl (fun w' hw' => rfl) ?_; go_simp; refine hK _ ?_; clear hK K))
    refine wpL_nil ?_
    intro w10 a10
    simp only [forL]
    have A10 := Lib.hid ((Adds.drew _).trans a10); clear a10
    go_wp2
    go_ret
    exact ⟨rfl, A10.out⟩
  · have HL0 := Lib.hid (fun W (h : Adds w.drew W) => (HH.out W ((Adds.drew w).trans h)).c0)
    have HL1 := Lib.hid (fun W (h : Adds w.drew W) => (HH.out W ((Adds.drew w).trans h)).c1)
    have HL2 := Lib.hid (fun W (h : Adds w.drew W) => (HH.out W ((Adds.drew w).trans h)).c2)
    have HL3 := Lib.hid (fun W (h : Adds w.drew W) => (HH.out W ((Adds.drew w).trans h)).c3)
    go_wp2_with fail
    refine wp_region_loose [] (fun _ _ _ => True) Adds (by kernel_rfl) (by kernel_rfl) (by simp) Adds.refl (fun _ _ _ h k => h.trans k) (fun _ _ _ _ _ _ => trivial) ?_
    repeat (refine wpL_step (fun K hK => ?_); first
      | (refine stepL_call (f := 76) (v := .int .i64 0) (args := #[.bool false]) rfl rfl rfl ?_ (fun w' _ => (place_any false w').mono fun e w'' h => ⟨h.1, h.2 ▸ Adds.refl _⟩) ?_; (· (intro w'; clear hK; go_simp)); refine hK _ ?_; clear hK K)
      | (refine stepL_call (f := 76) (v := .int .i64 1) (args := #[.bool true]) rfl rfl rfl ?_ (fun w' _ => (place_any true w').mono fun e w'' h => ⟨h.1, h.2 ▸ Adds.refl _⟩) ?_; (· (intro w'; clear hK; go_simp)); refine hK _ ?_; clear hK K)
      | (refine stepL_call (f := 77) (v := .bool true) (args := #[va, vb]) rfl rfl rfl ?_ (fun w' hw' => HA.out w' ((Adds.drew _).trans hw')) ?_; (· (intro w'; clear hK; go_simp)); refine hK _ ?_; clear hK K)
      | (refine stepL_call (f := 77) (v := .bool true) (args := #[vb, va]) rfl rfl rfl ?_ (fun w' hw' => HB.out w' ((Adds.drew _).trans hw')) ?_; (· (intro w'; clear hK; go_simp)); refine hK _ ?_; clear hK K)
      | (refine stepL_ex (v := .pointer (some ⟨0, 2, none⟩)) rfl rfl rfl Adds.refl (fun w' hw' => rfl) ?_; go_simp; refine hK _ ?_; clear hK K)
      | (refine stepL_ex (v := .pointer (some ⟨0, 3, none⟩)) rfl rfl rfl Adds.refl (fun w' hw' => rfl) ?_; go_simp; refine hK _ ?_; clear hK K)
      | (refine stepL_ex (v := .int .i64 1) rfl rfl rfl Adds.refl (fun w' hw' => ?_) ?_; (· (have hc := HL3.out w' hw'; clear hK; simp [execOp, Instr.loadAt, go_sem, hc]; done)); go_simp; refine hK _ ?_; clear hK K)
      | (refine stepL_ex rfl rfl rfl Adds.refl (fun w' hw' => rfl) ?_; go_simp; refine hK _ ?_; clear hK K))
    refine wpL_nil ?_
    intro w10 a10
    simp only [forL]
    have A10 := Lib.hid ((Adds.drew _).trans a10); clear a10
    go_wp2
    go_ret
    exact ⟨rfl, A10.out⟩
end Go.Proofs.YtcimppggemdidaaDoor
