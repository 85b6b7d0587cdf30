/- Merged: GD2. -/
import Derived.Test.YtdkgehhlikaocaaGreatY16
import Derived.Test.YtdkgehhlikaocaaGreatY34
namespace Go.Proofs.YtdkgehhlikaocaaGreat
open Go Go.RowKit Go.Shelf

theorem may_numsR {x : In} (h : mayI x = true) : ∃ op a b c i : Nat, x = ((op : Int), (a : Int), (b : Int), (c : Int), (i : Int)) ∧ 1 ≤ op ∧ op ≤ 19 ∧ a < 256 ∧ b < 256 ∧ c < 256 ∧ i < 4294967296 ∧ holdsL (partsN op) x = true := by
  obtain ⟨op, hop, h1, h2, hl⟩ := mayI_op h
  obtain ⟨o, a, b, c, i⟩ := x
  obtain rfl : o = op := hop
  have key : 0 ≤ a ∧ a < 256 ∧ 0 ≤ b ∧ b < 256 ∧ 0 ≤ c ∧ c < 256 ∧ 0 ≤ i ∧ i < 4294967296 := by
    have hl := hl
    match op, h1, h2 with
    | 1, _, _ | 2, _, _ | 3, _, _ | 4, _, _ | 5, _, _ | 6, _, _ | 7, _, _ | 8, _, _ | 9, _, _ | 10, _, _ | 11, _, _ | 12, _, _ | 13, _, _ | 14, _, _ | 15, _, _ | 16, _, _ | 17, _, _ | 18, _, _ | 19, _, _ =>
      simp [holdsL, partsN, holdsP, bare, putP, getP, loN, hiN] at hl
      omega
    | k + 20, _, h => exact absurd h (by omega)
  obtain ⟨k1, k2, k3, k4, k5, k6, k7, k8⟩ := key
  refine ⟨op, a.toNat, b.toNat, c.toNat, i.toNat, ?_, h1, h2, by omega, by omega, by omega, by omega, hl⟩
  rw [show ((a.toNat : Nat) : Int) = a by omega, show ((b.toNat : Nat) : Int) = b by omega, show ((c.toNat : Nat) : Int) = c by omega, show ((i.toNat : Nat) : Int) = i by omega]
def regQ (ia ib inn ik : Bool) (a b c : Int) : Int :=
  let n0 := if ia then a + 1 else 0
  let n1 := if ib then maxI n0 (b + 1) else n0
  let n2 := if inn then maxI n1 (b + c) else n1
  if ik then maxI n2 (c + 1) else n2
theorem regsI_is {op a b c i : Nat} (h1 : 1 ≤ op) (h2 : op ≤ 19) (hm : mayI ((op : Int), (a : Int), (b : Int), (c : Int), (i : Int)) = true) :
    regsI ((op : Int), (a : Int), (b : Int), (c : Int), (i : Int)) = regQ ((lettN op).contains 97) ((lettN op).contains 98) ((lettN op).contains 110) ((lettN op).contains 107) a b c := by
  unfold regsI
  rw [if_pos hm]
  match op, h1, h2 with
  | 1, _, _ | 2, _, _ | 3, _, _ | 4, _, _ | 5, _, _ | 6, _, _ | 7, _, _ | 8, _, _ | 9, _, _ | 10, _, _ | 11, _, _ | 12, _, _ | 13, _, _ | 14, _, _ | 15, _, _ | 16, _, _ | 17, _, _ | 18, _, _ | 19, _, _ =>
    simp [regP, partsN, lettN, regQ, getP, maxI]
    try omega
  | k + 20, _, h => exact absurd h (by omega)
set_option maxRecDepth 100000 in
set_option maxHeartbeats 8000000 in
theorem refRegs_any (x : In) (hx : OkIn x) (w : World) : Calls Tryz.prog 71 #[insV x] w fun e w' => e = .returned (.int .i64 (regsI x)) ∧ Adds w w' := by
  have HR := Lib.hid (fun W => refRight_any x hx W)
  by_cases hm : mayI x = true
  · obtain ⟨op, a, b, c, i, rfl, o1, o2, ha, hb, hc, hi, _⟩ := may_numsR hm
    rw [regsI_is o1 o2 hm]
    rw [hm] at HR
    have HA := Lib.hid (fun W => refIn_any op o1 o2 97 W)
    have HB := Lib.hid (fun W => refIn_any op o1 o2 98 W)
    have HN := Lib.hid (fun W => refIn_any op o1 o2 110 W)
    have HK := Lib.hid (fun W => refIn_any op o1 o2 107 W)
    obtain ⟨ia, hia⟩ : ∃ z, (lettN op).contains 97 = z := ⟨_, rfl⟩
    obtain ⟨ib, hib⟩ : ∃ z, (lettN op).contains 98 = z := ⟨_, rfl⟩
    obtain ⟨inn, hin⟩ : ∃ z, (lettN op).contains 110 = z := ⟨_, rfl⟩
    obtain ⟨ik, hik⟩ : ∃ z, (lettN op).contains 107 = z := ⟨_, rfl⟩
    rw [hia] at HA ⊢
    rw [hib] at HB ⊢
    rw [hin] at HN ⊢
    rw [hik] at HK ⊢
    have haI : (a : Int) < 256 := by omega
    have hbI : (b : Int) < 256 := by omega
    have hcI : (c : Int) < 256 := by omega
    obtain ⟨zo, hzo⟩ : ∃ z : Int, (op : Int) = z := ⟨_, rfl⟩
    rw [hzo] at HA HB HN HK HR
    rw [hzo]
    clear hia hib hin hik ha hb hc hi hm hx o1 o2 hzo
    obtain ⟨w1, hw1⟩ : ∃ w1, w.alloc (.cells (insC (zo, (a : Int), (b : Int), (c : Int), (i : Int))).toArray 56) = w1 := ⟨_, rfl⟩
    have A1 := Lib.hid (show Adds w w1 by rw [← hw1]; exact (Gr.new _ _).adds)
    have B1 := Lib.hid (show BkS 56 w1 w.heap.size (insC (zo, (a : Int), (b : Int), (c : Int), (i : Int))) by rw [← hw1]; exact BkS.new _ _ _)
    have e0 : w1.cell? ⟨w.heap.size, 0, none⟩ = some (.int .i64 zo) := B1.out.cell 0
    have e1 : w1.cell? ⟨w.heap.size, 1, none⟩ = some (.int .i64 (a : Int)) := B1.out.cell 1
    have e2 : w1.cell? ⟨w.heap.size, 2, none⟩ = some (.int .i64 (b : Int)) := B1.out.cell 2
    have e3 : w1.cell? ⟨w.heap.size, 3, none⟩ = some (.int .i64 (c : Int)) := B1.out.cell 3
    have e4 : w1.cell? ⟨w.heap.size, 4, none⟩ = some (.int .u32 (i : Int)) := B1.out.cell 4
    cases ia <;> cases ib <;> cases inn <;> cases ik
    all_goals
      go_enter Tryz.func71, Tryz.ntmps71
      go_wp2_with (first
        | (go_at_call 70; refine (HR.out _).mono ?_; rintro e w2 ⟨rfl, q⟩; have A2 := Lib.hid q; clear q HR)
        | (go_at_call 92; refine (HA.out _).mono ?_; rintro e w3 ⟨rfl, q⟩; have A3 := Lib.hid (Adds.trans A2.out q); have f1 : w3.cell? ⟨w.heap.size, 1, none⟩ = some (.int .i64 (a : Int)) := (B1.out.adds A3.out).cell 1; clear q HA)
        | (go_at_call 92; refine (HB.out _).mono ?_; rintro e w4 ⟨rfl, q⟩; have A4 := Lib.hid (Adds.trans A3.out q); have f2 : w4.cell? ⟨w.heap.size, 2, none⟩ = some (.int .i64 (b : Int)) := (B1.out.adds A4.out).cell 2; clear q HB)
        | (go_at_call 92; refine (HN.out _).mono ?_; rintro e w5 ⟨rfl, q⟩; have A5 := Lib.hid (Adds.trans A4.out q); have f2 : w5.cell? ⟨w.heap.size, 2, none⟩ = some (.int .i64 (b : Int)) := (B1.out.adds A5.out).cell 2; have f3 : w5.cell? ⟨w.heap.size, 3, none⟩ = some (.int .i64 (c : Int)) := (B1.out.adds A5.out).cell 3; clear q HN)
        | (go_at_call 92; refine (HK.out _).mono ?_; rintro e w6 ⟨rfl, q⟩; have A6 := Lib.hid (Adds.trans A5.out q); have f3 : w6.cell? ⟨w.heap.size, 3, none⟩ = some (.int .i64 (c : Int)) := (B1.out.adds A6.out).cell 3; clear q HK))
      all_goals
        go_ret
        refine ⟨ret_int ?_, Adds.trans A1.out A6.out⟩
        simp only [regQ, maxI, if_true, Bool.false_eq_true, if_false]
        try ((repeat' split) <;> omega)
  · have hm' : mayI x = false := by simpa using hm
    have hr : regsI x = 0 := by unfold regsI; rw [if_neg hm]
    rw [hr]
    rw [hm'] at HR
    obtain ⟨xo, xa, xb, xc, xi⟩ := x
    clear hm hm' hr hx
    obtain ⟨w1, hw1⟩ : ∃ w1, w.alloc (.cells (insC (xo, xa, xb, xc, xi)).toArray 56) = w1 := ⟨_, rfl⟩
    have A1 := Lib.hid (show Adds w w1 by rw [← hw1]; exact (Gr.new _ _).adds)
    have B1 := Lib.hid (show BkS 56 w1 w.heap.size (insC (xo, xa, xb, xc, xi)) by rw [← hw1]; exact BkS.new _ _ _)
    have e0 : w1.cell? ⟨w.heap.size, 0, none⟩ = some (.int .i64 xo) := B1.out.cell 0
    have e1 : w1.cell? ⟨w.heap.size, 1, none⟩ = some (.int .i64 xa) := B1.out.cell 1
    have e2 : w1.cell? ⟨w.heap.size, 2, none⟩ = some (.int .i64 xb) := B1.out.cell 2
    have e3 : w1.cell? ⟨w.heap.size, 3, none⟩ = some (.int .i64 xc) := B1.out.cell 3
    have e4 : w1.cell? ⟨w.heap.size, 4, none⟩ = some (.int .u32 xi) := B1.out.cell 4
    go_enter Tryz.func71, Tryz.ntmps71
    go_wp2_with (go_at_call 70; refine (HR.out _).mono ?_; rintro e w2 ⟨rfl, q⟩; have A2 := Lib.hid q; clear q HR)
    go_ret
    exact ⟨rfl, Adds.trans A1.out A2.out⟩
set_option maxRecDepth 100000 in
set_option maxHeartbeats 4000000 in
theorem refLeaves_any (x : In) (hx : OkIn x) (w : World) : Calls Tryz.prog 72 #[insV x] w fun e w' => e = .returned (.bool (leavesI x)) ∧ Adds w w' := by
  have HR := Lib.hid (fun W => refRight_any x hx W)
  unfold leavesI
  obtain ⟨mb, hmb⟩ : ∃ mb, mayI x = mb := ⟨_, rfl⟩
  rw [hmb] at HR ⊢
  obtain ⟨xo, xa, xb, xc, xi⟩ := x
  simp only
  clear hmb hx
  obtain ⟨w1, hw1⟩ : ∃ w1, w.alloc (.cells (insC (xo, xa, xb, xc, xi)).toArray 56) = w1 := ⟨_, rfl⟩
  have A1 := Lib.hid (show Adds w w1 by rw [← hw1]; exact (Gr.new _ _).adds)
  have B1 := Lib.hid (show BkS 56 w1 w.heap.size (insC (xo, xa, xb, xc, xi)) by rw [← hw1]; exact BkS.new _ _ _)
  have e0 : w1.cell? ⟨w.heap.size, 0, none⟩ = some (.int .i64 xo) := B1.out.cell 0
  have e1 : w1.cell? ⟨w.heap.size, 1, none⟩ = some (.int .i64 xa) := B1.out.cell 1
  have e2 : w1.cell? ⟨w.heap.size, 2, none⟩ = some (.int .i64 xb) := B1.out.cell 2
  have e3 : w1.cell? ⟨w.heap.size, 3, none⟩ = some (.int .i64 xc) := B1.out.cell 3
  have e4 : w1.cell? ⟨w.heap.size, 4, none⟩ = some (.int .u32 xi) := B1.out.cell 4
  cases mb
  · go_enter Tryz.func72, Tryz.ntmps72
    go_wp2_with (go_at_call 70; refine (HR.out _).mono ?_; rintro e w2 ⟨rfl, q⟩; have A2 := Lib.hid q; clear q HR)
    go_ret
    exact ⟨rfl, Adds.trans A1.out A2.out⟩
  · by_cases h4 : xo = 4
    · subst h4
      go_enter Tryz.func72, Tryz.ntmps72
      go_wp2_with (go_at_call 70; refine (HR.out _).mono ?_; rintro e w2 ⟨rfl, q⟩; have A2 := Lib.hid q; have f0 : w2.cell? ⟨w.heap.size, 0, none⟩ = some (.int .i64 4) := (B1.out.adds q).cell 0; clear q HR)
      go_ret
      exact ⟨rfl, Adds.trans A1.out A2.out⟩
    · have h4b : (xo == 4) = false := by simp [h4]
      go_enter Tryz.func72, Tryz.ntmps72
      go_wp2_with (go_at_call 70; refine (HR.out _).mono ?_; rintro e w2 ⟨rfl, q⟩; have A2 := Lib.hid q; have f0 : w2.cell? ⟨w.heap.size, 0, none⟩ = some (.int .i64 xo) := (B1.out.adds q).cell 0; clear q HR)
      go_ret
      exact ⟨ret_bool (by rw [Bool.eq_iff_iff]; simp [h4]), Adds.trans A1.out A2.out⟩
end Go.Proofs.YtdkgehhlikaocaaGreat
