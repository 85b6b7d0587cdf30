/- Check, Order: contracts. -/
import Derived.Test.YtbinmgpfkjmijaaGreatDoorSF1
namespace Go.Proofs.YtbinmgpfkjmijaaGreatDoor
open Go Go.RowKit Go.Shelf Go.Sort

def chkE (s : Si) : Int := if rightS s = true then 0 else 2
theorem fn1_at (f p : Int) (W : World) : Calls Tryz.prog 93 #[.agg #[.int .i64 f, .int .i64 p]] W fun e w' => e = .returned (.int .i64 f) ∧ Gr W w' := of1_any (f, p) W
theorem fn2_at (f p : Int) (W : World) : Calls Tryz.prog 94 #[.agg #[.int .i64 f, .int .i64 p]] W fun e w' => e = .returned (.int .i64 p) ∧ Gr W w' := of2_any (f, p) W
theorem grc {w : World} {b o : Nat} {v : Value} (h : w.cell? ⟨b, o, none⟩ = some v) (n : Nat) (os : Array Obj) : (grow (w.drewN n) os).cell? ⟨b, o, none⟩ = some v := cell_grown (World.block_lt_of_cell? w _ h) h n os
theorem ix0 (w : World) : (Instr.index 106 partsV (.int .i64 0)).run Tryz.prog w = .ok p1V w := by kernel_rfl
theorem ix1 (w : World) : (Instr.index 106 partsV (.int .i64 1)).run Tryz.prog w = .ok p2V w := by kernel_rfl

set_option maxRecDepth 100000 in
set_option maxHeartbeats 2000000 in
theorem check_any (s : Si) (w : World) : Calls Tryz.prog 63 #[siV s] w fun e w' => e = .returned (.int .i64 (chkE s)) ∧ Gr w w' := by
  have hmx : Tryz.prog.follows .mixedOrders = true := by kernel_rfl
  obtain ⟨f, p⟩ := s
  go_enter Tryz.func63, Tryz.ntmps63
  go_wp2_with fail
  obtain ⟨w1, hw1⟩ : ∃ w1, w.alloc (.cells #[.int .i64 f, .int .i64 p] 24) = w1 := ⟨_, rfl⟩
  have HG1 := Lib.hid (show Gr w w1 by rw [← hw1]; exact Gr.new _ _)
  have d0 : w1.cell? ⟨w.heap.size, 0, none⟩ = some (.int .i64 f) := by rw [← hw1]; simp
  have d1 : w1.cell? ⟨w.heap.size, 1, none⟩ = some (.int .i64 p) := by rw [← hw1]; simp
  rw [hw1]
  clear hw1
  refine wp_scope_fwd 0 rfl ?_
  go_wp2_with (go_at_call 64; refine (parts_any _).mono ?_; rintro e w2 ⟨rfl, h1⟩; have HG2 := Lib.hid (HG1.out.trans h1); have HK2 := Lib.hid h1; clear h1)
  go_loopw [6] (fun i wr => ∃ z : Int, i = .int .i64 z ∧ Gr w1 wr ∧ (z = 0 ∨ (z = 1 ∧ 0 ≤ f ∧ f < 32) ∨ (z = 2 ∧ 0 ≤ f ∧ f < 32 ∧ 0 ≤ p ∧ p < 512))) (fun i _ => 3 - (intOf i).toNat)
  case atStart => exact ⟨0, rfl, HK2.out, .inl rfl⟩
  case round =>
    obtain ⟨z, rfl, hg, hz⟩ := hrel
    have HGr := Lib.hid hg
    clear hg
    have b0 := (HGr.out.adds.cell (World.block_lt_of_cell? w1 _ d0)).trans d0
    have b1 := (HGr.out.adds.cell (World.block_lt_of_cell? w1 _ d1)).trans d1
    have hlt := World.block_lt_of_cell? _ _ b0
    simp only at hlt
    rcases hz with rfl | ⟨rfl, hz⟩ | ⟨rfl, hz⟩
    · have HI := ix0
      go_wp2_with fail
      obtain ⟨sz, hsz⟩ : ∃ sz, wr.heap.size = sz := ⟨_, rfl⟩
      obtain ⟨wb, hwb⟩ : ∃ wb, wr.alloc (.cells #[fn1, .int .i64 32, .string ⟨#[102]⟩, .int .i64 1] 105) = wb := ⟨_, rfl⟩
      have HGb := Lib.hid (show Gr wr wb by rw [← hwb]; exact Gr.new _ _)
      have g0 := grc (show wb.cell? ⟨sz, 0, none⟩ = some fn1 by rw [← hwb, ← hsz]; simp)
      have g1 := grc (show wb.cell? ⟨sz, 1, none⟩ = some (.int .i64 32) by rw [← hwb, ← hsz]; simp)
      have g2 := grc (show wb.cell? ⟨sz, 2, none⟩ = some (.string ⟨#[102]⟩) by rw [← hwb, ← hsz]; simp)
      have g3 := grc (show wb.cell? ⟨sz, 3, none⟩ = some (.int .i64 1) by rw [← hwb, ← hsz]; simp)
      have g4 := grc ((HGb.out.adds.cell (World.block_lt_of_cell? wr _ b0)).trans b0)
      have g5 := grc ((HGb.out.adds.cell (World.block_lt_of_cell? wr _ b1)).trans b1)
      rw [hwb, hsz]
      clear hwb hsz hlt
      by_cases hc : 0 ≤ f ∧ f < 32
      · have hh := fun W => partHolds_any fn1 32 ⟨#[102]⟩ 1 f W
        rw [decide_eq_true hc] at hh
        have HC := Lib.hid hc
        clear hc
        go_quiet_grown (first | (go_at_call 93; exact Calls.gr (fn1_at _ _)) | (go_at_call 92; exact Calls.gr hh))
        have HW6 := Lib.hid ((HGr.out.trans HGb.out).trans (Gr.grown wb nq osq))
        simp only [Exit.then]
        go_simp
        go_wp2_with fail
        go_roundw
        case rel => exact ⟨1, rfl, HW6.out, .inr (.inl ⟨rfl, HC.out⟩)⟩
        case measure => simp [intOf]
      · have hh := fun W => partHolds_any fn1 32 ⟨#[102]⟩ 1 f W
        rw [decide_eq_false hc] at hh
        have HC := Lib.hid hc
        clear hc
        go_quiet_grown (first | (go_at_call 93; exact Calls.gr (fn1_at _ _)) | (go_at_call 92; exact Calls.gr hh))
        have HW6 := Lib.hid (HG1.out.trans ((HGr.out.trans HGb.out).trans (Gr.grown wb nq osq)))
        simp only [Exit.then]
        go_simp
        go_wp2_with fail
        go_step3
        refine ⟨rfl, ?_⟩
        go_wp2_with fail
        rw [Exit.noGoto_ret]
        go_ret
        have hr : ¬ rightS (f, p) = true := fun h => HC.out ⟨(rightS_iff.1 h).1, (rightS_iff.1 h).2.1⟩
        exact ⟨by unfold chkE; rw [if_neg hr]; rfl, HW6.out⟩
    · have HZ := Lib.hid hz
      clear hz
      have HI := ix1
      go_wp2_with fail
      obtain ⟨sz, hsz⟩ : ∃ sz, wr.heap.size = sz := ⟨_, rfl⟩
      obtain ⟨wb, hwb⟩ : ∃ wb, wr.alloc (.cells #[fn2, .int .i64 512, .string ⟨#[58]⟩, .int .i64 2] 105) = wb := ⟨_, rfl⟩
      have HGb := Lib.hid (show Gr wr wb by rw [← hwb]; exact Gr.new _ _)
      have g0 := grc (show wb.cell? ⟨sz, 0, none⟩ = some fn2 by rw [← hwb, ← hsz]; simp)
      have g1 := grc (show wb.cell? ⟨sz, 1, none⟩ = some (.int .i64 512) by rw [← hwb, ← hsz]; simp)
      have g2 := grc (show wb.cell? ⟨sz, 2, none⟩ = some (.string ⟨#[58]⟩) by rw [← hwb, ← hsz]; simp)
      have g3 := grc (show wb.cell? ⟨sz, 3, none⟩ = some (.int .i64 2) by rw [← hwb, ← hsz]; simp)
      have g4 := grc ((HGb.out.adds.cell (World.block_lt_of_cell? wr _ b0)).trans b0)
      have g5 := grc ((HGb.out.adds.cell (World.block_lt_of_cell? wr _ b1)).trans b1)
      rw [hwb, hsz]
      clear hwb hsz hlt
      by_cases hc : 0 ≤ p ∧ p < 512
      · have hh := fun W => partHolds_any fn2 512 ⟨#[58]⟩ 2 p W
        rw [decide_eq_true hc] at hh
        have HC := Lib.hid hc
        clear hc
        go_quiet_grown (first | (go_at_call 94; exact Calls.gr (fn2_at _ _)) | (go_at_call 92; exact Calls.gr hh))
        have HW6 := Lib.hid ((HGr.out.trans HGb.out).trans (Gr.grown wb nq osq))
        simp only [Exit.then]
        go_simp
        go_wp2_with fail
        go_roundw
        case rel => exact ⟨2, rfl, HW6.out, .inr (.inr ⟨rfl, HZ.out.1, HZ.out.2, HC.out⟩)⟩
        case measure => simp [intOf]
      · have hh := fun W => partHolds_any fn2 512 ⟨#[58]⟩ 2 p W
        rw [decide_eq_false hc] at hh
        have HC := Lib.hid hc
        clear hc
        go_quiet_grown (first | (go_at_call 94; exact Calls.gr (fn2_at _ _)) | (go_at_call 92; exact Calls.gr hh))
        have HW6 := Lib.hid (HG1.out.trans ((HGr.out.trans HGb.out).trans (Gr.grown wb nq osq)))
        simp only [Exit.then]
        go_simp
        go_wp2_with fail
        go_step3
        refine ⟨rfl, ?_⟩
        go_wp2_with fail
        rw [Exit.noGoto_ret]
        go_ret
        have hr : ¬ rightS (f, p) = true := fun h => HC.out ⟨(rightS_iff.1 h).2.2.1, (rightS_iff.1 h).2.2.2⟩
        exact ⟨by unfold chkE; rw [if_neg hr]; rfl, HW6.out⟩
    · have HZ := Lib.hid hz
      clear hz
      go_wp2_with fail
      simp only [Exit.jump]
      go_ret
      have hr : rightS (f, p) = true := rightS_iff.2 HZ.out
      exact ⟨by unfold chkE; rw [if_pos hr]; rfl, HG1.out.trans HGr.out⟩

end Go.Proofs.YtbinmgpfkjmijaaGreatDoor
