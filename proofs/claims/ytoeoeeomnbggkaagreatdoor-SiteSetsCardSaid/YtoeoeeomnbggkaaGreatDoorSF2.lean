/- Check, Order: contracts. -/
import Derived.Test.YtoeoeeomnbggkaaGreatDoorSF1
namespace Go.Proofs.YtoeoeeomnbggkaaGreatDoor
open Go Go.RowKit Go.Shelf Go.Sort

def chkE (s : Si) : Int := if rightS s = true then 0 else 2
theorem fn1_at (f p : Int) (W : World) : Calls Tryz.prog 39 #[.agg #[.int .i64 f, .int .i64 p]] W fun e w' => e = .returned (.int .i64 f) ∧ Gr W w' := of1_any (f, p) W
theorem fn2_at (f p : Int) (W : World) : Calls Tryz.prog 40 #[.agg #[.int .i64 f, .int .i64 p]] W fun e w' => e = .returned (.int .i64 p) ∧ Gr W w' := of2_any (f, p) W
theorem grc {w : World} {b o : Nat} {v : Value} (h : w.cell? ⟨b, o, none⟩ = some v) (n : Nat) (os : Array Obj) : (grow (w.drewN n) os).cell? ⟨b, o, none⟩ = some v := cell_grown (World.block_lt_of_cell? w _ h) h n os
theorem ix0 (w : World) : (Instr.index 70 partsV (.int .i64 0)).run Tryz.prog w = .ok p1V w := by kernel_rfl
theorem ix1 (w : World) : (Instr.index 70 partsV (.int .i64 1)).run Tryz.prog w = .ok p2V w := by kernel_rfl

set_option maxRecDepth 100000 in
set_option maxHeartbeats 2000000 in
theorem check_any (s : Si) (w : World) : Calls Tryz.prog 27 #[siV s] w fun e w' => e = .returned (.int .i64 (chkE s)) ∧ Gr w w' := by
  have hmx : Tryz.prog.follows .mixedOrders = true := by kernel_rfl
  obtain ⟨f, p⟩ := s
  go_enter Tryz.func27, Tryz.ntmps27
  go_wp2_with fail
  obtain ⟨w1, hw1⟩ : ∃ w1, w.alloc (.cells #[.int .i64 f, .int .i64 p] 30) = w1 := ⟨_, rfl⟩
  have HG1 := Lib.hid (show Gr w w1 by rw [← hw1]; exact Gr.new _ _)
  have d0 : w1.cell? ⟨w.heap.size, 0, none⟩ = some (.int .i64 f) := by rw [← hw1]; simp
  have d1 : w1.cell? ⟨w.heap.size, 1, none⟩ = some (.int .i64 p) := by rw [← hw1]; simp
  rw [hw1]
  clear hw1
  refine wp_scope_fwd 0 rfl ?_
  go_wp2_with (go_at_call 28; refine (parts_any _).mono ?_; rintro e w2 ⟨rfl, h1⟩; have HG2 := Lib.hid (HG1.out.trans h1); have HK2 := Lib.hid h1; clear h1)
  go_loopw [6] (fun i wr => ∃ z : Int, i = .int .i64 z ∧ Gr w1 wr ∧ (z = 0 ∨ (z = 1 ∧ 0 ≤ f ∧ f < 32) ∨ (z = 2 ∧ 0 ≤ f ∧ f < 32 ∧ 0 ≤ p ∧ p < 512))) (fun i _ => 3 - (intOf i).toNat)
  case atStart => exact ⟨0, rfl, HK2.out, .inl rfl⟩
  case round =>
    obtain ⟨z, rfl, hg, hz⟩ := hrel
    have HGr := Lib.hid hg
    clear hg
    have b0 := (HGr.out.adds.cell (World.block_lt_of_cell? w1 _ d0)).trans d0
    have b1 := (HGr.out.adds.cell (World.block_lt_of_cell? w1 _ d1)).trans d1
    have hlt := World.block_lt_of_cell? _ _ b0
    simp only at hlt
    rcases hz with rfl | ⟨rfl, hz⟩ | ⟨rfl, hz⟩
    · have HI := ix0
      go_wp2_with fail
      obtain ⟨sz, hsz⟩ : ∃ sz, wr.heap.size = sz := ⟨_, rfl⟩
      obtain ⟨wb, hwb⟩ : ∃ wb, wr.alloc (.cells #[fn1, .int .i64 32, .string ⟨#[102]⟩, .int .i64 1] 69) = wb := ⟨_, rfl⟩
      have HGb := Lib.hid (show Gr wr wb by rw [← hwb]; exact Gr.new _ _)
      have g0 := grc (show wb.cell? ⟨sz, 0, none⟩ = some fn1 by rw [← hwb, ← hsz]; simp)
      have g1 := grc (show wb.cell? ⟨sz, 1, none⟩ = some (.int .i64 32) by rw [← hwb, ← hsz]; simp)
      have g2 := grc (show wb.cell? ⟨sz, 2, none⟩ = some (.string ⟨#[102]⟩) by rw [← hwb, ← hsz]; simp)
      have g3 := grc (show wb.cell? ⟨sz, 3, none⟩ = some (.int .i64 1) by rw [← hwb, ← hsz]; simp)
      have g4 := grc ((HGb.out.adds.cell (World.block_lt_of_cell? wr _ b0)).trans b0)
      have g5 := grc ((HGb.out.adds.cell (World.block_lt_of_cell? wr _ b1)).trans b1)
      rw [hwb, hsz]
      clear hwb hsz hlt
      by_cases hc : 0 ≤ f ∧ f < 32
      · have hh := fun W => partHolds_any fn1 32 ⟨#[102]⟩ 1 f W
        rw [decide_eq_true hc] at hh
        have HC := Lib.hid hc
        clear hc
        go_quiet_grown (first | (go_at_call 39; exact Calls.gr (fn1_at _ _)) | (go_at_call 38; exact Calls.gr hh))
        have HW6 := Lib.hid ((HGr.out.trans HGb.out).trans (Gr.grown wb nq osq))
        simp only [Exit.then]
        go_simp
        go_wp2_with fail
        go_roundw
        case rel => exact ⟨1, rfl, HW6.out, .inr (.inl ⟨rfl, HC.out⟩)⟩
        case measure => simp [intOf]
      · have hh := fun W => partHolds_any fn1 32 ⟨#[102]⟩ 1 f W
        rw [decide_eq_false hc] at hh
        have HC := Lib.hid hc
        clear hc
        go_quiet_grown (first | (go_at_call 39; exact Calls.gr (fn1_at _ _)) | (go_at_call 38; exact Calls.gr hh))
        have HW6 := Lib.hid (HG1.out.trans ((HGr.out.trans HGb.out).trans (Gr.grown wb nq osq)))
        simp only [Exit.then]
        go_simp
        go_wp2_with fail
        go_step3
        refine ⟨rfl, ?_⟩
        go_wp2_with fail
        rw [Exit.noGoto_ret]
        go_ret
        have hr : ¬ rightS (f, p) = true := fun h => HC.out ⟨(rightS_iff.1 h).1, (rightS_iff.1 h).2.1⟩
        exact ⟨by unfold chkE; rw [if_neg hr]; rfl, HW6.out⟩
    · have HZ := Lib.hid hz
      clear hz
      have HI := ix1
      go_wp2_with fail
      obtain ⟨sz, hsz⟩ : ∃ sz, wr.heap.size = sz := ⟨_, rfl⟩
      obtain ⟨wb, hwb⟩ : ∃ wb, wr.alloc (.cells #[fn2, .int .i64 512, .string ⟨#[58]⟩, .int .i64 2] 69) = wb := ⟨_, rfl⟩
      have HGb := Lib.hid (show Gr wr wb by rw [← hwb]; exact Gr.new _ _)
      have g0 := grc (show wb.cell? ⟨sz, 0, none⟩ = some fn2 by rw [← hwb, ← hsz]; simp)
      have g1 := grc (show wb.cell? ⟨sz, 1, none⟩ = some (.int .i64 512) by rw [← hwb, ← hsz]; simp)
      have g2 := grc (show wb.cell? ⟨sz, 2, none⟩ = some (.string ⟨#[58]⟩) by rw [← hwb, ← hsz]; simp)
      have g3 := grc (show wb.cell? ⟨sz, 3, none⟩ = some (.int .i64 2) by rw [← hwb, ← hsz]; simp)
      have g4 := grc ((HGb.out.adds.cell (World.block_lt_of_cell? wr _ b0)).trans b0)
      have g5 := grc ((HGb.out.adds.cell (World.block_lt_of_cell? wr _ b1)).trans b1)
      rw [hwb, hsz]
      clear hwb hsz hlt
      by_cases hc : 0 ≤ p ∧ p < 512
      · have hh := fun W => partHolds_any fn2 512 ⟨#[58]⟩ 2 p W
        rw [decide_eq_true hc] at hh
        have HC := Lib.hid hc
        clear hc
        go_quiet_grown (first | (go_at_call 40; exact Calls.gr (fn2_at _ _)) | (go_at_call 38; exact Calls.gr hh))
        have HW6 := Lib.hid ((HGr.out.trans HGb.out).trans (Gr.grown wb nq osq))
        simp only [Exit.then]
        go_simp
        go_wp2_with fail
        go_roundw
        case rel => exact ⟨2, rfl, HW6.out, .inr (.inr ⟨rfl, HZ.out.1, HZ.out.2, HC.out⟩)⟩
        case measure => simp [intOf]
      · have hh := fun W => partHolds_any fn2 512 ⟨#[58]⟩ 2 p W
        rw [decide_eq_false hc] at hh
        have HC := Lib.hid hc
        clear hc
        go_quiet_grown (first | (go_at_call 40; exact Calls.gr (fn2_at _ _)) | (go_at_call 38; exact Calls.gr hh))
        have HW6 := Lib.hid (HG1.out.trans ((HGr.out.trans HGb.out).trans (Gr.grown wb nq osq)))
        simp only [Exit.then]
        go_simp
        go_wp2_with fail
        go_step3
        refine ⟨rfl, ?_⟩
        go_wp2_with fail
        rw [Exit.noGoto_ret]
        go_ret
        have hr : ¬ rightS (f, p) = true := fun h => HC.out ⟨(rightS_iff.1 h).2.2.1, (rightS_iff.1 h).2.2.2⟩
        exact ⟨by unfold chkE; rw [if_neg hr]; rfl, HW6.out⟩
    · have HZ := Lib.hid hz
      clear hz
      go_wp2_with fail
      simp only [Exit.jump]
      go_ret
      have hr : rightS (f, p) = true := rightS_iff.2 HZ.out
      exact ⟨by unfold chkE; rw [if_pos hr]; rfl, HG1.out.trans HGr.out⟩

set_option maxRecDepth 100000 in
set_option maxHeartbeats 2000000 in
theorem order_any (a b : Si) (w : World) : Calls Tryz.prog 33 #[siV a, siV b] w fun e w' => e = .returned (.int .i64 (ordS a b)) ∧ Gr w w' := by
  have hmx : Tryz.prog.follows .mixedOrders = true := by kernel_rfl
  obtain ⟨f, p⟩ := a
  obtain ⟨g, q⟩ := b
  go_enter Tryz.func33, Tryz.ntmps33
  go_wp2_with (go_at_call 28; refine (parts_any _).mono ?_; rintro e w2 ⟨rfl, h1⟩; have HK2 := Lib.hid h1; clear h1)
  obtain ⟨k0, hk0⟩ : ∃ k0, w.heap.size = k0 := ⟨_, rfl⟩
  obtain ⟨w1, hw1⟩ : ∃ w1, (w.alloc (.cells #[.int .i64 f, .int .i64 p] 30)).alloc (.cells #[.int .i64 g, .int .i64 q] 30) = w1 := ⟨_, rfl⟩
  have HG1 := Lib.hid (show Gr w w1 by rw [← hw1]; exact (Gr.new _ _).alloc _)
  have d0 : w1.cell? ⟨k0, 0, none⟩ = some (.int .i64 f) := by rw [← hw1, ← hk0]; simp
  have d1 : w1.cell? ⟨k0, 1, none⟩ = some (.int .i64 p) := by rw [← hw1, ← hk0]; simp
  have d2 : w1.cell? ⟨k0 + 1, 0, none⟩ = some (.int .i64 g) := by rw [← hw1, ← hk0]; simp
  have d3 : w1.cell? ⟨k0 + 1, 1, none⟩ = some (.int .i64 q) := by rw [← hw1, ← hk0]; simp
  rw [hw1] at HK2
  rw [hk0]
  clear hw1 hk0
  go_loopw [9] (fun i wr => ∃ z : Int, i = .int .i64 z ∧ Gr w1 wr ∧ (z = 0 ∨ (z = 1 ∧ ordI f g = 0) ∨ (z = 2 ∧ ordI f g = 0 ∧ ordI p q = 0))) (fun i _ => 3 - (intOf i).toNat)
  case atStart => exact ⟨0, rfl, HK2.out, .inl rfl⟩
  case round =>
    obtain ⟨z, rfl, hg, hz⟩ := hrel
    have HGr := Lib.hid hg
    clear hg
    have b0 := (HGr.out.adds.cell (World.block_lt_of_cell? w1 _ d0)).trans d0
    have b1 := (HGr.out.adds.cell (World.block_lt_of_cell? w1 _ d1)).trans d1
    have b2 := (HGr.out.adds.cell (World.block_lt_of_cell? w1 _ d2)).trans d2
    have b3 := (HGr.out.adds.cell (World.block_lt_of_cell? w1 _ d3)).trans d3
    have hlt := World.block_lt_of_cell? _ _ b3
    simp only at hlt
    rcases hz with rfl | ⟨rfl, hz⟩ | ⟨rfl, hz⟩
    · have HI := ix0
      go_wp2_with fail
      obtain ⟨sz, hsz⟩ : ∃ sz, wr.heap.size = sz := ⟨_, rfl⟩
      obtain ⟨wb, hwb⟩ : ∃ wb, wr.alloc (.cells #[fn1, .int .i64 32, .string ⟨#[102]⟩, .int .i64 1] 69) = wb := ⟨_, rfl⟩
      have HGb := Lib.hid (show Gr wr wb by rw [← hwb]; exact Gr.new _ _)
      have g0 := grc (show wb.cell? ⟨sz, 0, none⟩ = some fn1 by rw [← hwb, ← hsz]; simp)
      have g1 := grc (show wb.cell? ⟨sz, 1, none⟩ = some (.int .i64 32) by rw [← hwb, ← hsz]; simp)
      have g2 := grc (show wb.cell? ⟨sz, 2, none⟩ = some (.string ⟨#[102]⟩) by rw [← hwb, ← hsz]; simp)
      have g3 := grc (show wb.cell? ⟨sz, 3, none⟩ = some (.int .i64 1) by rw [← hwb, ← hsz]; simp)
      have g4 := grc ((HGb.out.adds.cell (World.block_lt_of_cell? wr _ b0)).trans b0)
      have g5 := grc ((HGb.out.adds.cell (World.block_lt_of_cell? wr _ b1)).trans b1)
      have g6 := grc ((HGb.out.adds.cell (World.block_lt_of_cell? wr _ b2)).trans b2)
      have g7 := grc ((HGb.out.adds.cell (World.block_lt_of_cell? wr _ b3)).trans b3)
      rw [hwb, hsz]
      clear hwb hsz hlt
      obtain ⟨x, hx⟩ : ∃ x, ordI f g = x := ⟨_, rfl⟩
      have hh := fun W => (compareI_any f g W).mono (fun e w' (h : e = .returned (.int .i64 (ordI f g)) ∧ W = w') => (⟨h.1, h.2 ▸ Gr.refl W⟩ : e = .returned (.int .i64 (ordI f g)) ∧ Gr W w'))
      rw [hx] at hh
      by_cases hc : x = 0
      · subst hc
        have HC := Lib.hid hx
        clear hx
        go_quiet_grown (first | (go_at_call 39; exact Calls.gr (fn1_at _ _)) | (go_at_call 49; exact Calls.gr hh))
        have HW6 := Lib.hid ((HGr.out.trans HGb.out).trans (Gr.grown wb nq osq))
        simp only [Exit.then]
        go_simp
        go_wp2_with fail
        go_roundw
        case rel => exact ⟨1, rfl, HW6.out, .inr (.inl ⟨rfl, HC.out⟩)⟩
        case measure => simp [intOf]
      · have HC := Lib.hid hx
        clear hx
        go_quiet_grown (first | (go_at_call 39; exact Calls.gr (fn1_at _ _)) | (go_at_call 49; exact Calls.gr hh))
        have HW6 := Lib.hid (HG1.out.trans ((HGr.out.trans HGb.out).trans (Gr.grown wb nq osq)))
        have HN := Lib.hid hc
        simp only [Exit.then]
        go_simp
        go_wp2_with fail
        go_ret
        exact ⟨by unfold ordS; rw [if_neg (by rw [HC.out]; exact HN.out)]; show _ = Ending.returned (.int .i64 (ordI f g)); rw [HC.out]; rfl, HW6.out⟩
    · have HZ := Lib.hid hz
      clear hz
      have HI := ix1
      go_wp2_with fail
      obtain ⟨sz, hsz⟩ : ∃ sz, wr.heap.size = sz := ⟨_, rfl⟩
      obtain ⟨wb, hwb⟩ : ∃ wb, wr.alloc (.cells #[fn2, .int .i64 512, .string ⟨#[58]⟩, .int .i64 2] 69) = wb := ⟨_, rfl⟩
      have HGb := Lib.hid (show Gr wr wb by rw [← hwb]; exact Gr.new _ _)
      have g0 := grc (show wb.cell? ⟨sz, 0, none⟩ = some fn2 by rw [← hwb, ← hsz]; simp)
      have g1 := grc (show wb.cell? ⟨sz, 1, none⟩ = some (.int .i64 512) by rw [← hwb, ← hsz]; simp)
      have g2 := grc (show wb.cell? ⟨sz, 2, none⟩ = some (.string ⟨#[58]⟩) by rw [← hwb, ← hsz]; simp)
      have g3 := grc (show wb.cell? ⟨sz, 3, none⟩ = some (.int .i64 2) by rw [← hwb, ← hsz]; simp)
      have g4 := grc ((HGb.out.adds.cell (World.block_lt_of_cell? wr _ b0)).trans b0)
      have g5 := grc ((HGb.out.adds.cell (World.block_lt_of_cell? wr _ b1)).trans b1)
      have g6 := grc ((HGb.out.adds.cell (World.block_lt_of_cell? wr _ b2)).trans b2)
      have g7 := grc ((HGb.out.adds.cell (World.block_lt_of_cell? wr _ b3)).trans b3)
      rw [hwb, hsz]
      clear hwb hsz hlt
      obtain ⟨x, hx⟩ : ∃ x, ordI p q = x := ⟨_, rfl⟩
      have hh := fun W => (compareI_any p q W).mono (fun e w' (h : e = .returned (.int .i64 (ordI p q)) ∧ W = w') => (⟨h.1, h.2 ▸ Gr.refl W⟩ : e = .returned (.int .i64 (ordI p q)) ∧ Gr W w'))
      rw [hx] at hh
      by_cases hc : x = 0
      · subst hc
        have HC := Lib.hid hx
        clear hx
        go_quiet_grown (first | (go_at_call 40; exact Calls.gr (fn2_at _ _)) | (go_at_call 49; exact Calls.gr hh))
        have HW6 := Lib.hid ((HGr.out.trans HGb.out).trans (Gr.grown wb nq osq))
        simp only [Exit.then]
        go_simp
        go_wp2_with fail
        go_roundw
        case rel => exact ⟨2, rfl, HW6.out, .inr (.inr ⟨rfl, HZ.out, HC.out⟩)⟩
        case measure => simp [intOf]
      · have HC := Lib.hid hx
        clear hx
        go_quiet_grown (first | (go_at_call 40; exact Calls.gr (fn2_at _ _)) | (go_at_call 49; exact Calls.gr hh))
        have HW6 := Lib.hid (HG1.out.trans ((HGr.out.trans HGb.out).trans (Gr.grown wb nq osq)))
        have HN := Lib.hid hc
        simp only [Exit.then]
        go_simp
        go_wp2_with fail
        go_ret
        exact ⟨by unfold ordS; rw [if_pos HZ.out]; show _ = Ending.returned (.int .i64 (ordI p q)); rw [HC.out]; rfl, HW6.out⟩
    · have HZ := Lib.hid hz
      clear hz
      go_wp2_with fail
      go_ret
      exact ⟨by unfold ordS; rw [if_pos HZ.out.1]; show _ = Ending.returned (.int .i64 (ordI p q)); rw [HZ.out.2]; rfl, HG1.out.trans HGr.out⟩
end Go.Proofs.YtoeoeeomnbggkaaGreatDoor
