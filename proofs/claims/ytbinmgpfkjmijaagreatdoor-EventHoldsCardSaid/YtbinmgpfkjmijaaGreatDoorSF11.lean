/- The bytes of a site: its contract. -/
import Derived.Deep.RegionLaw
import Derived.Test.YtbinmgpfkjmijaaGreatDoorBA
import Derived.Test.YtbinmgpfkjmijaaGreatDoorSMem
import Derived.Test.YtbinmgpfkjmijaaGreatDoorSLib
namespace Go.Proofs.YtbinmgpfkjmijaaGreatDoor
open Go Go.RowKit Go.Shelf Go.Sort

theorem wp_calmS {P : Program} {c : Code} {Q : Exit → Act → World → Prop} {a : Act} {w : World} (h : c.wp P (Exit.then (Q .normal) (fun _ _ _ => False)) a w) : c.wp P Q a w :=
  Code.wp_mono (Q := Exit.then (Q .normal) (fun _ _ _ => False)) (fun e _ _ hq => by cases e <;> first | exact hq | exact hq.elim) h
def BytI (f p : Nat) (z : Int) (x : List UInt8) : Prop := (z = 0 ∧ x = []) ∨ (z = 1 ∧ x = leB 1 f) ∨ (z = 2 ∧ x = leB 1 f ++ leB 2 p)
def bytA (s : Si) : List UInt8 := if rightS s = true then byS s else []
theorem fixed_1 (f : Nat) (hf : f < 32) (w : World) (hw : Widths w) : Calls Tryz.prog 76 #[.int .u64 (f : Int), .int .i64 1] w (GivesB (leB 1 f) (fun v => .tuple #[v, .int .i64 0]) w) := by
  have h := fixed_any f 1 w hw
  have e : fixE f 1 = 0 := by unfold fixE; rw [if_pos (by decide), if_pos (by show f < 256 ^ 1; omega)]
  have e2 : fixB f 1 = leB 1 f := by unfold fixB; rw [if_pos e]; rfl
  rw [e, e2] at h
  exact h
theorem fixed_2 (f : Nat) (hf : f < 512) (w : World) (hw : Widths w) : Calls Tryz.prog 76 #[.int .u64 (f : Int), .int .i64 2] w (GivesB (leB 2 f) (fun v => .tuple #[v, .int .i64 0]) w) := by
  have h := fixed_any f 2 w hw
  have e : fixE f 2 = 0 := by unfold fixE; rw [if_pos (by decide), if_pos (by show f < 256 ^ 2; omega)]
  have e2 : fixB f 2 = leB 2 f := by unfold fixB; rw [if_pos e]; rfl
  rw [e, e2] at h
  exact h

set_option maxRecDepth 100000 in
set_option maxHeartbeats 2000000 in
theorem siteBytes_no (s : Si) (hr : ¬ rightS s = true) (w : World) : Calls Tryz.prog 44 #[siV s] w fun e w' => e = .returned (.tuple #[.slice none 0 0, .int .i64 2]) ∧ Adds w w' := by
  have HC := Lib.hid (check_any s)
  unfold chkE at HC
  rw [if_neg hr] at HC
  clear hr
  obtain ⟨f, p⟩ := s
  go_enter Tryz.func44, Tryz.ntmps44
  go_wp2_with fail
  refine wp_scope_fwd 0 rfl ?_
  go_wp2_with (go_at_call 63; refine (HC.out _).mono ?_; rintro e w2 ⟨rfl, h1⟩; have H1 := Lib.hid ((Gr.new w _).trans h1); clear h1)
  go_step3
  refine ⟨rfl, ?_⟩
  go_wp2_with fail
  rw [Exit.noGoto_ret]
  go_ret2
  exact ⟨rfl, H1.out.adds⟩

set_option maxRecDepth 100000 in
set_option maxHeartbeats 4000000 in
theorem siteBytes_yes (f p : Nat) (hf : f < 32) (hp : p < 512) (w : World) (hv : Widths w) :
    Calls Tryz.prog 44 #[.agg #[.int .i64 (f : Int), .int .i64 (p : Int)]] w fun e w' => ∃ v, e = .returned (.tuple #[v, .int .i64 0]) ∧ OwnB w' w.heap.size v (leB 1 f ++ leB 2 p) ∧ Adds w w' := by
  have hmx : Tryz.prog.follows .mixedOrders = true := by kernel_rfl
  have HC := Lib.hid (check_any ((f : Int), (p : Int)))
  have hr : rightS ((f : Int), (p : Int)) = true := rightS_iff.2 ⟨by show (0 : Int) ≤ (f : Int); omega, by show (f : Int) < 32; omega, by show (0 : Int) ≤ (p : Int); omega, by show (p : Int) < 512; omega⟩
  unfold chkE at HC
  rw [if_pos hr] at HC
  have HF := Lib.hid hf
  have HP := Lib.hid hp
  have HV := Lib.hid hv
  clear hr hv hf hp
  go_enter Tryz.func44, Tryz.ntmps44
  go_wp2_with fail
  refine wp_scope_fwd 0 rfl ?_
  go_wp2_with (first
    | (go_at_call 63; refine (HC.out _).mono ?_; rintro e w2 ⟨rfl, h1⟩; have H1 := Lib.hid h1; clear h1)
    | (go_at_call 64; refine (parts_any _).mono ?_; rintro e w3 ⟨rfl, h2⟩; have H2 := Lib.hid h2; clear h2))
  obtain ⟨k0, hk0⟩ : ∃ k0, w.heap.size = k0 := ⟨_, rfl⟩
  obtain ⟨w1, hw1⟩ : ∃ w1, w.alloc (.cells #[.int .i64 (f : Int), .int .i64 (p : Int)] 24) = w1 := ⟨_, rfl⟩
  have HG1 := Lib.hid (show Gr w w1 by rw [← hw1]; exact Gr.new _ _)
  have HS1 := Lib.hid (show BkS 24 w1 k0 [.int .i64 (f : Int), .int .i64 (p : Int)] by rw [← hw1, ← hk0]; exact BkS.new _ _ _)
  have HZ1 := Lib.hid (show w1.heap.size = k0 + 1 by rw [← hw1, ← hk0]; simp)
  have HK0 := Lib.hid hk0
  rw [hw1] at H1
  rw [hk0]
  clear hw1 hk0
  have HK := Lib.hid (H1.out.trans H2.out)
  go_loopw [4, 15] (fun s i wr => ∃ (z : Int) (x : List UInt8), i = .int .i64 z ∧ Below (k0 + 1) w1 wr ∧ OwnB wr (k0 + 1) s x ∧ BytI f p z x) (fun _ i _ => 3 - (intOf i).toNat)
  case atStart => exact ⟨0, [], rfl, HK.out.adds.mono (Nat.le_of_eq HZ1.out.symm), OwnB.nil _ _, .inl ⟨rfl, rfl⟩⟩
  case round =>
    obtain ⟨z, x, rfl, hg, ho, hz⟩ := hrel
    have HGr := Lib.hid hg
    have HOw := Lib.hid ho
    have b0 : wr.cell? ⟨k0, 0, none⟩ = some (.int .i64 (f : Int)) := (hg.cell (p := ⟨k0, 0, none⟩) (by show k0 < k0 + 1; omega)).trans (HS1.out.cell 0)
    have b1 : wr.cell? ⟨k0, 1, none⟩ = some (.int .i64 (p : Int)) := (hg.cell (p := ⟨k0, 1, none⟩) (by show k0 < k0 + 1; omega)).trans (HS1.out.cell 1)
    clear hg ho
    have hlt := World.block_lt_of_cell? _ _ b0
    simp only at hlt
    have HLt := Lib.hid hlt
    have HWr := Lib.hid (show Adds w wr from Adds.trans HG1.out.adds (HGr.out.mono (by have := HZ1.out; omega)))
    rcases hz with ⟨rfl, rfl⟩ | ⟨rfl, rfl⟩ | ⟨rfl, rfl⟩
    · have HI := ix0
      go_wp2_with fail
      obtain ⟨sz, hsz⟩ : ∃ sz, wr.heap.size = sz := ⟨_, rfl⟩
      obtain ⟨wb, hwb⟩ : ∃ wb, wr.alloc (.cells #[fn1, .int .i64 32, .string ⟨#[102]⟩, .int .i64 1] 105) = wb := ⟨_, rfl⟩
      have HGb := Lib.hid (show Gr wr wb by rw [← hwb]; exact Gr.new _ _)
      have g0 : wb.cell? ⟨sz, 0, none⟩ = some fn1 := by rw [← hwb, ← hsz]; simp
      have g3 : wb.cell? ⟨sz, 3, none⟩ = some (.int .i64 1) := by rw [← hwb, ← hsz]; simp
      have g4 := (HGb.out.adds.cell (World.block_lt_of_cell? wr _ b0)).trans b0
      have g5 := (HGb.out.adds.cell (World.block_lt_of_cell? wr _ b1)).trans b1
      have HG3 := Lib.hid g3
      rw [hwb, hsz]
      have ew := u64_in (a := f) (by have := HF.out; omega)
      clear hwb hsz hlt
      refine wp_calmS ?_
      go_region_with (first
        | (go_at_call 93; refine (fn1_at _ _ _).mono ?_; rintro e w5 ⟨rfl, h5⟩; have H5 := Lib.hid ((Gr.drewn wb 1).trans h5); have q3 : w5.cell? ⟨sz, 3, none⟩ = some (.int .i64 1) := (H5.out.adds.cell (World.block_lt_of_cell? wb _ HG3.out)).trans HG3.out; clear h5)
        | (go_at_call 76; refine (fixed_1 f HF.out _ (HV.out.below (Adds.trans HWr.out (Adds.trans HGb.out.adds H5.out.adds)))).mono ?_; rintro e w6 ⟨vp, rfl, h6, h7⟩; have H6 := Lib.hid h6; have H7 := Lib.hid (Adds.trans (Adds.trans HGb.out.adds H5.out.adds) h7); clear h6 h7))
      all_goals
        simp only [Exit.then]
        go_simp
        go_wp2_with (at_builtin; refine wp_append_bytes rfl _ _ rfl (k0 + 1) _ [] rfl (HOw.out.adds H7.out) _ (leB 1 f) _ rfl H6.out.bytes (by simp [leB_length]) (by have := H7.out.size; have := HLt.out; omega) ?_; intro v8 w8 o8 b8; have O8 := Lib.hid o8; have B8 := Lib.hid b8; clear o8 b8)
        go_roundw
        case rel => exact ⟨1, _, rfl, (HGr.out.trans (H7.out.mono (by have := HLt.out; omega))).trans B8.out, O8.out, .inr (.inl ⟨rfl, rfl⟩)⟩
        case measure => simp [intOf]
    · have HI := ix1
      go_wp2_with fail
      obtain ⟨sz, hsz⟩ : ∃ sz, wr.heap.size = sz := ⟨_, rfl⟩
      obtain ⟨wb, hwb⟩ : ∃ wb, wr.alloc (.cells #[fn2, .int .i64 512, .string ⟨#[58]⟩, .int .i64 2] 105) = wb := ⟨_, rfl⟩
      have HGb := Lib.hid (show Gr wr wb by rw [← hwb]; exact Gr.new _ _)
      have g0 : wb.cell? ⟨sz, 0, none⟩ = some fn2 := by rw [← hwb, ← hsz]; simp
      have g3 : wb.cell? ⟨sz, 3, none⟩ = some (.int .i64 2) := by rw [← hwb, ← hsz]; simp
      have g4 := (HGb.out.adds.cell (World.block_lt_of_cell? wr _ b0)).trans b0
      have g5 := (HGb.out.adds.cell (World.block_lt_of_cell? wr _ b1)).trans b1
      have HG3 := Lib.hid g3
      rw [hwb, hsz]
      have ew := u64_in (a := p) (by have := HP.out; omega)
      clear hwb hsz hlt
      refine wp_calmS ?_
      go_region_with (first
        | (go_at_call 94; refine (fn2_at _ _ _).mono ?_; rintro e w5 ⟨rfl, h5⟩; have H5 := Lib.hid ((Gr.drewn wb 1).trans h5); have q3 : w5.cell? ⟨sz, 3, none⟩ = some (.int .i64 2) := (H5.out.adds.cell (World.block_lt_of_cell? wb _ HG3.out)).trans HG3.out; clear h5)
        | (go_at_call 76; refine (fixed_2 p HP.out _ (HV.out.below (Adds.trans HWr.out (Adds.trans HGb.out.adds H5.out.adds)))).mono ?_; rintro e w6 ⟨vp, rfl, h6, h7⟩; have H6 := Lib.hid h6; have H7 := Lib.hid (Adds.trans (Adds.trans HGb.out.adds H5.out.adds) h7); clear h6 h7))
      all_goals
        simp only [Exit.then]
        go_simp
        go_wp2_with (at_builtin; refine wp_append_bytes rfl _ _ rfl (k0 + 1) _ (leB 1 f) rfl (HOw.out.adds H7.out) _ (leB 2 p) _ rfl H6.out.bytes (by simp [leB_length]) (by have := H7.out.size; have := HLt.out; omega) ?_; intro v8 w8 o8 b8; have O8 := Lib.hid o8; have B8 := Lib.hid b8; clear o8 b8)
        go_roundw
        case rel => exact ⟨2, _, rfl, (HGr.out.trans (H7.out.mono (by have := HLt.out; omega))).trans B8.out, O8.out, .inr (.inr ⟨rfl, rfl⟩)⟩
        case measure => simp [intOf]
    · go_wp2_with fail
      simp only [Exit.jump]
      go_ret2
      exact ⟨_, rfl, HOw.out.lower (by have := HK0.out; omega), HWr.out⟩
end Go.Proofs.YtbinmgpfkjmijaaGreatDoor
