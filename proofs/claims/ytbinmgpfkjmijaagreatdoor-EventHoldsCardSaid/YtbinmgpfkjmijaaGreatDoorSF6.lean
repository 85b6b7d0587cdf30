/- The text of a site: its contract. -/
import Derived.Test.YtbinmgpfkjmijaaGreatDoorSLib
namespace Go.Proofs.YtbinmgpfkjmijaaGreatDoor
open Go Go.RowKit Go.Shelf Go.Sort

theorem str_app7 (a b : List UInt8) : str a ++ str b = str (a ++ b) := by
  apply ByteArray.ext; simp [str]
theorem dec_few (n : Nat) (h : n < 512) : (Lib.decDigits n).length ≤ 20 := by rw [Lib.decDigits_length]; exact Lib.nDigits_le20 n (by omega)
def TxtI (f p : Nat) (z : Int) (x : List UInt8) : Prop := (z = 0 ∧ x = []) ∨ (z = 1 ∧ x = 102 :: Lib.decDigits f) ∨ (z = 2 ∧ x = txtS ((f : Int), (p : Int)))
theorem TxtI.few {f p : Nat} {z : Int} {x : List UInt8} (h : TxtI f p z x) (hf : f < 512) (hp : p < 512) : (str x).size ≤ 60 := by
  rw [str_size]
  have h1 := dec_few f hf
  have h2 := dec_few p hp
  rcases h with ⟨_, rfl⟩ | ⟨_, rfl⟩ | ⟨_, rfl⟩
  · simp
  · simp; omega
  · simp [txtS]; omega
def textA (s : Si) : List UInt8 := if rightS s = true then txtS s else []

set_option maxRecDepth 100000 in
set_option maxHeartbeats 2000000 in
theorem siteText_no (s : Si) (hr : ¬ rightS s = true) (w : World) : Calls Tryz.prog 32 #[siV s] w fun e w' => e = .returned (.tuple #[.string ⟨#[]⟩, .int .i64 2]) ∧ Gr w w' := by
  have HC := Lib.hid (check_any s)
  unfold chkE at HC
  rw [if_neg hr] at HC
  clear hr
  obtain ⟨f, p⟩ := s
  go_enter Tryz.func32, Tryz.ntmps32
  go_wp2_with fail
  refine wp_scope_fwd 0 rfl ?_
  go_wp2_with (go_at_call 63; refine (HC.out _).mono ?_; rintro e w2 ⟨rfl, h1⟩; have H1 := Lib.hid ((Gr.new w _).trans h1); clear h1)
  go_step3
  refine ⟨rfl, ?_⟩
  go_wp2_with fail
  rw [Exit.noGoto_ret]
  go_ret2
  exact ⟨rfl, H1.out⟩

set_option maxRecDepth 100000 in
set_option maxHeartbeats 4000000 in
theorem siteText_yes (f p : Nat) (hf : f < 32) (hp : p < 512) (w : World) (hv : SVars w) :
    Calls Tryz.prog 32 #[.agg #[.int .i64 (f : Int), .int .i64 (p : Int)]] w fun e w' => e = .returned (.tuple #[.string (str (txtS ((f : Int), (p : Int)))), .int .i64 0]) ∧ Gr w w' := by
  have hmx : Tryz.prog.follows .mixedOrders = true := by kernel_rfl
  have HC := Lib.hid (check_any ((f : Int), (p : Int)))
  have hr : rightS ((f : Int), (p : Int)) = true := rightS_iff.2 ⟨by show (0 : Int) ≤ (f : Int); omega, by show (f : Int) < 32; omega, by show (0 : Int) ≤ (p : Int); omega, by show (p : Int) < 512; omega⟩
  unfold chkE at HC
  rw [if_pos hr] at HC
  have HF := Lib.hid (show f < 512 by omega)
  have HP := Lib.hid hp
  have HV := Lib.hid hv
  clear hr hv hf hp
  go_enter Tryz.func32, Tryz.ntmps32
  go_wp2_with fail
  refine wp_scope_fwd 0 rfl ?_
  go_wp2_with (first
    | (go_at_call 63; refine (HC.out _).mono ?_; rintro e w2 ⟨rfl, h1⟩; have H1 := Lib.hid h1; clear h1)
    | (go_at_call 64; refine (parts_any _).mono ?_; rintro e w3 ⟨rfl, h2⟩; have H2 := Lib.hid h2; clear h2))
  obtain ⟨k0, hk0⟩ : ∃ k0, w.heap.size = k0 := ⟨_, rfl⟩
  obtain ⟨w1, hw1⟩ : ∃ w1, w.alloc (.cells #[.int .i64 (f : Int), .int .i64 (p : Int)] 24) = w1 := ⟨_, rfl⟩
  have HG1 := Lib.hid (show Gr w w1 by rw [← hw1]; exact Gr.new _ _)
  have d0 : w1.cell? ⟨k0, 0, none⟩ = some (.int .i64 (f : Int)) := by rw [← hw1, ← hk0]; simp
  have d1 : w1.cell? ⟨k0, 1, none⟩ = some (.int .i64 (p : Int)) := by rw [← hw1, ← hk0]; simp
  rw [hw1] at H1
  rw [hk0]
  clear hw1 hk0
  have HK := Lib.hid (H1.out.trans H2.out)
  go_loopw [4, 13] (fun s i wr => ∃ (z : Int) (x : List UInt8), i = .int .i64 z ∧ s = .string (str x) ∧ Gr w1 wr ∧ TxtI f p z x) (fun _ i _ => 3 - (intOf i).toNat)
  case atStart => exact ⟨0, [], rfl, rfl, HK.out, .inl ⟨rfl, rfl⟩⟩
  case round =>
    obtain ⟨z, x, rfl, rfl, hg, hz⟩ := hrel
    have HGr := Lib.hid hg
    have hx := hz.few HF.out HP.out
    clear hg
    have b0 := (HGr.out.adds.cell (World.block_lt_of_cell? w1 _ d0)).trans d0
    have b1 := (HGr.out.adds.cell (World.block_lt_of_cell? w1 _ d1)).trans d1
    have hlt := World.block_lt_of_cell? _ _ b0
    simp only at hlt
    rcases hz with ⟨rfl, rfl⟩ | ⟨rfl, rfl⟩ | ⟨rfl, rfl⟩
    · have HI := ix0
      go_wp2_with fail
      obtain ⟨sz, hsz⟩ : ∃ sz, wr.heap.size = sz := ⟨_, rfl⟩
      obtain ⟨wb, hwb⟩ : ∃ wb, wr.alloc (.cells #[fn1, .int .i64 32, .string ⟨#[102]⟩, .int .i64 1] 105) = wb := ⟨_, rfl⟩
      have HGb := Lib.hid (show Gr wr wb by rw [← hwb]; exact Gr.new _ _)
      have g0 := grc (show wb.cell? ⟨sz, 0, none⟩ = some fn1 by rw [← hwb, ← hsz]; simp)
      have g2 := grc (show wb.cell? ⟨sz, 2, none⟩ = some (.string ⟨#[102]⟩) by rw [← hwb, ← hsz]; simp)
      have g4 := grc ((HGb.out.adds.cell (World.block_lt_of_cell? wr _ b0)).trans b0)
      have g5 := grc ((HGb.out.adds.cell (World.block_lt_of_cell? wr _ b1)).trans b1)
      rw [hwb, hsz]
      clear hwb hsz hlt
      have HIt := Lib.hid (fun n os => itoa7_any f (by have := HF.out; omega) (grow (wb.drewN n) os) (HV.out.gr (HG1.out.trans (HGr.out.trans (HGb.out.trans (Gr.grown wb n os))))))
      obtain ⟨s1, hs1⟩ : ∃ s1, str (Lib.decDigits f) = s1 := ⟨_, rfl⟩
      have hsz1 : s1.size ≤ 20 := by rw [← hs1, str_size]; exact dec_few _ HF.out
      rw [hs1] at HIt
      obtain ⟨s0, hs0⟩ : ∃ s0, str [] = s0 := ⟨_, rfl⟩
      rw [hs0] at hx ⊢
      have HX := Lib.hid (show s0 ++ ((⟨#[102]⟩ : ByteArray) ++ s1) = str (102 :: Lib.decDigits f) by
        rw [← hs0, ← hs1]
        show str _ ++ (str [102] ++ str _) = _
        rw [str_app7, str_app7]
        rfl)
      have q1 : ¬ (9223372036854775807 < 1 + s1.size) := by omega
      have q2 : ¬ (9223372036854775807 < s0.size + (1 + s1.size)) := by omega
      clear hs1 hs0 hsz1 hx
      go_quiet_grown (first | (go_at_call 93; exact Calls.gr (fn1_at _ _)) | (go_at_call 37; exact Calls.grown_of (HIt.out _ _)))
      have HW6 := Lib.hid ((HGr.out.trans HGb.out).trans (Gr.grown wb nq osq))
      simp only []
      go_simp
      go_wp2_with fail
      go_roundw
      case rel => exact ⟨1, _, rfl, by rw [HX.out], HW6.out, .inr (.inl ⟨rfl, rfl⟩)⟩
      case measure => simp [intOf]
    · have HI := ix1
      go_wp2_with fail
      obtain ⟨sz, hsz⟩ : ∃ sz, wr.heap.size = sz := ⟨_, rfl⟩
      obtain ⟨wb, hwb⟩ : ∃ wb, wr.alloc (.cells #[fn2, .int .i64 512, .string ⟨#[58]⟩, .int .i64 2] 105) = wb := ⟨_, rfl⟩
      have HGb := Lib.hid (show Gr wr wb by rw [← hwb]; exact Gr.new _ _)
      have g0 := grc (show wb.cell? ⟨sz, 0, none⟩ = some fn2 by rw [← hwb, ← hsz]; simp)
      have g2 := grc (show wb.cell? ⟨sz, 2, none⟩ = some (.string ⟨#[58]⟩) by rw [← hwb, ← hsz]; simp)
      have g4 := grc ((HGb.out.adds.cell (World.block_lt_of_cell? wr _ b0)).trans b0)
      have g5 := grc ((HGb.out.adds.cell (World.block_lt_of_cell? wr _ b1)).trans b1)
      rw [hwb, hsz]
      clear hwb hsz hlt
      have HIt := Lib.hid (fun n os => itoa7_any p (by have := HP.out; omega) (grow (wb.drewN n) os) (HV.out.gr (HG1.out.trans (HGr.out.trans (HGb.out.trans (Gr.grown wb n os))))))
      obtain ⟨s1, hs1⟩ : ∃ s1, str (Lib.decDigits p) = s1 := ⟨_, rfl⟩
      have hsz1 : s1.size ≤ 20 := by rw [← hs1, str_size]; exact dec_few _ HP.out
      rw [hs1] at HIt
      obtain ⟨s0, hs0⟩ : ∃ s0, str (102 :: Lib.decDigits f) = s0 := ⟨_, rfl⟩
      rw [hs0] at hx ⊢
      have HX := Lib.hid (show s0 ++ ((⟨#[58]⟩ : ByteArray) ++ s1) = str (txtS ((f : Int), (p : Int))) by
        rw [← hs0, ← hs1]
        show str _ ++ (str [58] ++ str _) = _
        rw [str_app7, str_app7]
        rfl)
      have q1 : ¬ (9223372036854775807 < 1 + s1.size) := by omega
      have q2 : ¬ (9223372036854775807 < s0.size + (1 + s1.size)) := by omega
      clear hs1 hs0 hsz1 hx
      go_quiet_grown (first | (go_at_call 94; exact Calls.gr (fn2_at _ _)) | (go_at_call 37; exact Calls.grown_of (HIt.out _ _)))
      have HW6 := Lib.hid ((HGr.out.trans HGb.out).trans (Gr.grown wb nq osq))
      simp only []
      go_simp
      go_wp2_with fail
      go_roundw
      case rel => exact ⟨2, _, rfl, by rw [HX.out], HW6.out, .inr (.inr ⟨rfl, rfl⟩)⟩
      case measure => simp [intOf]
    · go_wp2_with fail
      simp only [Exit.jump]
      go_ret2
      exact ⟨rfl, HG1.out.trans HGr.out⟩
theorem siteText_any (s : Si) (w : World) (hv : SVars w) : Calls Tryz.prog 32 #[siV s] w fun e w' => e = .returned (.tuple #[.string (str (textA s)), .int .i64 (chkE s)]) ∧ Gr w w' := by
  unfold textA chkE
  by_cases h : rightS s = true
  · rw [if_pos h, if_pos h]
    obtain ⟨f, p⟩ := s
    have hr := rightS_iff.1 h
    simp only at hr
    obtain ⟨f, rfl⟩ : ∃ n : Nat, f = n := ⟨f.toNat, by omega⟩
    obtain ⟨p, rfl⟩ : ∃ n : Nat, p = n := ⟨p.toNat, by omega⟩
    exact siteText_yes f p (by omega) (by omega) w hv
  · rw [if_neg h, if_neg h]
    exact siteText_no s h w
end Go.Proofs.YtbinmgpfkjmijaaGreatDoor
