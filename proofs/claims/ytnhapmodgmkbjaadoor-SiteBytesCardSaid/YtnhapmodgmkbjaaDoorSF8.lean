/- A site read of bytes: its contract. -/
import Derived.Test.YtnhapmodgmkbjaaDoorSF5
namespace Go.Proofs.YtnhapmodgmkbjaaDoor
open Go Go.RowKit Go.Shelf

theorem readB_0 {l : List UInt8} (h : l.length < 3) : readB l = ((0, 0), 110) := by unfold readB; rw [if_pos h]
theorem readB_1 {l : List UInt8} (h : 3 ≤ l.length) (hr : rightS (siteB l) = true) : readB l = (siteB l, 0) := by unfold readB; rw [if_neg (by omega), if_pos hr]
theorem readB_2 {l : List UInt8} (h : 3 ≤ l.length) (hr : ¬ rightS (siteB l) = true) : readB l = ((0, 0), 170) := by unfold readB; rw [if_neg (by omega), if_neg hr]
def rbV (l : List UInt8) : Value := .tuple #[siV (readB l).1, .int .i64 (readB l).2]

def RdB (l : List UInt8) (z : Int) (l' : List UInt8) (n0 n1 : Int) : Prop :=
  (z = 0 ∧ l' = l) ∨ (z = 1 ∧ 1 ≤ l.length ∧ n0 = ((unB (l.take 1) : Nat) : Int) ∧ l' = l.drop 1) ∨ (z = 2 ∧ 3 ≤ l.length ∧ n0 = (siteB l).1 ∧ n1 = (siteB l).2)

set_option maxRecDepth 100000 in
set_option maxHeartbeats 4000000 in
theorem readY_any {n : Nat} (v : Value) (l : List UInt8) (w : World) (hn : n ≤ w.heap.size) (hb : Bytes n w v l) (hv : Widths w) :
    Calls Tryd.prog 30 #[v, .func (.func 31) #[] #[]] w fun e w' => e = .returned (rbV l) ∧ Adds w w' := by
  have HV := Lib.hid hv
  have HB := Lib.hid (fun (W : World) (h : Adds w W) => hb.below (h.mono hn))
  clear hv hb
  go_enter Tryd.func30, Tryd.ntmps30
  go_wp2_with (go_at_call 23; refine (parts_any _).mono ?_; rintro e w2 ⟨rfl, h1⟩; have HK2 := Lib.hid h1; clear h1)
  obtain ⟨k0, hk0⟩ : ∃ k0, w.heap.size = k0 := ⟨_, rfl⟩
  obtain ⟨w1, hw1⟩ : ∃ w1, (w.alloc (.cells #[.int .i64 0, .int .i64 0] 23)).alloc (.cells #[.int .i64 0, .int .i64 0] 85) = w1 := ⟨_, rfl⟩
  have HG1 := Lib.hid (show Adds w w1 by rw [← hw1]; exact ((Gr.new _ _).alloc _).adds)
  have HB0 := Lib.hid (show BkS 23 w1 k0 [.int .i64 0, .int .i64 0] by rw [← hw1, ← hk0]; exact (BkS.new _ _ _).adds (Gr.new _ _).adds)
  have HB1 := Lib.hid (show BkS 85 w1 (k0 + 1) [.int .i64 0, .int .i64 0] by have := BkS.new 85 (w.alloc (.cells #[.int .i64 0, .int .i64 0] 23)) [.int .i64 0, .int .i64 0]; rw [← hw1, ← hk0]; simpa using this)
  have HK0 := Lib.hid hk0
  rw [hw1] at HK2
  rw [hk0]
  clear hw1 hk0
  have HR2 := Lib.hid (show Adds w w2 from Adds.trans HG1.out HK2.out.adds)
  have HC0 := Lib.hid (HB0.out.adds HK2.out.adds)
  have HC1 := Lib.hid (HB1.out.adds HK2.out.adds)
  clear HB0 HB1 HK2 HG1
  go_loopw [0, 14] (fun s i wr => ∃ (z : Int) (l' : List UInt8) (n0 n1 : Int), i = .int .i64 z ∧ (∀ m W, Bytes m W v l → z < 2 → Bytes m W s l') ∧ Adds w wr ∧ BkS 23 wr k0 [.int .i64 0, .int .i64 0] ∧ BkS 85 wr (k0 + 1) [.int .i64 n0, .int .i64 n1] ∧ RdB l z l' n0 n1) (fun _ i _ => 3 - (intOf i).toNat)
  case atStart => exact ⟨0, l, 0, 0, rfl, fun _ _ h _ => h, HR2.out, HC0.out, HC1.out, .inl ⟨rfl, rfl⟩⟩
  case round =>
    obtain ⟨z, l', n0, n1, rfl, hs, hA, hS, hN, hR⟩ := hrel
    have HSl := Lib.hid hs; have HA := Lib.hid hA; have HS := Lib.hid hS; have HN := Lib.hid hN
    clear hs hA hS hN
    rcases hR with ⟨rfl, rfl⟩ | ⟨rfl, hR⟩ | ⟨rfl, hR⟩
    · have HI := ix0
      by_cases hl : 1 ≤ l'.length
      · have HT := Lib.hid (fun (W : World) (hW : Adds w W) => bytes_yes fn1 32 ⟨#[102]⟩ 1 (.inl rfl) _ l' hl W ((HSl.out _ W (HB.out W hW) (by omega)).mono (Nat.le_trans hn hW.size)) (HV.out.below hW))
        have HLn := Lib.hid hl
        obtain ⟨N2, hN2⟩ : ∃ N2, unB (l'.take 1) = N2 := ⟨_, rfl⟩
        rw [hN2] at HT
        have HN2 := Lib.hid hN2
        clear hN2 hl 
        go_wp2_with (go_at_call 31; refine (HT.out _ (Adds.trans HA.out (Gr.new _ _).adds)).mono ?_; rintro e w3 ⟨v3, rfl, h3, h4⟩
                     have e3 := HN.out.adds (Adds.trans (Gr.new wr _).adds h3)
                     have c30 : w3.cell? ⟨k0 + 1, 0, none⟩ = some (.int .i64 n0) := e3.cell 0
                     have f30 := e3.free 0
                     have H3 := Lib.hid (Adds.trans HA.out (Adds.trans (Gr.new wr _).adds h3))
                     have S3 := Lib.hid (HS.out.adds (Adds.trans (Gr.new wr _).adds h3))
                     have E3 := Lib.hid e3
                     have H4 := Lib.hid h4
                     clear h3 e3 h4)
        go_roundw
        case rel => exact ⟨1, l'.drop 1, (N2 : Int), n1, rfl, fun m W hm _ => H4.out m W (HSl.out m W hm (by omega)), Adds.set H3.out (by have := HK0.out; omega) 0 _, S3.out.other (by omega) _, E3.out.set 0 _, .inr (.inl ⟨rfl, HLn.out, by rw [HN2.out], rfl⟩)⟩
        case measure => simp [intOf]
      · have HT := Lib.hid (fun (W : World) (hW : Adds w W) => bytes_no fn1 32 ⟨#[102]⟩ 1 (.inl rfl) _ l' (by omega) W ((HSl.out _ W (HB.out W hW) (by omega)).mono (Nat.le_trans hn hW.size)) (HV.out.below hW))
        have HLn := Lib.hid hl
        clear hl 
        go_wp2_with (go_at_call 31; refine (HT.out _ (Adds.trans HA.out (Gr.new _ _).adds)).mono ?_; rintro e w3 ⟨rfl, h3⟩
                     have e3 := HS.out.adds (Adds.trans (Gr.new wr _).adds h3)
                     have c30 : w3.cell? ⟨k0, 0, none⟩ = some (.int .i64 0) := e3.cell 0
                     have c31 : w3.cell? ⟨k0, 1, none⟩ = some (.int .i64 0) := e3.cell 1
                     have f30 := e3.free 0
                     have f31 := e3.free 1
                     have H3 := Lib.hid (Adds.trans HA.out (Adds.trans (Gr.new wr _).adds h3))
                     have E3 := Lib.hid e3
                     clear h3 e3)
        refine bodyPost_ret (res_box2 rfl _ _ _ _ _ _ _ rfl ((E3.out.set 0 (.int .i64 0)).set 1 (.int .i64 0)) Tryd.underlying23 rfl (by kernel_rfl)) rfl ?_
        refine ⟨by unfold rbV; rw [readB_0 (by have := HLn.out; omega)]; rfl, Adds.set (Adds.set H3.out (Nat.le_of_eq HK0.out) 0 _) (Nat.le_of_eq HK0.out) 1 _⟩
    · have HI := ix1
      obtain ⟨h1, rfl, rfl⟩ := hR
      by_cases hl : 2 ≤ (l.drop 1).length
      · have HT := Lib.hid (fun (W : World) (hW : Adds w W) => bytes_yes fn2 512 ⟨#[58]⟩ 2 (.inr rfl) _ (l.drop 1) hl W ((HSl.out _ W (HB.out W hW) (by omega)).mono (Nat.le_trans hn hW.size)) (HV.out.below hW))
        have HLn := Lib.hid hl
        have HL1 := Lib.hid h1
        obtain ⟨N2, hN2⟩ : ∃ N2, unB ((l.drop 1).take 2) = N2 := ⟨_, rfl⟩
        rw [hN2] at HT
        have HN2 := Lib.hid hN2
        clear hN2 hl h1
        go_wp2_with (go_at_call 31; refine (HT.out _ (Adds.trans HA.out (Gr.new _ _).adds)).mono ?_; rintro e w3 ⟨v3, rfl, h3, h4⟩
                     have e3 := HN.out.adds (Adds.trans (Gr.new wr _).adds h3)
                     have c30 : w3.cell? ⟨k0 + 1, 1, none⟩ = some (.int .i64 n1) := e3.cell 1
                     have f30 := e3.free 1
                     have H3 := Lib.hid (Adds.trans HA.out (Adds.trans (Gr.new wr _).adds h3))
                     have S3 := Lib.hid (HS.out.adds (Adds.trans (Gr.new wr _).adds h3))
                     have E3 := Lib.hid e3
                     have H4 := Lib.hid h4
                     clear h3 e3 h4)
        go_roundw
        case rel => exact ⟨2, (l.drop 1).drop 2, _, (N2 : Int), rfl, fun m W hm _ => H4.out m W (HSl.out m W hm (by omega)), Adds.set H3.out (by have := HK0.out; omega) 1 _, S3.out.other (by omega) _, E3.out.set 1 _, .inr (.inr ⟨rfl, by have := HLn.out; simp at this; omega, rfl, by rw [← HN2.out]; rfl⟩)⟩
        case measure => simp [intOf]
      · have HT := Lib.hid (fun (W : World) (hW : Adds w W) => bytes_no fn2 512 ⟨#[58]⟩ 2 (.inr rfl) _ (l.drop 1) (by omega) W ((HSl.out _ W (HB.out W hW) (by omega)).mono (Nat.le_trans hn hW.size)) (HV.out.below hW))
        have HLn := Lib.hid hl
        have HL1 := Lib.hid h1
        clear hl h1
        go_wp2_with (go_at_call 31; refine (HT.out _ (Adds.trans HA.out (Gr.new _ _).adds)).mono ?_; rintro e w3 ⟨rfl, h3⟩
                     have e3 := HS.out.adds (Adds.trans (Gr.new wr _).adds h3)
                     have c30 : w3.cell? ⟨k0, 0, none⟩ = some (.int .i64 0) := e3.cell 0
                     have c31 : w3.cell? ⟨k0, 1, none⟩ = some (.int .i64 0) := e3.cell 1
                     have f30 := e3.free 0
                     have f31 := e3.free 1
                     have H3 := Lib.hid (Adds.trans HA.out (Adds.trans (Gr.new wr _).adds h3))
                     have E3 := Lib.hid e3
                     clear h3 e3)
        refine bodyPost_ret (res_box2 rfl _ _ _ _ _ _ _ rfl ((E3.out.set 0 (.int .i64 0)).set 1 (.int .i64 0)) Tryd.underlying23 rfl (by kernel_rfl)) rfl ?_
        refine ⟨by unfold rbV; rw [readB_0 (by have := HLn.out; simp at this; omega)]; rfl, Adds.set (Adds.set H3.out (Nat.le_of_eq HK0.out) 0 _) (Nat.le_of_eq HK0.out) 1 _⟩
    · obtain ⟨h3, rfl, rfl⟩ := hR
      have hc0 : wr.cell? ⟨k0 + 1, 0, none⟩ = some (.int .i64 (siteB l).1) := HN.out.cell 0
      have hc1 : wr.cell? ⟨k0 + 1, 1, none⟩ = some (.int .i64 (siteB l).2) := HN.out.cell 1
      have HCk := Lib.hid (check_any ((siteB l).1, (siteB l).2))
      by_cases hr : rightS (siteB l) = true
      · have HVl := Lib.hid (readB_1 h3 hr)
        unfold chkE at HCk
        rw [show rightS ((siteB l).1, (siteB l).2) = true from hr, if_pos rfl] at HCk
        clear hr h3
        go_wp2_with (go_at_call 12; refine (HCk.out _).mono ?_; rintro e w3 ⟨rfl, h3⟩
                     have e3 := HS.out.adds (Adds.trans (Gr.new wr _).adds h3.adds)
                     have c30 : w3.cell? ⟨k0, 0, none⟩ = some (.int .i64 0) := e3.cell 0
                     have c31 : w3.cell? ⟨k0, 1, none⟩ = some (.int .i64 0) := e3.cell 1
                     have f30 := e3.free 0
                     have f31 := e3.free 1
                     have HB := Lib.hid (((BkS.new 23 wr [.int .i64 (siteB l).1, .int .i64 (siteB l).2]).adds h3.adds))
                     have b30 : w3.cell? ⟨wr.heap.size, 0, none⟩ = some (.int .i64 (siteB l).1) := HB.out.cell 0
                     have b31 : w3.cell? ⟨wr.heap.size, 1, none⟩ = some (.int .i64 (siteB l).2) := HB.out.cell 1
                     have H3 := Lib.hid (Adds.trans HA.out (Adds.trans (Gr.new wr _).adds h3.adds))
                     have E3 := Lib.hid e3
                     clear h3 e3)
        refine bodyPost_ret (res_box2 rfl _ _ _ _ _ _ _ rfl ((E3.out.set 0 (.int .i64 (siteB l).1)).set 1 (.int .i64 (siteB l).2)) Tryd.underlying23 rfl (by kernel_rfl)) rfl ?_
        refine ⟨by unfold rbV; rw [HVl.out]; rfl, Adds.set (Adds.set H3.out (Nat.le_of_eq HK0.out) 0 _) (Nat.le_of_eq HK0.out) 1 _⟩
      · have HVl := Lib.hid (readB_2 h3 hr)
        unfold chkE at HCk
        rw [if_neg (show ¬ rightS ((siteB l).1, (siteB l).2) = true from hr)] at HCk
        clear hr h3
        go_wp2_with (go_at_call 12; refine (HCk.out _).mono ?_; rintro e w3 ⟨rfl, h3⟩
                     have e3 := HS.out.adds (Adds.trans (Gr.new wr _).adds h3.adds)
                     have c30 : w3.cell? ⟨k0, 0, none⟩ = some (.int .i64 0) := e3.cell 0
                     have c31 : w3.cell? ⟨k0, 1, none⟩ = some (.int .i64 0) := e3.cell 1
                     have f30 := e3.free 0
                     have f31 := e3.free 1
                     have H3 := Lib.hid (Adds.trans HA.out (Adds.trans (Gr.new wr _).adds h3.adds))
                     have E3 := Lib.hid e3
                     clear h3 e3)
        refine bodyPost_ret (res_box2 rfl _ _ _ _ _ _ _ rfl ((E3.out.set 0 (.int .i64 0)).set 1 (.int .i64 0)) Tryd.underlying23 rfl (by kernel_rfl)) rfl ?_
        refine ⟨by unfold rbV; rw [HVl.out]; rfl, Adds.set (Adds.set H3.out (Nat.le_of_eq HK0.out) 0 _) (Nat.le_of_eq HK0.out) 1 _⟩
end Go.Proofs.YtnhapmodgmkbjaaDoor
