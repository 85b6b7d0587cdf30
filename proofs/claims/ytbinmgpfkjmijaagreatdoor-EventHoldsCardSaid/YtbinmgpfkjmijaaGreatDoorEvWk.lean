/- The chapter's rows: what the laws' works asks. (genWk.py wrote this.) -/
import Derived.Test.YtbinmgpfkjmijaaGreatDoorEvF9
import Derived.Test.YtbinmgpfkjmijaaGreatDoorEvR2
import Derived.Test.YtbinmgpfkjmijaaGreatDoorEvG3
namespace Go.Proofs.YtbinmgpfkjmijaaGreatDoor
open Go Go.RowKit Go.Shelf

theorem dg (n : Nat) (h : n < 10) : Lib.decDigits n = [UInt8.ofNat (48 + n)] := dec_lo h
theorem d4096 : Lib.decDigits 4096 = [52, 48, 57, 54] := by
  have e1 : 4096 / 10 = 409 := by omega
  have e2 : 409 / 10 = 40 := by omega
  have e3 : 40 / 10 = 4 := by omega
  have m1 : 4096 % 10 = 6 := by omega
  have m2 : 409 % 10 = 9 := by omega
  have m3 : 40 % 10 = 0 := by omega
  rw [dec_hi (n := 4096) (by omega), e1, m1, dec_hi (n := 409) (by omega), e2, m2, dec_hi (n := 40) (by omega), e3, m3, dg 4 (by omega)]
  rfl
theorem i4096 : Lib.itoa 4096 = [52, 48, 57, 54] := (Lib.itoa_nonneg 4096).trans d4096
theorem i3 : Lib.itoa 3 = [51] := (Lib.itoa_nonneg 3).trans (dg 3 (by decide))
theorem i0 : Lib.itoa 0 = [48] := (Lib.itoa_nonneg 0).trans (dg 0 (by decide))
theorem i5 : Lib.itoa 5 = [53] := (Lib.itoa_nonneg 5).trans (dg 5 (by decide))
theorem im3 : Lib.itoa (-3) = [45, 51] := (Lib.itoa_neg 3 (by decide)).trans (by rw [dg 3 (by decide)]; rfl)
theorem word_it {p : Nat} (h : p ≠ 5) (v : Int) : wordE p v = Lib.itoa v := by unfold wordE; rw [if_neg h]
theorem txt_dg {f p : Nat} (hf : f < 10) (hp : p < 10) : txtS ((f : Int), (p : Int)) = [102, UInt8.ofNat (48 + f), 58, UInt8.ofNat (48 + p)] := by
  unfold txtS
  simp only [Int.toNat_natCast]
  rw [dg f hf, dg p hp]
  rfl
theorem textW1 : textE ⟨3, 3, 0, 4, 4096, 0, 0, 0, 0⟩ = [51, 32, 102, 48, 58, 52, 32, 115, 116, 111, 114, 101, 32, 52, 48, 57, 54] := by
  have e : wordsE ⟨3, 3, 0, 4, 4096, 0, 0, 0, 0⟩ = [wordE 0 3] ++ [txtS (0, 4), kindB.getD 3 []] ++ [wordE 1 4096] := rfl
  have h : wordsE ⟨3, 3, 0, 4, 4096, 0, 0, 0, 0⟩ = [[51], [102, 48, 58, 52], [115, 116, 111, 114, 101], [52, 48, 57, 54]] := by
    rw [e, word_it (by decide), word_it (by decide), i3, i4096, show txtS (0, 4) = _ from txt_dg (f := 0) (p := 4) (by decide) (by decide)]
    rfl
  unfold textE
  rw [h]
  rfl
theorem textW2 : textE ⟨0, 11, 1, 2, 0, 0, 5, -3, 0⟩ = [48, 32, 102, 49, 58, 50, 32, 99, 111, 117, 110, 116, 32, 53, 32, 45, 51] := by
  have e : wordsE ⟨0, 11, 1, 2, 0, 0, 5, -3, 0⟩ = [wordE 0 0] ++ [txtS (1, 2), kindB.getD 11 []] ++ [wordE 3 5, wordE 4 (-3)] := rfl
  have h : wordsE ⟨0, 11, 1, 2, 0, 0, 5, -3, 0⟩ = [[48], [102, 49, 58, 50], [99, 111, 117, 110, 116], [53], [45, 51]] := by
    rw [e, word_it (by decide), word_it (by decide), word_it (by decide), i0, i5, im3, show txtS (1, 2) = _ from txt_dg (f := 1) (p := 2) (by decide) (by decide)]
    rfl
  unfold textE
  rw [h]
  rfl
theorem textW3 : textE ⟨0, 14, 0, 0, 0, 0, 0, 0, 2⟩ = [48, 32, 102, 48, 58, 48, 32, 116, 114, 97, 112, 32, 99, 111, 117, 110, 116] := by
  have e : wordsE ⟨0, 14, 0, 0, 0, 0, 0, 0, 2⟩ = [wordE 0 0] ++ [txtS (0, 0), kindB.getD 14 []] ++ [trapB.getD 2 []] := rfl
  have h : wordsE ⟨0, 14, 0, 0, 0, 0, 0, 0, 2⟩ = [[48], [102, 48, 58, 48], [116, 114, 97, 112], [99, 111, 117, 110, 116]] := by
    rw [e, word_it (by decide), i0, show txtS (0, 0) = _ from txt_dg (f := 0) (p := 0) (by decide) (by decide)]
    rfl
  unfold textE
  rw [h]
  rfl
theorem bytesW1 : bytesE ⟨3, 3, 0, 4, 4096, 0, 0, 0, 0⟩ = [3, 3, 0, 0, 4, 0, 0, 16, 0, 0] := by decide +kernel
theorem w_text1 (w : World) (hv : EVars w) : Calls Tryz.prog 9 #[.agg #[.int .i64 3, .int .i64 3, .int .i64 0, .int .i64 4, .int .u32 4096, .int .i64 0, .int .i64 0, .int .i64 0, .int .i64 0]] w fun e w' => e = .returned (.tuple #[.string ⟨#[51, 32, 102, 48, 58, 52, 32, 115, 116, 111, 114, 101, 32, 52, 48, 57, 54]⟩, .int .i64 0]) ∧ Adds w w' := by
  have h := text16_yes ⟨3, 3, 0, 4, 4096, 0, 0, 0, 0⟩ ⟨by decide, by decide⟩ (by decide +kernel) w hv
  rw [textW1] at h
  exact h
theorem w_text2 (w : World) (hv : EVars w) : Calls Tryz.prog 9 #[.agg #[.int .i64 0, .int .i64 11, .int .i64 1, .int .i64 2, .int .u32 0, .int .i64 0, .int .i64 5, .int .i64 (-3), .int .i64 0]] w fun e w' => e = .returned (.tuple #[.string ⟨#[48, 32, 102, 49, 58, 50, 32, 99, 111, 117, 110, 116, 32, 53, 32, 45, 51]⟩, .int .i64 0]) ∧ Adds w w' := by
  have h := text16_yes ⟨0, 11, 1, 2, 0, 0, 5, -3, 0⟩ ⟨by decide, by decide⟩ (by decide +kernel) w hv
  rw [textW2] at h
  exact h
theorem w_text3 (w : World) (hv : EVars w) : Calls Tryz.prog 9 #[.agg #[.int .i64 0, .int .i64 14, .int .i64 0, .int .i64 0, .int .u32 0, .int .i64 0, .int .i64 0, .int .i64 0, .int .i64 2]] w fun e w' => e = .returned (.tuple #[.string ⟨#[48, 32, 102, 48, 58, 48, 32, 116, 114, 97, 112, 32, 99, 111, 117, 110, 116]⟩, .int .i64 0]) ∧ Adds w w' := by
  have h := text16_yes ⟨0, 14, 0, 0, 0, 0, 0, 0, 2⟩ ⟨by decide, by decide⟩ (by decide +kernel) w hv
  rw [textW3] at h
  exact h
theorem w_bytes (w : World) (hv : EVars w) : Calls Tryz.prog 16 #[.agg #[.int .i64 3, .int .i64 3, .int .i64 0, .int .i64 4, .int .u32 4096, .int .i64 0, .int .i64 0, .int .i64 0, .int .i64 0]] w fun e w' => ∃ v, e = .returned (.tuple #[v, .int .i64 0]) ∧ OwnB w' w.heap.size v [3, 3, 0, 0, 4, 0, 0, 16, 0, 0] ∧ Adds w w' := by
  have h := bytes16_yes ⟨3, 3, 0, 4, 4096, 0, 0, 0, 0⟩ ⟨by decide, by decide⟩ (by decide +kernel) w hv
  rw [bytesW1] at h
  exact h
theorem w_lead1 (w : World) : Calls Tryz.prog 22 #[.agg #[.int .i64 0, .int .i64 6, .int .i64 0, .int .i64 0, .int .u32 0, .int .i64 0, .int .i64 1, .int .i64 0, .int .i64 0], .agg #[.int .i64 2, .int .i64 5, .int .i64 0, .int .i64 0, .int .u32 0, .int .i64 0, .int .i64 1, .int .i64 0, .int .i64 0]] w fun e w' => e = .returned (.bool true) ∧ Adds w w' := by
  have h := lead_any ⟨0, 6, 0, 0, 0, 0, 1, 0, 0⟩ ⟨2, 5, 0, 0, 0, 0, 1, 0, 0⟩ ⟨by decide, by decide⟩ ⟨by decide, by decide⟩ w
  rw [show leadE ⟨0, 6, 0, 0, 0, 0, 1, 0, 0⟩ ⟨2, 5, 0, 0, 0, 0, 1, 0, 0⟩ = true by decide +kernel] at h
  exact h
theorem w_lead2 (w : World) : Calls Tryz.prog 22 #[.agg #[.int .i64 2, .int .i64 5, .int .i64 0, .int .i64 0, .int .u32 0, .int .i64 0, .int .i64 1, .int .i64 0, .int .i64 0], .agg #[.int .i64 0, .int .i64 6, .int .i64 0, .int .i64 0, .int .u32 0, .int .i64 0, .int .i64 1, .int .i64 0, .int .i64 0]] w fun e w' => e = .returned (.bool false) ∧ Adds w w' := by
  have h := lead_any ⟨2, 5, 0, 0, 0, 0, 1, 0, 0⟩ ⟨0, 6, 0, 0, 0, 0, 1, 0, 0⟩ ⟨by decide, by decide⟩ ⟨by decide, by decide⟩ w
  rw [show leadE ⟨2, 5, 0, 0, 0, 0, 1, 0, 0⟩ ⟨0, 6, 0, 0, 0, 0, 1, 0, 0⟩ = false by decide +kernel] at h
  exact h
set_option maxRecDepth 100000 in
set_option maxHeartbeats 4000000 in
theorem works16 (w : World) (hv : EVars w) : Calls Tryz.prog 15 #[] w (TrueAdds w) := by
  have hnum := num16
  have HA0 := Lib.hid (show Adds w (w.alloc (.cells (evC ⟨3, 3, 0, 4, 4096, 0, 0, 0, 0⟩).toArray 28)) from (Gr.new _ _).adds)
  have HB0 := Lib.hid (show BkS 28 (w.alloc (.cells (evC ⟨3, 3, 0, 4, 4096, 0, 0, 0, 0⟩).toArray 28)) w.heap.size (evC ⟨3, 3, 0, 4, 4096, 0, 0, 0, 0⟩) from BkS.new _ _ _)
  have HV := Lib.hid (fun W (h : Adds w W) => hv.adds h)
  clear hv
  go_enter Tryz.func15, Tryz.ntmps15
  go_wp2_with (first
    | (go_at_call 9; refine (w_text1 _ (HV.out _ HA0.out)).mono ?_; rintro e w2 ⟨rfl, q⟩; have A2 := Lib.hid (Adds.trans HA0.out q); have B2 := Lib.hid (HB0.out.adds q); clear q HA0 HB0)
    | (go_at_call 9; refine (w_text2 w2 (HV.out w2 A2.out)).mono ?_; rintro e w3 ⟨rfl, q⟩; have A3 := Lib.hid (Adds.trans A2.out q); have B3 := Lib.hid (B2.out.adds q); clear q A2 B2)
    | (go_at_call 9; refine (w_text3 w3 (HV.out w3 A3.out)).mono ?_; rintro e w4 ⟨rfl, q⟩; have A4 := Lib.hid (Adds.trans A3.out q); have b4 := B3.out.adds q; have j0 : w4.cell? ⟨w.heap.size, 0, none⟩ = some (.int .i64 3) := b4.cell 0; have j1 : w4.cell? ⟨w.heap.size, 1, none⟩ = some (.int .i64 3) := b4.cell 1; have j2 : w4.cell? ⟨w.heap.size, 2, none⟩ = some (.int .i64 0) := b4.cell 2; have j3 : w4.cell? ⟨w.heap.size, 3, none⟩ = some (.int .i64 4) := b4.cell 3; have j4 : w4.cell? ⟨w.heap.size, 4, none⟩ = some (.int .u32 4096) := b4.cell 4; have j5 : w4.cell? ⟨w.heap.size, 5, none⟩ = some (.int .i64 0) := b4.cell 5; have j6 : w4.cell? ⟨w.heap.size, 6, none⟩ = some (.int .i64 0) := b4.cell 6; have j7 : w4.cell? ⟨w.heap.size, 7, none⟩ = some (.int .i64 0) := b4.cell 7; have j8 : w4.cell? ⟨w.heap.size, 8, none⟩ = some (.int .i64 0) := b4.cell 8; clear q A3 B3 b4)
    | (go_at_call 16; refine (w_bytes w4 (HV.out w4 A4.out)).mono ?_; rintro e w5 ⟨v5, rfl, h1, h2⟩; have O5 := Lib.hid h1; have A5 := Lib.hid (Adds.trans A4.out h2); obtain ⟨g5, cap5, rfl, _, _⟩ := h1.form (by simp); clear h1 h2 A4)
    | (go_at_call 17; have R5 := Lib.hid (OwnB.lit w5 [15, 0, 0] (by simp [maxLen])); have G5 := Lib.hid (Gr.new w5 (.cells (([15, 0, 0] : List UInt8).map byteV).toArray 5)).adds; refine (read_none _ 15 [0, 0] (by decide) _ (Nat.le_refl _) R5.out.bytes ((HV.out _ (Adds.trans A5.out G5.out)).sv.wid)).mono ?_; rintro e w6 ⟨rfl, q⟩; have A56 := Lib.hid (Adds.trans G5.out q); have A6 := Lib.hid (Adds.trans A5.out (Adds.trans G5.out q)); clear q G5 R5))
  obtain ⟨w9, hw9⟩ : ∃ w9, ((w6.alloc (.cells (evC zE).toArray 28)).alloc (.cells (evC ⟨0, 6, 0, 0, 0, 0, 1, 0, 0⟩).toArray 28)).alloc (.cells (evC ⟨2, 5, 0, 0, 0, 0, 1, 0, 0⟩).toArray 28) = w9 := ⟨_, rfl⟩
  have A9 := Lib.hid (show Adds w6 w9 by rw [← hw9]; exact (((Gr.new _ _).alloc _).alloc _).adds)
  have BU := Lib.hid (show BkS 28 w9 (w6.heap.size + 1) (evC ⟨0, 6, 0, 0, 0, 0, 1, 0, 0⟩) by rw [← hw9]; have h : BkS 28 ((w6.alloc (.cells (evC zE).toArray 28)).alloc (.cells (evC ⟨0, 6, 0, 0, 0, 0, 1, 0, 0⟩).toArray 28)) (w6.heap.size + 1) (evC ⟨0, 6, 0, 0, 0, 0, 1, 0, 0⟩) := heap_new1 _ _ _; exact h.adds (Gr.new _ _).adds)
  have BK := Lib.hid (show BkS 28 w9 (w6.heap.size + 1 + 1) (evC ⟨2, 5, 0, 0, 0, 0, 1, 0, 0⟩) by rw [← hw9]; have h := BkS.new 28 ((w6.alloc (.cells (evC zE).toArray 28)).alloc (.cells (evC ⟨0, 6, 0, 0, 0, 0, 1, 0, 0⟩).toArray 28)) (evC ⟨2, 5, 0, 0, 0, 0, 1, 0, 0⟩); simpa using h)
  have hs : (convert 37 9 (.slice (some ⟨g5, 0, none⟩) 10 cap5)).run Tryz.prog w9 = .ok (.string ⟨#[3,3,0,0,4,0,0,16,0,0]⟩) w9 := strAt (O5.out.bytes.adds (Adds.trans A56.out A9.out))
  rw [hw9]
  obtain ⟨nU, hU⟩ : ∃ n, w6.heap.size + 1 = n := ⟨_, rfl⟩
  obtain ⟨nK, hK⟩ : ∃ n, nU + 1 = n := ⟨_, rfl⟩
  rw [hU] at BU BK ⊢
  rw [hK] at BK ⊢
  clear hw9 hU hK
  have h1 := BU.out
  have h2 := BK.out
  have u0 : w9.cell? ⟨nU, 0, none⟩ = some (.int .i64 0) := h1.cell 0
  have u1 : w9.cell? ⟨nU, 1, none⟩ = some (.int .i64 6) := h1.cell 1
  have u2 : w9.cell? ⟨nU, 2, none⟩ = some (.int .i64 0) := h1.cell 2
  have u3 : w9.cell? ⟨nU, 3, none⟩ = some (.int .i64 0) := h1.cell 3
  have u4 : w9.cell? ⟨nU, 4, none⟩ = some (.int .u32 0) := h1.cell 4
  have u5 : w9.cell? ⟨nU, 5, none⟩ = some (.int .i64 0) := h1.cell 5
  have u6 : w9.cell? ⟨nU, 6, none⟩ = some (.int .i64 1) := h1.cell 6
  have u7 : w9.cell? ⟨nU, 7, none⟩ = some (.int .i64 0) := h1.cell 7
  have u8 : w9.cell? ⟨nU, 8, none⟩ = some (.int .i64 0) := h1.cell 8
  have k0 : w9.cell? ⟨nK, 0, none⟩ = some (.int .i64 2) := h2.cell 0
  have k1 : w9.cell? ⟨nK, 1, none⟩ = some (.int .i64 5) := h2.cell 1
  have k2 : w9.cell? ⟨nK, 2, none⟩ = some (.int .i64 0) := h2.cell 2
  have k3 : w9.cell? ⟨nK, 3, none⟩ = some (.int .i64 0) := h2.cell 3
  have k4 : w9.cell? ⟨nK, 4, none⟩ = some (.int .u32 0) := h2.cell 4
  have k5 : w9.cell? ⟨nK, 5, none⟩ = some (.int .i64 0) := h2.cell 5
  have k6 : w9.cell? ⟨nK, 6, none⟩ = some (.int .i64 1) := h2.cell 6
  have k7 : w9.cell? ⟨nK, 7, none⟩ = some (.int .i64 0) := h2.cell 7
  have k8 : w9.cell? ⟨nK, 8, none⟩ = some (.int .i64 0) := h2.cell 8
  clear h1 h2
  have HL1 := Lib.hid (w_lead1 w9)
  go_wp2_with (first
    | (go_at_call 11; refine (hnum _ _).mono ?_; rintro e w10 ⟨rfl, rfl⟩)
    | (go_at_call 22; refine HL1.out.mono ?_; clear HL1; have HL2 := Lib.hid w_lead2; rintro e w11 ⟨rfl, q⟩; have A11 := Lib.hid q; have h1 := BU.out.adds q; have h2 := BK.out.adds q; have x0 : w11.cell? ⟨nU, 0, none⟩ = some (.int .i64 0) := h1.cell 0; have x1 : w11.cell? ⟨nU, 1, none⟩ = some (.int .i64 6) := h1.cell 1; have x2 : w11.cell? ⟨nU, 2, none⟩ = some (.int .i64 0) := h1.cell 2; have x3 : w11.cell? ⟨nU, 3, none⟩ = some (.int .i64 0) := h1.cell 3; have x4 : w11.cell? ⟨nU, 4, none⟩ = some (.int .u32 0) := h1.cell 4; have x5 : w11.cell? ⟨nU, 5, none⟩ = some (.int .i64 0) := h1.cell 5; have x6 : w11.cell? ⟨nU, 6, none⟩ = some (.int .i64 1) := h1.cell 6; have x7 : w11.cell? ⟨nU, 7, none⟩ = some (.int .i64 0) := h1.cell 7; have x8 : w11.cell? ⟨nU, 8, none⟩ = some (.int .i64 0) := h1.cell 8; have y0 : w11.cell? ⟨nK, 0, none⟩ = some (.int .i64 2) := h2.cell 0; have y1 : w11.cell? ⟨nK, 1, none⟩ = some (.int .i64 5) := h2.cell 1; have y2 : w11.cell? ⟨nK, 2, none⟩ = some (.int .i64 0) := h2.cell 2; have y3 : w11.cell? ⟨nK, 3, none⟩ = some (.int .i64 0) := h2.cell 3; have y4 : w11.cell? ⟨nK, 4, none⟩ = some (.int .u32 0) := h2.cell 4; have y5 : w11.cell? ⟨nK, 5, none⟩ = some (.int .i64 0) := h2.cell 5; have y6 : w11.cell? ⟨nK, 6, none⟩ = some (.int .i64 1) := h2.cell 6; have y7 : w11.cell? ⟨nK, 7, none⟩ = some (.int .i64 0) := h2.cell 7; have y8 : w11.cell? ⟨nK, 8, none⟩ = some (.int .i64 0) := h2.cell 8; clear q h1 h2)
    | (go_at_call 22; refine (HL2.out w11).mono ?_; clear HL2; rintro e w12 ⟨rfl, q⟩; have A12 := Lib.hid q; clear q))
  go_ret
  exact ⟨rfl, Adds.trans A6.out (Adds.trans A9.out (Adds.trans A11.out A12.out))⟩
end Go.Proofs.YtbinmgpfkjmijaaGreatDoor
