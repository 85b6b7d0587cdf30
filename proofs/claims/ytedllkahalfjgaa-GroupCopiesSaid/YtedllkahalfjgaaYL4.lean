/- The law GroupCopies, walked. -/
import Derived.Test.YtedllkahalfjgaaYL3
import Derived.Test.YtedllkahalfjgaaYRow2
namespace Go.Proofs.Ytedllkahalfjgaa
open Go Go.RowKit

set_option maxRecDepth 100000 in
set_option maxHeartbeats 16000000 in
theorem law_copies15 (many : Int) (_hmI : In64 many) (va : Value) (acts : List A3) (y z : A3) (w : World) (ha : ActsW w.heap.size w va acts) (hk : ∀ y ∈ acts, okA y) (hy : okA y) (hz : okA z) :
    Calls Try.prog 6 #[.int .i64 many, va, .agg #[.int .i64 y.1, .int .i64 y.2.1, .int .i64 y.2.2, .int .i64 z.1, .int .i64 z.2.1, .int .i64 z.2.2]] w fun e W' => e = .returned (.bool true) ∧ Adds w W' := by
  have HW := Lib.hid works_any
  have HNum := Lib.hid num_any
  obtain ⟨w1, hw1⟩ : ∃ w1, w.alloc (.cells #[.int .i64 y.1, .int .i64 y.2.1, .int .i64 y.2.2, .int .i64 z.1, .int .i64 z.2.1, .int .i64 z.2.2] 62) = w1 := ⟨_, rfl⟩
  have HA1 := Lib.hid (show Adds w w1 by rw [← hw1]; exact (Gr.new _ _).adds)
  have HT := Lib.hid (show BkS 62 w1 w.heap.size [.int .i64 y.1, .int .i64 y.2.1, .int .i64 y.2.2, .int .i64 z.1, .int .i64 z.2.1, .int .i64 z.2.2] by rw [← hw1]; exact BkS.new _ _ _)
  obtain ⟨nt, hnt⟩ : ∃ nt, w.heap.size = nt := ⟨_, rfl⟩
  rw [hnt] at HT
  have ha0 := ha
  obtain ⟨ao, cap, rfl, hmx, _⟩ := ha
  have HKo := Lib.hid hk; have HYo := Lib.hid hy; have HZo := Lib.hid hz
  clear _hmI hk hy hz
  by_cases hg : (0 ≤ many ∧ many ≤ 64) ∧ acts.length ≤ 30
  · obtain ⟨⟨g1, g2⟩, g3⟩ := hg
    obtain ⟨n, rfl⟩ : ∃ n : Nat, many = n := ⟨many.toNat, by omega⟩
    have HNew := Lib.hid (newQ_yes n (by omega) w1)
    have HRef := Lib.hid (fun W => refNew_yes n (by omega) W)
    have g1' : ¬ (n : Int) < 0 := by omega
    have g2' : ¬ 64 < (n : Int) := by omega
    have g3' : ¬ 30 < (acts.length : Int) := by omega
    have HV := Lib.hid ha0
    have HN64 := Lib.hid (show n ≤ 64 by omega)
    have H30 := Lib.hid g3
    have h5 : (acts.length : Int) ≤ 30 := by omega
    clear ha0 hmx g3
    go_enter Try.func6, Try.ntmps6
    go_wp2_with (first
      | (go_at_call 20; refine HNew.out.mono ?_; rintro e w2 ⟨v, O, rfl, h1, h2, h3⟩; obtain ⟨bp, rfl⟩ := h1.ptrs; have M2 := Lib.hid h1; have A2 := Lib.hid (Adds.trans HA1.out h3); have B2 := Lib.hid (show w.heap.size ≤ O from Nat.le_trans HA1.out.size h2); have HT2 := Lib.hid (HT.out.adds h3); clear h1 h2 h3 HNew)
      | (go_at_call 21; refine (HRef.out w2).mono ?_; rintro e w3 ⟨u, rfl, h1, h2⟩; obtain ⟨g, cp, rfl⟩ := h1.val; have R3 := Lib.hid h1; have A3 := Lib.hid h2; clear h1 h2 HRef))
    obtain ⟨wb, hwb⟩ : ∃ wb, w3.alloc (.cells #[.slice (some ⟨g, 0, none⟩) (List.replicate n (0 : Int)).length cp] 53) = wb := ⟨_, rfl⟩
    have hab : Adds w3 wb := by rw [← hwb]; exact (Gr.new _ _).adds
    have HP0 := Lib.hid (show PlayG w wb (.pointer (some ⟨bp, 0, none⟩)) w3.heap.size (List.replicate n (0 : Int)) from
      ⟨⟨O, g, cp, (M2.out.adds A3.out).adds hab, B2.out, R3.out.adds hab, by rw [← hwb]; exact BkS.new _ _ _⟩, Adds.trans A2.out (Adds.trans A3.out hab)⟩)
    have HTn := Lib.hid (show BkS 62 wb nt _ from (HT2.out.adds A3.out).adds hab)
    obtain ⟨B, hB⟩ : ∃ B, w3.heap.size = B := ⟨_, rfl⟩
    have HBn := Lib.hid (show w.heap.size ≤ B by rw [← hB]; exact Nat.le_trans A2.out.size A3.out.size)
    try simp only [List.length_replicate] at hwb
    try rw [hwb]
    rw [hB] at HP0 ⊢
    clear hwb hab hB
    go_loopw [7, 11] (fun mv iv wr => ∃ (k : Nat) (l' : List Int), iv = .int .i64 k ∧ k ≤ acts.length ∧ l'.length = n ∧ BkS 62 wr nt [.int .i64 y.1, .int .i64 y.2.1, .int .i64 y.2.2, .int .i64 z.1, .int .i64 z.2.1, .int .i64 z.2.2] ∧ PlayG w wr mv B l') (fun _ iv _ => acts.length + 1 - (intOf iv).toNat)
    case atStart => exact ⟨0, _, rfl, Nat.zero_le _, by simp, HTn.out, HP0.out⟩
    case round =>
      obtain ⟨k, l', rfl, hk, hln, hT, hP⟩ := hrel
      obtain ⟨⟨O', g', cp', hM, hO, hR, hBk⟩, hA⟩ := hP
      obtain ⟨bp', rfl⟩ := hM.ptrs
      have cB : wr.cell? ⟨B, 0, none⟩ = some (.slice (some ⟨g', 0, none⟩) l'.length cp') := hBk.cell 0
      have HM := Lib.hid hM; have HR := Lib.hid hR; have HBk := Lib.hid hBk; have HAr := Lib.hid hA; have HO' := Lib.hid hO; have HTr := Lib.hid hT; have HLn := Lib.hid hln
      by_cases hlt : k < acts.length
      · obtain ⟨ga, off, cap', e, c0, c1, c2⟩ := HV.out.at3 (Nat.le_refl _) hA hlt
        simp only [Value.slice.injEq] at e
        obtain ⟨rfl, e0, rfl⟩ := e
        clear e0
        obtain ⟨⟨a, i, cc⟩, hx⟩ : ∃ x, acts.getD k zA = x := ⟨_, rfl⟩
        have hok := okA_at HKo.out hlt
        rw [hx] at c0 c1 c2 hok
        simp only at c0 c1 c2
        have hcc : In64 cc := hok.2.2
        have hltI : (k : Int) < (acts.length : Int) := by omega
        have HK := Lib.hid (show k + 1 ≤ acts.length from hlt)
        have HAct := Lib.hid (act_any a i cc hcc (hM.adds (Adds.drew wr)) (hR.adds (Adds.drew wr)))
        obtain ⟨L', hL'⟩ : ∃ L', stepQ l' a i cc = L' := ⟨_, rfl⟩
        rw [hL'] at HAct
        have HLL := Lib.hid (show L'.length = n by rw [← hL', stepQ_len]; exact hln)
        clear hk hM hR hBk hA hlt hx hL' hT hln hO hok hcc
        go_wp2
        have s0 : wr.drew.cell? ⟨ga, off + k * 3, none⟩ = some (.int .i64 a) := c0
        have s1 : wr.drew.cell? ⟨ga, off + k * 3 + 1, none⟩ = some (.int .i64 i) := c1
        have s2 : wr.drew.cell? ⟨ga, off + k * 3 + 2, none⟩ = some (.int .i64 cc) := c2
        have s3 : wr.drew.cell? ⟨B, 0, none⟩ = some (.slice (some ⟨g', 0, none⟩) l'.length cp') := cB
        go_region_with (go_at_call 23; refine HAct.out.mono ?_; rintro e w5 ⟨v5, s5, O5, rfl, h1, h2, h3, h4⟩; obtain ⟨g5, cp5, rfl⟩ := h2.val; have hcn := HM.out.cnt.adds (Adds.drew wr); have hbk5 := (HBk.out.adds (Adds.drew wr)).turnG hcn (by decide) h3; have d3 : w5.cell? ⟨B, 0, none⟩ = some (.slice (some ⟨g', 0, none⟩) l'.length cp') := hbk5.cell 0; have f3 := hbk5.free 0; have HBk5 := Lib.hid hbk5; have HT5 := Lib.hid ((HTr.out.adds (Adds.drew wr)).turnG hcn (by decide) h3); have M5 := Lib.hid h1; have R5 := Lib.hid h2; have B5 := Lib.hid (show w.heap.size ≤ O5 from h4.elim (fun e => by rw [e]; exact HO'.out) (fun h => Nat.le_trans HAr.out.size h)); have A5 := Lib.hid (TnS.own (Adds.trans HAr.out (Adds.drew wr)) HO'.out h3); clear h1 h2 h3 h4 hbk5 hcn)
        all_goals
          try simp only [Exit.then]
          try go_simp
          go_wp2_with fail
          go_roundw
          case rel =>
            obtain ⟨p1, p2⟩ := play_set M5.out R5.out HBk5.out 0 (.slice (some ⟨g5, 0, none⟩) L'.length cp5)
            exact ⟨k + 1, L', by go_num, HK.out, HLL.out, HT5.out.other (fun e => by
              have h1 := HT5.out
              have h2 := HBk5.out
              unfold BkS at h1 h2
              rw [← e] at h1
              rw [h2] at h1
              injection h1 with h3
              injection h3 with _ h4
              exact absurd h4 (by decide)) _, ⟨⟨O5, g5, cp5, p1, B5.out, p2, HBk5.out.set 0 _⟩, Adds.set A5.out HBn.out 0 _⟩⟩
          case measure => simp [intOf]; have := HK.out; omega
      · have hltI : ¬ (k : Int) < (acts.length : Int) := by omega
        have hn64 : (n : Int) ≤ 64 := by have := HN64.out; omega
        clear hk hM hR hBk hA hlt hT hln hO
        have HCp := Lib.hid (copyQ_any HM.out)
        obtain ⟨q, hq⟩ : ∃ q : Nat, (n + 1) % 65 = q := ⟨_, rfl⟩
        have HQ := Lib.hid (show q ≤ 64 ∧ q ≠ n by have := HN64.out; omega)
        have hrem : Int.tmod ((n : Int) + 1) 65 = (q : Int) := by rw [Int.tmod_eq_emod_of_nonneg (by omega)]; omega
        have HNw := Lib.hid (fun W => newQ_yes q (by have := HQ.out; omega) W)
        obtain ⟨L1, hL1⟩ : ∃ x, stepQ l' y.1 y.2.1 y.2.2 = x := ⟨_, rfl⟩
        obtain ⟨L2, hL2⟩ : ∃ x, stepQ l' z.1 z.2.1 z.2.2 = x := ⟨_, rfl⟩
        have HL1 := Lib.hid (show L1.length = n by rw [← hL1, stepQ_len]; exact HLn.out)
        have HL2 := Lib.hid (show L2.length = n by rw [← hL2, stepQ_len]; exact HLn.out)
        have HE1 := Lib.hid hL1; have HE2 := Lib.hid hL2
        obtain ⟨sm, hsm⟩ : ∃ sm, decide (L1 = L2) = sm := ⟨_, rfl⟩
        have HSe := Lib.hid hsm
        clear hsm
        obtain ⟨⟨y1, y2, y3⟩, hyy⟩ : ∃ x, y = x := ⟨_, rfl⟩
        obtain ⟨⟨z1, z2, z3⟩, hzz⟩ : ∃ x, z = x := ⟨_, rfl⟩
        subst hyy
        subst hzz
        simp only at HTr HE1 HE2
        clear hq hL1 hL2
        go_wp2_with (first
          | (go_at_call 25; refine HCp.out.mono ?_; rintro e w6 ⟨v6, O6, rfl, h1, h2, h3⟩; have M6 := Lib.hid h1; have C6 := Lib.hid h2; have A6 := Lib.hid h3; have hT6 := HTr.out.adds h3; have t0 : w6.cell? ⟨nt, 0, none⟩ = some (.int .i64 y1) := hT6.cell 0; have t1 : w6.cell? ⟨nt, 1, none⟩ = some (.int .i64 y2) := hT6.cell 1; have t2 : w6.cell? ⟨nt, 2, none⟩ = some (.int .i64 y3) := hT6.cell 2; have hB6 := HBk.out.adds h3; have t3 : w6.cell? ⟨B, 0, none⟩ = some (.slice (some ⟨g', 0, none⟩) l'.length cp') := hB6.cell 0; have HT6 := Lib.hid hT6; have HB6 := Lib.hid hB6; have R6 := Lib.hid (HR.out.adds h3); have HAc1 := Lib.hid (show Calls Try.prog 23 #[.pointer (some ⟨bp', 0, none⟩), .agg #[(.slice (some ⟨g', 0, none⟩) l'.length cp')], .agg #[.int .i64 y1, .int .i64 y2, .int .i64 y3]] w6 (ActGQ w6 O' L1) from (by have h := act_any y1 y2 y3 HYo.out.2.2 (HM.out.adds h3) R6.out; rw [HE1.out] at h; exact h)); clear h1 h2 h3 hT6 hB6 HCp)
          | (go_at_call 23; refine HAc1.out.mono ?_; rintro e w7 ⟨v7, s7, O7, rfl, h1, h2, h3, h4⟩; obtain ⟨g7, cp7, rfl⟩ := h2.val; have hmO := HM.out.adds A6.out; have nO6 : O6 ≠ O' := (by have := C6.out; have := HM.out.cnt.lt; omega); obtain ⟨wa, hwa⟩ : ∃ wa, w7.alloc (.cells #[(.slice (some ⟨g7, 0, none⟩) L1.length cp7)] 53) = wa := ⟨_, rfl⟩; have ha : Adds w7 wa := (by rw [← hwa]; exact (Gr.new _ _).adds); have x13 : BkS 53 wa w7.heap.size [(.slice (some ⟨g7, 0, none⟩) L1.length cp7)] := (by rw [← hwa]; exact BkS.new _ _ _); have hM6 := (M6.out.turn hmO.cnt nO6 h3).adds ha; have hT := (HT6.out.turnG hmO.cnt (by decide) h3).adds ha; have hB := (HB6.out.turnG hmO.cnt (by decide) h3).adds ha; have t4 : wa.cell? ⟨nt, 3, none⟩ = some (.int .i64 z1) := hT.cell 3; have t5 : wa.cell? ⟨nt, 4, none⟩ = some (.int .i64 z2) := hT.cell 4; have t6 : wa.cell? ⟨nt, 5, none⟩ = some (.int .i64 z3) := hT.cell 5; have t7 : wa.cell? ⟨B, 0, none⟩ = some (.slice (some ⟨g', 0, none⟩) l'.length cp') := hB.cell 0; have hR7 := (R6.out.turn hmO.cnt h3).adds ha; have HAc2 := Lib.hid (show Calls Try.prog 23 #[v6, .agg #[(.slice (some ⟨g', 0, none⟩) l'.length cp')], .agg #[.int .i64 z1, .int .i64 z2, .int .i64 z3]] wa (ActGQ wa O6 L2) from (by have h := act_any z1 z2 z3 HZo.out.2.2 hM6 hR7; rw [HE2.out] at h; exact h)); have MA := Lib.hid (h1.adds ha); have RA := Lib.hid (h2.adds ha); have MC := Lib.hid hM6; have HB7 := Lib.hid (show O7 ≠ O6 from h4.elim (fun e => (by rw [e]; exact nO6.symm)) (fun c => (by have := M6.out.cnt.lt; omega))); have AA := Lib.hid (Adds.trans (TnS.own (Adds.trans HAr.out A6.out) HO'.out h3) ha); have HX13 := Lib.hid x13; obtain ⟨k13, hk13⟩ : ∃ k13, w7.heap.size = k13 := ⟨_, rfl⟩; rw [hk13] at HX13; clear h1 h2 h3 h4 hmO ha x13 nO6 hM6 hT hB hR7 HAc1 t0 t1 t2 t3)
          | (go_at_call 23; refine HAc2.out.mono ?_; rintro e w8 ⟨v8, s8, O8, rfl, h1, h2, h3, h4⟩; obtain ⟨g8, cp8, rfl⟩ := h2.val; obtain ⟨wd, hwd⟩ : ∃ wd, w8.alloc (.cells #[(.slice (some ⟨g8, 0, none⟩) L2.length cp8)] 53) = wd := ⟨_, rfl⟩; have ha : Adds w8 wd := (by rw [← hwd]; exact (Gr.new _ _).adds); have x15 : BkS 53 wd w8.heap.size [(.slice (some ⟨g8, 0, none⟩) L2.length cp8)] := (by rw [← hwd]; exact BkS.new _ _ _); have x13 := (HX13.out.turnG MC.out.cnt (by decide) h3).adds ha; have r7 := (RA.out.turn MC.out.cnt h3).adds ha; have r8 := h2.adds ha; have c13 : wd.cell? ⟨k13, 0, none⟩ = some (.slice (some ⟨g7, 0, none⟩) L1.length cp7) := x13.cell 0; have HSm := Lib.hid (show Calls Try.prog 26 #[.agg #[(.slice (some ⟨g7, 0, none⟩) L1.length cp7)], .agg #[(.slice (some ⟨g8, 0, none⟩) L2.length cp8)]] wd (fun e w' => e = .returned (.bool sm) ∧ Adds wd w') from (by have h := refSame_any _ _ L1 L2 (by have h := HL1.out; have h9 := HN64.out; omega) (by have h := HL2.out; have h9 := HN64.out; omega) wd r7 r8; rw [HSe.out] at h; exact h)); have MD := Lib.hid ((MA.out.turn MC.out.cnt HB7.out h3).adds ha); have ME := Lib.hid (h1.adds ha); have R7 := Lib.hid r7; have R8 := Lib.hid r8; have AD := Lib.hid (Adds.trans (TnS.own AA.out (Nat.le_trans HAr.out.size C6.out) h3) ha); have HX15 := Lib.hid x15; have HX13d := Lib.hid x13; obtain ⟨k15, hk15⟩ : ∃ k15, w8.heap.size = k15 := ⟨_, rfl⟩; rw [hk15] at HX15 x15; have c15 : wd.cell? ⟨k15, 0, none⟩ = some (.slice (some ⟨g8, 0, none⟩) L2.length cp8) := x15.cell 0; clear h1 h2 h3 h4 ha x15 x13 r7 r8 HAc2 t4 t5 t6 t7)
          | (go_at_call 26; refine HSm.out.mono ?_; rintro e w9 ⟨rfl, h1⟩; have A9 := Lib.hid h1; clear h1 HSm)
          | (go_at_call 20; refine (HNw.out w9).mono ?_; rintro e wn ⟨vo, Oo, rfl, h1, h2, h3⟩; have hd := Adds.trans A9.out h3; have HI1 := Lib.hid (fun (W : World) (hW : Adds wn W) => is_any 99 ⟨by decide, by decide⟩ ((MD.out.adds hd).adds hW) ((R7.out.adds hd).adds hW)); have HI2 := Lib.hid (fun (W : World) (hW : Adds wn W) => is_any 99 ⟨by decide, by decide⟩ ((ME.out.adds hd).adds hW) ((R8.out.adds hd).adds hW)); have HS1 := Lib.hid (fun (W : World) (hW : Adds wn W) => show Calls Try.prog 27 #[v7, v8] W (fun e w' => e = .returned (.bool sm) ∧ Adds W w') from (by have h := sameQ_any ((MD.out.adds hd).adds hW) ((ME.out.adds hd).adds hW); rw [HSe.out] at h; exact h)); have HS2 := Lib.hid (fun (W : World) (hW : Adds wn W) => show Calls Try.prog 27 #[v8, v7] W (fun e w' => e = .returned (.bool sm) ∧ Adds W w') from (by have h := sameQ_any ((ME.out.adds hd).adds hW) ((MD.out.adds hd).adds hW); rw [show decide (L2 = L1) = sm by rw [← HSe.out]; exact decide_eq_decide.2 eq_comm] at h; exact h)); have HS3 := Lib.hid (fun (W : World) (hW : Adds wn W) => show Calls Try.prog 27 #[v7, vo] W (fun e w' => e = .returned (.bool false) ∧ Adds W w') from (by have h := sameQ_any ((MD.out.adds hd).adds hW) (h1.adds hW); rw [decide_eq_false (fun e => by have h8 := HL1.out; rw [e, List.length_replicate] at h8; exact HQ.out.2 h8)] at h; exact h)); have d13 : wn.cell? ⟨k13, 0, none⟩ = some (.slice (some ⟨g7, 0, none⟩) L1.length cp7) := (HX13d.out.adds hd).cell 0; have HD15 := Lib.hid (HX15.out.adds hd); have AN := Lib.hid (Adds.trans AD.out hd); clear h1 h2 h3 hd HNw)
          | (go_at_call 22; refine (HNum.out _ _).mono ?_; rintro e w' ⟨rfl, rfl⟩)
          | (go_at_call 24; refine (HI1.out wn (Adds.refl _)).mono ?_; rintro e w11 ⟨rfl, h⟩; have H11 := Lib.hid h; have e15 : w11.cell? ⟨k15, 0, none⟩ = some (.slice (some ⟨g8, 0, none⟩) L2.length cp8) := (HD15.out.adds h).cell 0; clear h HI1)
          | (go_at_call 24; refine (HI2.out w11 H11.out).mono ?_; rintro e w12 ⟨rfl, h⟩; have H12 := Lib.hid (Adds.trans H11.out h); clear h HI2)
          | (go_at_call 27; refine (HS1.out w12 H12.out).mono ?_; rintro e w13 ⟨rfl, h⟩; have H13 := Lib.hid (Adds.trans H12.out h); clear h HS1)
          | (go_at_call 27; refine (HS2.out w13 H13.out).mono ?_; rintro e w14 ⟨rfl, h⟩; have H14 := Lib.hid (Adds.trans H13.out h); clear h HS2)
          | (go_at_call 27; refine (HS3.out w14 H14.out).mono ?_; rintro e w15 ⟨rfl, h⟩; have H15 := Lib.hid (Adds.trans H14.out h); clear h HS3)
          | (go_at_call 19; refine (HW.out _).mono ?_; rintro e w16 ⟨rfl, h⟩; have H16 := Lib.hid (Adds.trans H15.out h); clear h HW))
        go_ret
        exact ⟨rfl, Adds.trans AN.out H16.out⟩
  · clear ha0 hmx
    by_cases g1 : many < 0
    · clear hg
      go_enter Try.func6, Try.ntmps6
      go_wp2_with (go_at_call 19; refine (HW.out _).mono ?_; rintro e w8 ⟨rfl, q8⟩; have H8 := Lib.hid q8; clear q8)
      go_ret
      exact ⟨rfl, Adds.trans HA1.out H8.out⟩
    · by_cases g2 : 64 < many
      · clear hg
        go_enter Try.func6, Try.ntmps6
        go_wp2_with (go_at_call 19; refine (HW.out _).mono ?_; rintro e w8 ⟨rfl, q8⟩; have H8 := Lib.hid q8; clear q8)
        go_ret
        exact ⟨rfl, Adds.trans HA1.out H8.out⟩
      · have g3 : 30 < (acts.length : Int) := by omega
        clear hg
        go_enter Try.func6, Try.ntmps6
        go_wp2_with (go_at_call 19; refine (HW.out _).mono ?_; rintro e w8 ⟨rfl, q8⟩; have H8 := Lib.hid q8; clear q8)
        go_ret
        exact ⟨rfl, Adds.trans HA1.out H8.out⟩
end Go.Proofs.Ytedllkahalfjgaa
