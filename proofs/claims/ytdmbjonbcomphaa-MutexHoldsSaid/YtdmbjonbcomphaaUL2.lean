/- The law MutexHolds, walked. -/
import Derived.Test.YtdmbjonbcomphaaUFr
import Derived.Test.YtdmbjonbcomphaaUL0
namespace Go.Proofs.Ytdmbjonbcomphaa
open Go Go.RowKit Go.Maps

/-- What a call makes of it. -/
def kindB (a : Int) : Bool := decide (0 ≤ a ∧ a ≤ 3)
def stepH (l : List Int) (x : A3) : List Int := if kindB x.1 then lockL l x.2.1 x.2.2 else unlockL l x.2.1
theorem stepH_length (l : List Int) (x : A3) : (stepH l x).length = l.length := by unfold stepH; split; exact lockL_length ..; exact unlockL_length ..
/-- Who holds each, in an array of 64. -/
def arrV (l : List Int) : List Value := (l ++ List.replicate (64 - l.length) 0).map iVh
  where iVh (x : Int) : Value := .int .i64 x
theorem arrV_at {l : List Int} {n : Nat} (h : n < l.length) : (arrV l)[n]? = some (.int .i64 (atL l (n : Int))) := by
  unfold arrV
  rw [List.getElem?_map, List.getElem?_append_left h, List.getElem?_eq_getElem h, atL_nat, List.getD_eq_getElem?_getD, List.getElem?_eq_getElem h]
  rfl
theorem arrV_set {l : List Int} {n : Nat} (h : n < l.length) (x : Int) : (arrV l).set n (.int .i64 x) = arrV (l.set n x) := by
  unfold arrV
  rw [List.length_set, ← List.set_append_left _ _ h]
  rw [List.map_set]
  rfl
theorem arrV_zero (n : Nat) (h : n ≤ 64) : arrV (List.replicate n 0) = List.replicate 64 (.int .i64 0) := by
  unfold arrV
  rw [List.length_replicate, List.replicate_append_replicate, show n + (64 - n) = 64 by omega]
  simp [arrV.iVh]
set_option maxRecDepth 100000 in
set_option maxHeartbeats 8000000 in
theorem law_holds13 (many : Int) (va : Value) (acts : List A3) (w : World) (ha : ActsW w.heap.size w va acts) (hk : ∀ y ∈ acts, okA y) :
    Calls Try.prog 6 #[.int .i64 many, va] w fun e W' => e = .returned (.bool true) ∧ Adds w W' := by
  have HW := Lib.hid works_any
  have HNum := Lib.hid num_any
  have ha0 := ha
  obtain ⟨ao, cap, rfl, hmx, _⟩ := ha
  by_cases hg : (1 ≤ many ∧ many ≤ 64) ∧ acts.length ≤ 100
  · obtain ⟨⟨g1, g2⟩, g3⟩ := hg
    obtain ⟨n, rfl⟩ : ∃ n : Nat, many = n := ⟨many.toNat, by omega⟩
    have HNew := Lib.hid (newU_yes n (by omega) w)
    have h1 : ¬ (n : Int) < 1 := by omega
    have h2 : ¬ 64 < (n : Int) := by omega
    have h3 : ¬ 100 < (acts.length : Int) := by omega
    go_enter Try.func6, Try.ntmps6
    go_wp2_with (go_at_call 8; refine HNew.out.mono ?_; rintro e w1 ⟨v, bp, b, rfl, h1, h2, h3, h4⟩; have M1 := Lib.hid h1; have A1 := Lib.hid h4; have B1 := Lib.hid (And.intro h2 h3); clear h1 h2 h3 h4 HNew)
    generalize hwb : World.alloc w1 _ = wb
    have HBk0 := Lib.hid (show BkS 59 wb w1.heap.size (arrV (List.replicate n 0)) by rw [← hwb, arrV_zero n (by omega)]; exact heap_new w1 _)
    have HA0 := Lib.hid (show Adds w1 wb by rw [← hwb]; exact (Gr.new _ _).adds)
    obtain ⟨B, hB⟩ : ∃ B, w1.heap.size = B := ⟨_, rfl⟩
    rw [hB] at HBk0 ⊢
    have HBn := Lib.hid (show w.heap.size ≤ B by rw [← hB]; exact A1.out.size)
    have HN := Lib.hid (And.intro g1 g2)
    have HV := Lib.hid (show ActsW w.heap.size w (.slice ao acts.length cap) acts from ha0)
    have HKo := Lib.hid hk
    have HG3 := Lib.hid g3
    have h5 : (acts.length : Int) ≤ 100 := by omega
    clear hwb hB h1 h2 h3 g1 g2 g3 hk ha0 hmx
    go_loopw [8] (fun iv wr => ∃ (k : Nat) (l' : List Int), iv = .int .i64 k ∧ k ≤ acts.length ∧ l'.length = n ∧ MutP wr v bp b l' ∧ BkS 59 wr B (arrV l') ∧ Adds w wr) (fun iv _ => acts.length + 1 - (intOf iv).toNat)
    case atStart => exact ⟨0, _, rfl, Nat.zero_le _, by simp, M1.out.adds HA0.out, HBk0.out, Adds.trans A1.out HA0.out⟩
    case round =>
      obtain ⟨k, l', rfl, hk, hl, hM, hBk, hA⟩ := hrel
      by_cases hlt : k < acts.length
      · obtain ⟨g, off, cap', e, c0, c1, c2⟩ := HV.out.at3 (Nat.le_refl _) hA hlt
        simp only [Value.slice.injEq] at e
        obtain ⟨rfl, e0, rfl⟩ := e
        clear e0
        obtain ⟨⟨a, i, cc⟩, hx⟩ : ∃ x, acts.getD k zA = x := ⟨_, rfl⟩
        have hok := okA_at HKo.out hlt
        rw [hx] at c0 c1 c2 hok
        unfold okA at hok
        simp only at c0 c1 c2 hok
        have hltI : (k : Int) < (acts.length : Int) := by omega
        have HK := Lib.hid (show k + 1 ≤ acts.length from hlt)
        have HLn := Lib.hid hl
        have HM := Lib.hid hM; have HBk0' := Lib.hid hBk; have HAr := Lib.hid hA
        obtain ⟨wc, hwc⟩ : ∃ wc, wr.alloc (.cells #[.int .i64 a, .int .i64 i, .int .i64 cc] 37) = wc := ⟨_, rfl⟩
        have haw : Adds wr wc := by rw [← hwc]; exact (Gr.new _ _).adds
        have HX := Lib.hid (show BkS 37 wc wr.heap.size [.int .i64 a, .int .i64 i, .int .i64 cc] by rw [← hwc]; exact BkS.new _ _ _)
        have z0 : wc.cell? ⟨wr.heap.size, 0, none⟩ = some (.int .i64 a) := HX.out.cell 0
        have z1 : wc.cell? ⟨wr.heap.size, 1, none⟩ = some (.int .i64 i) := HX.out.cell 1
        have z2 : wc.cell? ⟨wr.heap.size, 2, none⟩ = some (.int .i64 cc) := HX.out.cell 2
        obtain ⟨c, hc⟩ : ∃ c, wr.heap.size = c := ⟨_, rfl⟩
        rw [hc] at HX z0 z1 z2
        have HMc := Lib.hid (hM.adds haw)
        have HBk := Lib.hid (hBk.adds haw)
        have HAc := Lib.hid (Adds.trans hA haw)
        have HO := Lib.hid hok
        clear hk hl hM hBk hA hlt haw hok
        have HBb := Lib.hid (show w.heap.size ≤ b from B1.out.2)
        by_cases hkd : 0 ≤ a ∧ a ≤ 3
        · obtain ⟨hk0, hk3⟩ := hkd
          have HCall := Lib.hid (lock_any v bp b l' i cc wc HMc.out HO.out.2.1)
          by_cases hE : lockE l' i cc = 0
          · obtain ⟨q1, q2, q3, q4, q5⟩ := lockE_good hE
            obtain ⟨m, rfl⟩ : ∃ m : Nat, i = m := ⟨i.toNat, by omega⟩
            rw [hE, show lockL l' (m : Int) cc = l'.set m (cc + 1) by unfold lockL; rw [if_pos hE, Int.toNat_natCast]] at HCall
            have HQ5 := Lib.hid q5
            have m0 : ¬ (m : Int) < 0 := by omega
            clear q5
            have m3 : (m : Int) < (n : Int) := by have := HLn.out; omega
            have m64 : (m : Int) < 64 := by have := HLn.out; have := HN.out.2; omega
            have HMl := Lib.hid (show m < l'.length by omega)
            clear q3 q4 hE
            go_wp2_with (first
              | (go_at_call 19; refine HCall.out.mono ?_; rintro e w3 ⟨rfl, h1, h2⟩; have M3 := Lib.hid h1; have T3 := Lib.hid h2; have x3 := HX.out.turn HMc.out.map h2; have y0 : w3.cell? ⟨c, 0, none⟩ = some (.int .i64 a) := x3.cell 0; have y1 : w3.cell? ⟨c, 1, none⟩ = some (.int .i64 (m : Int)) := x3.cell 1; have y2 : w3.cell? ⟨c, 2, none⟩ = some (.int .i64 cc) := x3.cell 2; have hbk3 := HBk.out.turn HMc.out.map h2; have HBk3 := Lib.hid hbk3; have e3 : w3.cell? ⟨B, m, none⟩ = some (.int .i64 0) := (by have h := hbk3.cell m; rw [arrV_at HMl.out, HQ5.out] at h; exact h); have f3 := hbk3.free m; clear h1 h2 x3 hbk3)
              | (go_at_call 10; refine (HNum.out _ _).mono ?_; rintro e w' ⟨rfl, rfl⟩))
            go_roundw
            case rel => exact ⟨k + 1, _, by go_num, HK.out, by rw [← HLn.out]; simp, M3.out.far HBk3.out (by decide) m _, by rw [← arrV_set HMl.out]; exact HBk3.out.set m _, Adds.set (TnS.own HAc.out HBb.out T3.out) HBn.out m _⟩
            case measure => simp [intOf]; have := HK.out; omega
          · rw [show lockL l' i cc = l' by unfold lockL; rw [if_neg hE]] at HCall
            generalize lockE l' i cc = e at *
            go_wp2_with (first
              | (go_at_call 19; refine HCall.out.mono ?_; rintro e w3 ⟨rfl, h1, h2⟩; have M3 := Lib.hid h1; have T3 := Lib.hid h2; have x3 := HX.out.turn HMc.out.map h2; have y0 : w3.cell? ⟨c, 0, none⟩ = some (.int .i64 a) := x3.cell 0; have y1 : w3.cell? ⟨c, 1, none⟩ = some (.int .i64 i) := x3.cell 1; have y2 : w3.cell? ⟨c, 2, none⟩ = some (.int .i64 cc) := x3.cell 2; have hbk3 := HBk.out.turn HMc.out.map h2; have HBk3 := Lib.hid hbk3; clear h1 h2 x3 hbk3)
              | (go_at_call 10; refine (HNum.out _ _).mono ?_; rintro e w' ⟨rfl, rfl⟩))
            go_roundw
            case rel => exact ⟨k + 1, l', by go_num, HK.out, HLn.out, M3.out, HBk3.out, TnS.own HAc.out HBb.out T3.out⟩
            case measure => simp [intOf]; have := HK.out; omega
        · by_cases hk0 : a < 0
          · clear hkd
            have HCall := Lib.hid (unlock_any v bp b l' i wc HMc.out)
            by_cases hE : unlockE l' i = 0
            · have hq : 0 ≤ i ∧ i < l'.length ∧ atL l' i ≠ 0 := by
                unfold unlockE at hE
                split at hE
                · rename_i h1
                  split at hE
                  · omega
                  · rename_i h2; exact ⟨h1.1, h1.2, h2⟩
                · omega
              obtain ⟨q3, q4, q5⟩ := hq
              obtain ⟨m, rfl⟩ : ∃ m : Nat, i = m := ⟨i.toNat, by omega⟩
              have q6 := atL_may HMc.out.may (m : Int)
              rw [hE, show unlockW l' (m : Int) = atL l' (m : Int) - 1 by unfold unlockW; rw [if_pos hE], show unlockL l' (m : Int) = l'.set m 0 by unfold unlockL; rw [if_pos hE, Int.toNat_natCast]] at HCall
              obtain ⟨q6, q7⟩ := q6
              have HY := Lib.hid (fun (hm : m < l'.length) => arrV_at hm)
              generalize atL l' (m : Int) = y at *
              have m0 : ¬ (m : Int) < 0 := by omega
              have m3 : (m : Int) < (n : Int) := by have := HLn.out; omega
              have m64 : (m : Int) < 64 := by have := HLn.out; have := HN.out.2; omega
              have HMl := Lib.hid (show m < l'.length by omega)
              clear q3 q4 hE
              go_wp2_with (first
                | (go_at_call 16; refine HCall.out.mono ?_; rintro e w3 ⟨rfl, h1, h2⟩; have M3 := Lib.hid h1; have T3 := Lib.hid h2; have x3 := HX.out.turn HMc.out.map h2; have y0 : w3.cell? ⟨c, 0, none⟩ = some (.int .i64 a) := x3.cell 0; have y1 : w3.cell? ⟨c, 1, none⟩ = some (.int .i64 (m : Int)) := x3.cell 1; have y2 : w3.cell? ⟨c, 2, none⟩ = some (.int .i64 cc) := x3.cell 2; have hbk3 := HBk.out.turn HMc.out.map h2; have HBk3 := Lib.hid hbk3; have e3 : w3.cell? ⟨B, m, none⟩ = some (.int .i64 y) := (by have h := hbk3.cell m; rw [HY.out HMl.out] at h; exact h); have f3 := hbk3.free m; clear h1 h2 x3 hbk3)
                | (go_at_call 10; refine (HNum.out _ _).mono ?_; rintro e w' ⟨rfl, rfl⟩))
              go_roundw
              case rel => exact ⟨k + 1, _, by go_num, HK.out, by rw [← HLn.out]; simp, M3.out.far HBk3.out (by decide) m _, by rw [← arrV_set HMl.out]; exact HBk3.out.set m _, Adds.set (TnS.own HAc.out HBb.out T3.out) HBn.out m _⟩
              case measure => simp [intOf]; have := HK.out; omega
            · rw [show unlockL l' i = l' by unfold unlockL; rw [if_neg hE], show unlockW l' i = 0 by unfold unlockW; rw [if_neg hE]] at HCall
              generalize unlockE l' i = e at *
              go_wp2_with (first
                | (go_at_call 16; refine HCall.out.mono ?_; rintro e w3 ⟨rfl, h1, h2⟩; have M3 := Lib.hid h1; have T3 := Lib.hid h2; have x3 := HX.out.turn HMc.out.map h2; have y0 : w3.cell? ⟨c, 0, none⟩ = some (.int .i64 a) := x3.cell 0; have y1 : w3.cell? ⟨c, 1, none⟩ = some (.int .i64 i) := x3.cell 1; have y2 : w3.cell? ⟨c, 2, none⟩ = some (.int .i64 cc) := x3.cell 2; have hbk3 := HBk.out.turn HMc.out.map h2; have HBk3 := Lib.hid hbk3; clear h1 h2 x3 hbk3)
                | (go_at_call 10; refine (HNum.out _ _).mono ?_; rintro e w' ⟨rfl, rfl⟩))
              go_roundw
              case rel => exact ⟨k + 1, l', by go_num, HK.out, HLn.out, M3.out, HBk3.out, TnS.own HAc.out HBb.out T3.out⟩
              case measure => simp [intOf]; have := HK.out; omega
          · have hk3 : ¬ a ≤ 3 := by omega
            clear hkd
            have HCall := Lib.hid (unlock_any v bp b l' i wc HMc.out)
            by_cases hE : unlockE l' i = 0
            · have hq : 0 ≤ i ∧ i < l'.length ∧ atL l' i ≠ 0 := by
                unfold unlockE at hE
                split at hE
                · rename_i h1
                  split at hE
                  · omega
                  · rename_i h2; exact ⟨h1.1, h1.2, h2⟩
                · omega
              obtain ⟨q3, q4, q5⟩ := hq
              obtain ⟨m, rfl⟩ : ∃ m : Nat, i = m := ⟨i.toNat, by omega⟩
              have q6 := atL_may HMc.out.may (m : Int)
              rw [hE, show unlockW l' (m : Int) = atL l' (m : Int) - 1 by unfold unlockW; rw [if_pos hE], show unlockL l' (m : Int) = l'.set m 0 by unfold unlockL; rw [if_pos hE, Int.toNat_natCast]] at HCall
              obtain ⟨q6, q7⟩ := q6
              have HY := Lib.hid (fun (hm : m < l'.length) => arrV_at hm)
              generalize atL l' (m : Int) = y at *
              have m0 : ¬ (m : Int) < 0 := by omega
              have m3 : (m : Int) < (n : Int) := by have := HLn.out; omega
              have m64 : (m : Int) < 64 := by have := HLn.out; have := HN.out.2; omega
              have HMl := Lib.hid (show m < l'.length by omega)
              clear q3 q4 hE
              go_wp2_with (first
                | (go_at_call 16; refine HCall.out.mono ?_; rintro e w3 ⟨rfl, h1, h2⟩; have M3 := Lib.hid h1; have T3 := Lib.hid h2; have x3 := HX.out.turn HMc.out.map h2; have y0 : w3.cell? ⟨c, 0, none⟩ = some (.int .i64 a) := x3.cell 0; have y1 : w3.cell? ⟨c, 1, none⟩ = some (.int .i64 (m : Int)) := x3.cell 1; have y2 : w3.cell? ⟨c, 2, none⟩ = some (.int .i64 cc) := x3.cell 2; have hbk3 := HBk.out.turn HMc.out.map h2; have HBk3 := Lib.hid hbk3; have e3 : w3.cell? ⟨B, m, none⟩ = some (.int .i64 y) := (by have h := hbk3.cell m; rw [HY.out HMl.out] at h; exact h); have f3 := hbk3.free m; clear h1 h2 x3 hbk3)
                | (go_at_call 10; refine (HNum.out _ _).mono ?_; rintro e w' ⟨rfl, rfl⟩))
              go_roundw
              case rel => exact ⟨k + 1, _, by go_num, HK.out, by rw [← HLn.out]; simp, M3.out.far HBk3.out (by decide) m _, by rw [← arrV_set HMl.out]; exact HBk3.out.set m _, Adds.set (TnS.own HAc.out HBb.out T3.out) HBn.out m _⟩
              case measure => simp [intOf]; have := HK.out; omega
            · rw [show unlockL l' i = l' by unfold unlockL; rw [if_neg hE], show unlockW l' i = 0 by unfold unlockW; rw [if_neg hE]] at HCall
              generalize unlockE l' i = e at *
              go_wp2_with (first
                | (go_at_call 16; refine HCall.out.mono ?_; rintro e w3 ⟨rfl, h1, h2⟩; have M3 := Lib.hid h1; have T3 := Lib.hid h2; have x3 := HX.out.turn HMc.out.map h2; have y0 : w3.cell? ⟨c, 0, none⟩ = some (.int .i64 a) := x3.cell 0; have y1 : w3.cell? ⟨c, 1, none⟩ = some (.int .i64 i) := x3.cell 1; have y2 : w3.cell? ⟨c, 2, none⟩ = some (.int .i64 cc) := x3.cell 2; have hbk3 := HBk.out.turn HMc.out.map h2; have HBk3 := Lib.hid hbk3; clear h1 h2 x3 hbk3)
                | (go_at_call 10; refine (HNum.out _ _).mono ?_; rintro e w' ⟨rfl, rfl⟩))
              go_roundw
              case rel => exact ⟨k + 1, l', by go_num, HK.out, HLn.out, M3.out, HBk3.out, TnS.own HAc.out HBb.out T3.out⟩
              case measure => simp [intOf]; have := HK.out; omega
      · have hltI : ¬ (k : Int) < (acts.length : Int) := by omega
        have HM := Lib.hid hM; have HBk := Lib.hid hBk; have HAr := Lib.hid hA; have HLn := Lib.hid hl
        have HWr := Lib.hid (fun W => works_any W)
        have hn64 : (n : Int) ≤ 64 := HN.out.2
        clear hk hl hM hBk hA hlt HW
        go_wp2
        go_loopw [12] (fun iv wr2 => ∃ q : Nat, iv = .int .i64 q ∧ q ≤ n ∧ MutP wr2 v bp b l' ∧ BkS 59 wr2 B (arrV l') ∧ Adds w wr2) (fun iv _ => n + 1 - (intOf iv).toNat)
        case atStart => exact ⟨0, rfl, Nat.zero_le _, HM.out, HBk.out, HAr.out⟩
        case round =>
          clear HM HBk HAr
          obtain ⟨q, rfl, hq, hM, hBk, hA⟩ := hrel
          have HM := Lib.hid hM; have HBk := Lib.hid hBk; have HAr := Lib.hid hA
          clear hM hBk hA
          by_cases hqn : q < n
          · have hqI : (q : Int) < (n : Int) := by omega
            have hq64 : (q : Int) < 64 := by have := HN.out.2; omega
            have HQ := Lib.hid hqn
            have HH := Lib.hid (holderU_any v bp b l' (q : Int) wr HM.out ⟨by omega, by omega⟩)
            have hcell : wr.cell? ⟨B, q, none⟩ = some (.int .i64 (atL l' (q : Int))) := by have h := HBk.out.cell q; rw [arrV_at (by rw [HLn.out]; exact hqn)] at h; exact h
            generalize whoL l' (q : Int) = z at *
            generalize atL l' (q : Int) = y at *
            clear hqn hq
            by_cases hy : y = 0
            · subst hy
              rw [show decide ((0 : Int) ≠ 0) = false by decide] at HH
              go_wp2_with (go_at_call 17; refine HH.out.mono ?_; rintro e w3 ⟨rfl, rfl⟩)
              go_roundw
              case rel => exact ⟨q + 1, by go_num, HQ.out, HM.out, HBk.out, HAr.out⟩
              case measure => simp [intOf]; have := HQ.out; omega
            · rw [show decide (y ≠ 0) = true by simp [hy]] at HH
              have hyb : (y != 0) = true := by simpa using hy
              go_wp2_with (go_at_call 17; refine HH.out.mono ?_; rintro e w3 ⟨rfl, rfl⟩)
              go_roundw
              case rel => exact ⟨q + 1, by go_num, HQ.out, HM.out, HBk.out, HAr.out⟩
              case measure => simp [intOf]; have := HQ.out; omega
          · have hqI : ¬ (q : Int) < (n : Int) := by omega
            clear hqn hq
            go_wp2_with (first
              | (go_at_call 10; refine (HNum.out _ _).mono ?_; rintro e w' ⟨rfl, rfl⟩)
              | (go_at_call 7; refine (HWr.out _).mono ?_; rintro e w8 ⟨rfl, q8⟩; have H8 := Lib.hid q8; clear q8))
            go_ret
            exact ⟨rfl, Adds.trans HAr.out H8.out⟩
  · clear ha0
    by_cases g1 : many < 1
    · clear hg
      go_enter Try.func6, Try.ntmps6
      go_wp2_with (go_at_call 7; refine (HW.out _).mono ?_; rintro e w8 ⟨rfl, q8⟩; have H8 := Lib.hid q8; clear q8)
      go_ret
      exact ⟨rfl, H8.out⟩
    · by_cases g2 : 64 < many
      · clear hg
        go_enter Try.func6, Try.ntmps6
        go_wp2_with (go_at_call 7; refine (HW.out _).mono ?_; rintro e w8 ⟨rfl, q8⟩; have H8 := Lib.hid q8; clear q8)
        go_ret
        exact ⟨rfl, H8.out⟩
      · have g3 : 100 < (acts.length : Int) := by omega
        clear hg
        go_enter Try.func6, Try.ntmps6
        go_wp2_with (go_at_call 7; refine (HW.out _).mono ?_; rintro e w8 ⟨rfl, q8⟩; have H8 := Lib.hid q8; clear q8)
        go_ret
        exact ⟨rfl, H8.out⟩
end Go.Proofs.Ytdmbjonbcomphaa
