/- The law DigestPlays, walked. -/
import Derived.Test.YtooocgnjefbnkaaDoorDPl2
namespace Go.Proofs.YtooocgnjefbnkaaDoor
open Go Go.RowKit

/-- How the law stands at a round's head. -/
def PlaysHead (n0 : Nat) (w : World) (l : List ActD) (s3 s4 i : Value) (wr : World) : Prop :=
  ∃ (k bd : Nat) (all : List UInt8), k ≤ l.length ∧ k ≤ 20 ∧ i = .int .i64 (k : Nat) ∧ s3 = .pointer (some ⟨bd, 0, none⟩) ∧ Under n0 bd s4 all all w wr ∧ all.length ≤ 80 * k
set_option maxRecDepth 100000 in
set_option maxHeartbeats 16000000 in
theorem law_plays (v : Value) (l : List ActD) (w : World) (hv : Acts w.heap.size w v l) (hw : Widths w) :
    Calls Tryd.prog 3 #[v] w (TrueAdds w) := by
  obtain ⟨ao, cap, rfl, h1, h2, h3⟩ := hv
  have H3 := Lib.hid h3; clear h3
  have HWK := Lib.hid (fun W (h : Below w.heap.size w W) => works2_any W (hw.below h))
  have HWW := Lib.hid (fun W (h : Below w.heap.size w W) => hw.below h); clear hw
  unfold maxLen at h2
  go_enter Tryd.func3, Tryd.ntmps3
  go_wp2_with fail
  refine (new_any w).mono ?_
  rintro e w1 ⟨b, rfl, hbn, hB, ha⟩
  have HB0 := Lib.hid hB; have HA0 := Lib.hid ha; have HBN := Lib.hid hbn; clear hB ha hbn
  go_wp2_with fail
  go_loopw [3, 4, 5, 6, 7, 8] (fun s3 s4 i _ _ _ wr => PlaysHead w.heap.size w l s3 s4 i wr) (fun _ _ i _ _ _ _ => l.length - (intOf i).toNat)
  case atStart => exact ⟨0, b, [], Nat.zero_le _, by omega, rfl, rfl, ⟨HBN.out, HB0.out, OwnB.nil _ _, HA0.out, HA0.out.size⟩, by simp⟩
  case round =>
    obtain ⟨k, bd, all, hk, hk20, rfl, rfl, hun, hall⟩ := hrel
    have HUN := Lib.hid hun; have HBE := Lib.hid hun.low; have HN := Lib.hid hun.size; have HALL := Lib.hid hall; have HK := Lib.hid (And.intro hk hk20)
    clear hun hall
    by_cases hlt : k < l.length
    · by_cases hk2 : k = 20
      · have HC := Lib.hid (HWK.out wr HBE.out)
        subst hk2
        clear hk hk20
        go_wp2_with (go_at_call 7; refine HC.out.mono ?_; rintro e w2 ⟨rfl, a2⟩; have A2 := Lib.hid a2; clear a2)
        go_ret
        exact ⟨rfl, Below.trans HBE.out (Below.mono A2.out HN.out)⟩
      · have hk19 : (k : Int) < 20 := by omega
        have hk19' : ¬ (20 : Int) ≤ (k : Int) := by omega
        obtain ⟨g, off, rfl, hg, hact⟩ := H3.out (by rintro rfl; simp at hlt)
        obtain ⟨hat, hu64⟩ := hact k hlt
        have HAT := Lib.hid hat
        have hat2 := hat.below HBE.out hg
        clear hact hat
        obtain ⟨d, hd⟩ : ∃ d, l.getD k actZ = d := ⟨_, rfl⟩
        rw [hd] at hat2 hu64 HAT
        clear hd
        obtain ⟨what, width, nn, bs⟩ := d
        obtain ⟨_, _, _, u, c3w, hubw⟩ := HAT.out
        obtain ⟨c0, c1, c2, u2, c3, hub⟩ := hat2
        obtain rfl : u2 = u := Option.some.inj (c3.symm.trans ((HBE.out.cell (p := ⟨g, off + k * 4 + 3, none⟩) hg).trans c3w))
        have HUBW := Lib.hid hubw; have HC3W := Lib.hid c3w; clear hubw c3w
        simp only at c0 c1 c2 hub hu64 HUBW
        have HUB := Lib.hid hub
        have HU64 := Lib.hid hu64
        obtain ⟨ao2, cap2, rfl, hb1, hb2, _⟩ := hub
        unfold maxLen at hb2
        have hltI : (k : Int) < l.length := by omega
        have HLT := Lib.hid hlt
        have HG := Lib.hid hg
        clear hu64 hk hk20 hk2 hlt hg
        by_cases h40 : 40 < bs.length
        · have HC := Lib.hid (HWK.out wr HBE.out)
          go_wp2_with (go_at_call 7; refine HC.out.mono ?_; rintro e w2 ⟨rfl, a2⟩; have A2 := Lib.hid a2; clear a2)
          go_ret
          exact ⟨rfl, Below.trans HBE.out (Below.mono A2.out HN.out)⟩
        · have H40 := Lib.hid h40
          by_cases hw01 : what = 0 ∨ what = 1
          · have HU := Lib.hid (HUB.out)
            have HWR := Lib.hid (plays_write HUN.out _ bs (HUB.out.mono (Nat.le_refl _)) (by have := HALL.out; have := HK.out.2; omega) (by omega))
            have hcd : wr.drew.cell? ⟨g, off + k * 4 + 3, none⟩ = some (.slice ao2 bs.length cap2) := c3
            rcases hw01 with rfl | rfl
            all_goals
              go_wp2_with fail
              refine wp_calm ?_
              go_region_with (first
                | (go_at_call 9; refine HWR.out.mono ?_; rintro e w2 ⟨rfl, u2⟩; have U2 := Lib.hid u2; clear u2)
                | (go_at_call 8; refine (num2_any _ _).mono ?_; rintro e w' ⟨rfl, rfl⟩))
              all_goals
                have UA := Lib.hid (U2.out.adds (Adds.drew w2))
                have c32 := (U2.out.low.cell (p := ⟨g, off + k * 4 + 3, none⟩) HG.out).trans HC3W.out
                have HL2 := Lib.hid (show all.length + bs.length ≤ 1000000 ∧ (all ++ bs).length + bs.length ≤ 1000000 by have := HALL.out; have := HK.out.2; rw [List.length_append]; omega)
                simp only [Exit.then]
                go_simp
                go_wp2_with fail
                refine wp_calm ?_
                go_region_law (first
                  | (refine step_append_b rfl _ _ rfl w.heap.size _ all rfl (by exact UA.out.own) _ bs w.heap.size rfl (by exact HUBW.out.below UA.out.low) HL2.out.1 UA.out.size ?_; intro v5 w5 o5 g5; have UB := Lib.hid (UA.out.row o5 g5); have c35 := (UB.out.low.cell (p := ⟨g, off + k * 4 + 3, none⟩) HG.out).trans HC3W.out; clear o5 g5 UA)
                  | (refine step_append_b rfl _ _ rfl w.heap.size _ (all ++ bs) rfl (by exact UB.out.own) _ bs w.heap.size rfl (by exact HUBW.out.below UB.out.low) HL2.out.2 UB.out.size ?_; intro v6 w6 o6 g6; have UU := UB.out.row o6 g6; clear o6 g6))
                all_goals
                  simp only [Exit.then]
                  go_simp
                  have UZ := Lib.hid UU; clear UU
                  obtain ⟨ao6, cap6, e6, h61, h62, _⟩ := UZ.out.own.bytes
                  subst e6
                  unfold maxLen at h62
                  have HZ1 := Lib.hid (fun W (h : Under w.heap.size bd (.slice ao6 (all ++ bs ++ bs).length cap6) (all ++ bs ++ bs) (all ++ bs ++ bs) w W) => sum_full bd (bitsS (all ++ bs ++ bs)) (all ++ bs ++ bs).length (bitsS_lt _) W h.blk)
                  have HZ2 := Lib.hid (fun W (h : Under w.heap.size bd (.slice ao6 (all ++ bs ++ bs).length cap6) (all ++ bs ++ bs) (all ++ bs ++ bs) w W) => refOf_any _ (all ++ bs ++ bs) W h.own.bytes)
                  have HZ3 := Lib.hid (fun W (h : Under w.heap.size bd (.slice ao6 (all ++ bs ++ bs).length cap6) (all ++ bs ++ bs) (all ++ bs ++ bs) w W) => len_full bd (bitsS (all ++ bs ++ bs)) (all ++ bs ++ bs).length W h.blk)
                  unfold sumS at HZ2
                  generalize hzz : (((all1 - bitsS (all ++ bs ++ bs) : Nat)) : Int) = zz at HZ1 HZ2
                  clear hzz
                  have HL6 := Lib.hid (show (all ++ bs ++ bs).length ≤ 80 * (k + 1) by have := HALL.out; rw [List.length_append, List.length_append]; have := H40.out; omega)
                  generalize hal : (all ++ bs ++ bs) = al at *
                  generalize hnl : al.length = nl at *
                  go_wp2_with (first
                    | (go_at_call 13; refine (HZ1.out _ UZ.out).mono ?_; rintro e w' ⟨rfl, rfl⟩)
                    | (go_at_call 14; refine (HZ2.out _ UZ.out).mono ?_; rintro e w' ⟨rfl, rfl⟩)
                    | (go_at_call 15; refine (HZ3.out _ UZ.out).mono ?_; rintro e w' ⟨rfl, rfl⟩))
                  go_roundw
                  case rel => exact ⟨k + 1, bd, al, HLT.out, by omega, by go_num, rfl, UZ.out, by rw [hnl]; exact HL6.out⟩
                  case measure => have := HLT.out; simp [intOf]; omega
          · by_cases hw2 : what = 2
            · subst hw2
              clear hw01
              obtain ⟨_, c1w, c2w, _⟩ := HAT.out
              have HC1W := Lib.hid c1w; have HC2W := Lib.hid c2w; clear c1w c2w
              simp only at HC1W HC2W
              have HFR := Lib.hid (refFixed_any nn HU64.out width wr.drew)
              have HFN := Lib.hid (fun W (h : Under w.heap.size bd u4 all all w W) => plays_number h nn width (HWW.out W h.low) (by have := HALL.out; have := HK.out.2; omega))
              have HF8 := Lib.hid (fixB_len nn width)
              obtain ⟨fl, hfl⟩ : ∃ fl, fixB nn width = fl := ⟨_, rfl⟩
              obtain ⟨fe, hfe⟩ : ∃ fe, fixE nn width = fe := ⟨_, rfl⟩
              rw [hfl] at HFR HFN HF8
              rw [hfe] at HFR HFN
              clear hfl hfe
              go_wp2_with fail
              refine wp_calm ?_
              go_region_with (go_at_call 10; refine HFR.out.mono ?_; rintro e w2 ⟨v2, rfl, o2, a2⟩; have U2 := Lib.hid (HUN.out.adds ((Adds.drew wr).trans a2)); have HV2 := Lib.hid o2.bytes; clear o2 a2)
              all_goals
                have c12 := (U2.out.low.cell (p := ⟨g, off + k * 4 + 1, none⟩) HG.out).trans HC1W.out
                have c22 := (U2.out.low.cell (p := ⟨g, off + k * 4 + 2, none⟩) HG.out).trans HC2W.out
                have HNR := Lib.hid (HFN.out w2.drew (U2.out.adds (Adds.drew w2)))
                have UB := Lib.hid (U2.out.adds (Adds.drew w2))
                simp only [Exit.then]
                go_simp
                go_wp2_with fail
                refine wp_calm ?_
                go_region_with (first
                  | (go_at_call 11; refine HNR.out.mono ?_; rintro e w3 ⟨rfl, u3, t3⟩; have U3 := Lib.hid u3; have HV3 := Lib.hid ((HV2.out.below ((Below.refl _ _).drew)).turns UB.out.blk t3); clear u3 t3)
                  | (go_at_call 8; refine (num2_any _ _).mono ?_; rintro e w' ⟨rfl, rfl⟩))
                all_goals
                  have HL3 := Lib.hid (show all.length + fl.length ≤ 1000000 by have := HALL.out; have := HK.out.2; have := HF8.out; omega)
                  simp only [Exit.then]
                  go_simp
                  go_wp2_with (at_builtin; refine wp_append_b rfl _ _ rfl w.heap.size _ all rfl (by exact U3.out.own) _ fl _ rfl (by exact HV3.out) HL3.out U3.out.size ?_; intro v6 w6 o6 g6; have UU := U3.out.row o6 g6; clear o6 g6)
                  have UZ := Lib.hid UU; clear UU
                  obtain ⟨ao6, cap6, e6, h61, h62, _⟩ := UZ.out.own.bytes
                  subst e6
                  unfold maxLen at h62
                  have HZ1 := Lib.hid (fun W (h : Under w.heap.size bd (.slice ao6 (all ++ fl).length cap6) (all ++ fl) (all ++ fl) w W) => sum_full bd (bitsS (all ++ fl)) (all ++ fl).length (bitsS_lt _) W h.blk)
                  have HZ2 := Lib.hid (fun W (h : Under w.heap.size bd (.slice ao6 (all ++ fl).length cap6) (all ++ fl) (all ++ fl) w W) => refOf_any _ (all ++ fl) W h.own.bytes)
                  have HZ3 := Lib.hid (fun W (h : Under w.heap.size bd (.slice ao6 (all ++ fl).length cap6) (all ++ fl) (all ++ fl) w W) => len_full bd (bitsS (all ++ fl)) (all ++ fl).length W h.blk)
                  unfold sumS at HZ2
                  generalize hzz : (((all1 - bitsS (all ++ fl) : Nat)) : Int) = zz at HZ1 HZ2
                  clear hzz
                  have HL6 := Lib.hid (show (all ++ fl).length ≤ 80 * (k + 1) by have := HALL.out; rw [List.length_append]; have := HF8.out; omega)
                  generalize hal : (all ++ fl) = al at *
                  generalize hnl : al.length = nl at *
                  go_wp2_with (first
                    | (go_at_call 13; refine (HZ1.out _ UZ.out).mono ?_; rintro e w' ⟨rfl, rfl⟩)
                    | (go_at_call 14; refine (HZ2.out _ UZ.out).mono ?_; rintro e w' ⟨rfl, rfl⟩)
                    | (go_at_call 15; refine (HZ3.out _ UZ.out).mono ?_; rintro e w' ⟨rfl, rfl⟩))
                  go_roundw
                  case rel => exact ⟨k + 1, bd, al, HLT.out, by omega, by go_num, rfl, UZ.out, by rw [hnl]; exact HL6.out⟩
                  case measure => have := HLT.out; simp [intOf]; omega
            · have hwa : ¬ what = 0 := fun h => hw01 (.inl h)
              have hwb : ¬ what = 1 := fun h => hw01 (.inr h)
              clear hw01
              go_wp2_with (go_at_call 12; refine (plays_copy HUN.out).mono ?_; rintro e w2 ⟨c, rfl, hcb, u2, u3⟩; have HCB := Lib.hid hcb; have U2 := Lib.hid u2; have U3 := Lib.hid u3; clear hcb u2 u3)
              have HOW := Lib.hid (plays_one HCB.out U2.out U3.out (by have := HALL.out; have := HK.out.2; omega))
              go_wp2_with (first
                | (go_at_call 9; refine HOW.out.mono ?_; rintro e w3 ⟨rfl, u4'⟩; have UU := u4')
                | (go_at_call 8; refine (num2_any _ _).mono ?_; rintro e w' ⟨rfl, rfl⟩))
              have UZ := Lib.hid UU; clear UU
              obtain ⟨ao6, cap6, e6, h61, h62, _⟩ := UZ.out.own.bytes
              subst e6
              unfold maxLen at h62
              have HZ1 := Lib.hid (fun W (h : Under w.heap.size c (.slice ao6 (all).length cap6) (all) (all) w W) => sum_full c (bitsS (all)) (all).length (bitsS_lt _) W h.blk)
              have HZ2 := Lib.hid (fun W (h : Under w.heap.size c (.slice ao6 (all).length cap6) (all) (all) w W) => refOf_any _ (all) W h.own.bytes)
              have HZ3 := Lib.hid (fun W (h : Under w.heap.size c (.slice ao6 (all).length cap6) (all) (all) w W) => len_full c (bitsS (all)) (all).length W h.blk)
              unfold sumS at HZ2
              generalize hzz : (((all1 - bitsS (all) : Nat)) : Int) = zz at HZ1 HZ2
              clear hzz
              have HL6 := Lib.hid (show (all).length ≤ 80 * (k + 1) by have := HALL.out; omega)
              generalize hal : (all) = al at *
              generalize hnl : al.length = nl at *
              go_wp2_with (first
                | (go_at_call 13; refine (HZ1.out _ UZ.out).mono ?_; rintro e w' ⟨rfl, rfl⟩)
                | (go_at_call 14; refine (HZ2.out _ UZ.out).mono ?_; rintro e w' ⟨rfl, rfl⟩)
                | (go_at_call 15; refine (HZ3.out _ UZ.out).mono ?_; rintro e w' ⟨rfl, rfl⟩))
              go_roundw
              case rel => exact ⟨k + 1, c, al, HLT.out, by omega, by go_num, rfl, UZ.out, by rw [hnl]; exact HL6.out⟩
              case measure => have := HLT.out; simp [intOf]; omega
    · have HC := Lib.hid (HWK.out wr HBE.out)
      obtain rfl : k = l.length := by omega
      clear hk hk20 hlt
      go_wp2_with (go_at_call 7; refine HC.out.mono ?_; rintro e w2 ⟨rfl, a2⟩; have A2 := Lib.hid a2; clear a2)
      go_ret
      exact ⟨rfl, Below.trans HBE.out (Below.mono A2.out HN.out)⟩
end Go.Proofs.YtooocgnjefbnkaaDoor
