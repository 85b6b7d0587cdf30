/- The document's Parse of a text: its contract. -/
import Derived.Test.YtnhapmodgmkbjaaDoorSF7
import Derived.Test.YtnhapmodgmkbjaaDoorSR1
namespace Go.Proofs.YtnhapmodgmkbjaaDoor
open Go Go.RowKit Go.Shelf Go.Sort

theorem dig7_yes (s : ByteArray) (n : Nat) (h : digR s.data.toList = some n) (hs : s.size ≤ 9223372036854775807) (w : World) :
    Calls Tryd.prog 27 #[.string s] w fun e w' => e = .returned (.tuple #[.int .i64 n, .bool true]) ∧ w = w' :=
  (digits7_any s w hs).mono fun e w' ⟨h1, h2⟩ => by
    rcases h2 with ⟨m, h3, h4⟩ | ⟨h3, _⟩
    · rw [h] at h3; injection h3 with h3; subst h3; exact ⟨h4, h1⟩
    · rw [h] at h3; cases h3
theorem dig7_no (s : ByteArray) (h : digR s.data.toList = none) (hs : s.size ≤ 9223372036854775807) (w : World) :
    Calls Tryd.prog 27 #[.string s] w fun e w' => e = .returned (.tuple #[.int .i64 0, .bool false]) ∧ w = w' :=
  (digits7_any s w hs).mono fun e w' ⟨h1, h2⟩ => by
    rcases h2 with ⟨m, h3, h4⟩ | ⟨_, h4⟩
    · rw [h] at h3; cases h3
    · exact ⟨h4, h1⟩
theorem ext_m (s : ByteArray) (k : Nat) : (s.extract 1 k).data.toList = (s.data.toList.take k).drop 1 := by
  rw [Lib.extract_data, List.drop_take]
theorem ext_e (s : ByteArray) (k : Nat) : (s.extract k s.size).data.toList = s.data.toList.drop k := by
  rw [Lib.extract_data, Lib.size_eq]
  rw [List.take_of_length_le (by simp)]
theorem refAt_0 {s : ByteArray} {j : Nat} (h0 : 0 < s.size) (h : s[0].toNat ≠ 102) : refAt s.data.toList j = none := by
  unfold refAt
  rw [if_neg]
  rintro ⟨h1, _⟩
  rw [← Lib.getD_at s 0 h0] at h1
  exact h (by rw [h1]; rfl)
theorem refAt_1 {s : ByteArray} {j : Nat} (hj : j < s.size) (h : s[j].toNat ≠ 58) : refAt s.data.toList j = none := by
  unfold refAt
  rw [if_neg]
  rintro ⟨_, h1⟩
  rw [← Lib.getD_at s j hj] at h1
  exact h (by rw [h1]; rfl)
theorem refAt_2 {s : ByteArray} {j : Nat} (h0 : 0 < s.size) (hj : j < s.size) (h : s[0].toNat = 102) (h2 : s[j].toNat = 58) :
    refAt s.data.toList j = match digR ((s.data.toList.take j).drop 1), digR (s.data.toList.drop (j + 1)) with
    | some f, some p => if rightS ((f : Int), (p : Int)) = true ∧ txtS ((f : Int), (p : Int)) = s.data.toList then some ((f : Int), (p : Int)) else none
    | _, _ => none := by
  unfold refAt
  rw [if_pos ⟨by rw [← Lib.getD_at s 0 h0]; exact UInt8.toNat.inj h, by rw [← Lib.getD_at s j hj]; exact UInt8.toNat.inj h2⟩]
  cases digR ((s.data.toList.take j).drop 1) <;> cases digR (s.data.toList.drop (j + 1)) <;> rfl
theorem parse_end {s : ByteArray} {k : Nat} (hk : s.size ≤ k) (h : ∀ j, 1 ≤ j → j < k → refAt s.data.toList j = none) : parseT s.data.toList = none := by
  cases hp : parseT s.data.toList with
  | none => rfl
  | some a =>
    obtain ⟨i, h1, h2, h3⟩ := parse_refAt hp
    rw [h i h1 (by rw [← Lib.size_eq] at h2; omega)] at h3
    cases h3
theorem none_succ {l : List UInt8} {k : Nat} (h : ∀ j, 1 ≤ j → j < k → refAt l j = none) (hk : refAt l k = none) : ∀ j, 1 ≤ j → j < k + 1 → refAt l j = none := fun j h1 h2 => by
  rcases Nat.lt_or_ge j k with h3 | h3
  · exact h j h1 h3
  · obtain rfl : j = k := by omega
    exact hk
theorem str_same (s : ByteArray) : str s.data.toList = s := by
  cases s; rfl

set_option maxRecDepth 100000 in
set_option maxHeartbeats 4000000 in
theorem refParse7_any (s : ByteArray) (hs : s.size ≤ 1000) (w : World) (hv : SVars w) :
    Calls Tryd.prog 9 #[.string s] w fun e w' => e = .returned (rdV (parseT s.data.toList)) ∧ Adds w w' := by
  have HV := Lib.hid hv; clear hv
  go_enter Tryd.func9, Tryd.ntmps9
  go_wp2
  obtain ⟨k0, hk0⟩ : ∃ k, w.heap.size = k := ⟨_, rfl⟩
  obtain ⟨w1, hw1⟩ : ∃ w1, w.alloc (.cells #[.int .i64 0, .int .i64 0] 23) = w1 := ⟨_, rfl⟩
  have HG1 := Lib.hid (show Adds w w1 by rw [← hw1]; exact (Gr.new _ _).adds)
  have HB1 := Lib.hid (show BkS 23 w1 k0 [.int .i64 0, .int .i64 0] by rw [← hw1, ← hk0]; exact BkS.new _ _ _)
  have HK0 := Lib.hid (Nat.le_of_eq hk0)
  rw [hw1, hk0]
  clear hw1 hk0
  have HS := Lib.hid hs
  go_loopw [4] (fun i wr => ∃ k : Nat, 1 ≤ k ∧ (k ≤ s.size ∨ k = 1) ∧ i = .int .i64 k ∧ Adds w wr ∧ BkS 23 wr k0 [.int .i64 0, .int .i64 0] ∧ ∀ j, 1 ≤ j → j < k → refAt s.data.toList j = none) (fun i _ => s.size + 1 - (intOf i).toNat)
  case atStart => exact ⟨1, Nat.le_refl _, .inr rfl, by rfl, HG1.out, HB1.out, fun j h1 h2 => by omega⟩
  case round =>
    obtain ⟨k, hk1, hk2, rfl, hA, hB, hN⟩ := hrel
    have HA := Lib.hid hA; have HB := Lib.hid hB; have HN := Lib.hid hN; have HK1 := Lib.hid hk1
    clear hA hB hN hk2
    by_cases hlt : k < s.size
    · have h0 : 0 < s.size := by omega
      have HLt := Lib.hid hlt
      by_cases c0 : (s[0].toNat : Int) = 102
      · have e0 : ((s[0].toNat : Int) != 102) = false := by simpa using c0
        by_cases c1 : (s[k].toNat : Int) = 58
        · have e1 : ((s[k].toNat : Int) != 58) = false := by simpa using c1
          have hat := refAt_2 h0 hlt (by omega) (by omega)
          rw [← ext_m, ← ext_e] at hat
          have hl1 : (s.extract 1 k).size ≤ 9223372036854775807 := by rw [Lib.size_eq, ext_m]; simp; omega
          have hl2 : (s.extract (k + 1) s.size).size ≤ 9223372036854775807 := by rw [Lib.size_eq, ext_e]; simp; omega
          cases h1 : digR (s.extract 1 k).data.toList with
          | none =>
            rw [h1] at hat
            simp only at hat
            have HAt := Lib.hid hat
            have H1 := Lib.hid (dig7_no _ h1 hl1)
            have H2 := Lib.hid (digits7_any _ w hl2)
            have H2' := Lib.hid (fun W => digits7_any (s.extract (k + 1) s.size) W hl2)
            clear h1 hl1 hl2 hat H2 c0 c1
            go_wp2_with fail
            refine (H1.out _).mono ?_
            rintro e w3 ⟨rfl, rfl⟩
            go_wp2_with fail
            refine (H2'.out _).mono ?_
            rintro e w3 ⟨rfl, (⟨n, _, rfl⟩ | ⟨_, rfl⟩)⟩
            all_goals
              go_wp2
              go_roundw
              case rel => exact ⟨k + 1, by omega, .inl HLt.out, by go_num, Adds.trans HA.out (Gr.new _ _).adds, HB.out.adds (Gr.new _ _).adds, none_succ HN.out HAt.out⟩
              case measure => simp [intOf]; have := HLt.out; omega
          | some f =>
            have hfb := digR_bound h1
            have H1 := Lib.hid (dig7_yes _ f h1 hl1)
            rw [h1] at hat
            cases h2 : digR (s.extract (k + 1) s.size).data.toList with
            | none =>
              rw [h2] at hat
              simp only at hat
              have HAt := Lib.hid hat
              have H2 := Lib.hid (dig7_no _ h2 hl2)
              clear h1 h2 hl1 hl2 hat c0 c1
              go_wp2_with fail
              refine (H1.out _).mono ?_
              rintro e w3 ⟨rfl, rfl⟩
              go_wp2_with fail
              refine (H2.out _).mono ?_
              rintro e w3 ⟨rfl, rfl⟩
              go_wp2
              go_roundw
              case rel => exact ⟨k + 1, by omega, .inl HLt.out, by go_num, Adds.trans HA.out (Gr.new _ _).adds, HB.out.adds (Gr.new _ _).adds, none_succ HN.out HAt.out⟩
              case measure => simp [intOf]; have := HLt.out; omega
            | some p =>
              have hpb := digR_bound h2
              have H2 := Lib.hid (dig7_yes _ p h2 hl2)
              rw [h2] at hat
              simp only at hat
              have HR := Lib.hid (refRight_any ((f : Int), (p : Int)))
              cases hr : rightS ((f : Int), (p : Int)) with
              | false =>
                rw [hr] at HR
                rw [if_neg (by rw [hr]; simp)] at hat
                have HAt := Lib.hid hat
                clear h1 h2 hl1 hl2 hat c0 c1 hr hfb hpb
                go_wp2_with fail
                refine (H1.out _).mono ?_
                rintro e w3 ⟨rfl, rfl⟩
                go_wp2_with fail
                refine (H2.out _).mono ?_
                rintro e w3 ⟨rfl, rfl⟩
                go_wp2_with (go_at_call 11; refine (HR.out _).mono ?_; rintro e w4 ⟨rfl, h4⟩; have H4 := Lib.hid ((Gr.new _ _).trans h4).adds; clear h4)
                go_roundw
                case rel => exact ⟨k + 1, by omega, .inl HLt.out, by go_num, Adds.trans HA.out H4.out, HB.out.adds H4.out, none_succ HN.out HAt.out⟩
                case measure => simp [intOf]; have := HLt.out; omega
              | true =>
                rw [hr] at HR hat
                have HT := Lib.hid (refText_any ((f : Int), (p : Int)) hr)
                obtain ⟨t, ht⟩ : ∃ t, str (txtS ((f : Int), (p : Int))) = t := ⟨_, rfl⟩
                by_cases he : txtS ((f : Int), (p : Int)) = s.data.toList
                · have HP := Lib.hid (show parseT s.data.toList = some ((f : Int), (p : Int)) from parseT_iff.2 ⟨hr, he⟩)
                  rw [he, str_same] at HT
                  have hq := beqS_yes s
                  clear h1 h2 hl1 hl2 hat c0 c1 hr hfb hpb he ht
                  go_wp2_with fail
                  refine (H1.out _).mono ?_
                  rintro e w3 ⟨rfl, rfl⟩
                  go_wp2_with fail
                  refine (H2.out _).mono ?_
                  rintro e w3 ⟨rfl, rfl⟩
                  obtain ⟨F, hF⟩ : ∃ F : Int, (f : Int) = F := ⟨_, rfl⟩
                  obtain ⟨G, hG⟩ : ∃ G : Int, (p : Int) = G := ⟨_, rfl⟩
                  rw [hF, hG] at HR HT HP ⊢
                  clear hF hG
                  go_wp2_with (first
                    | (go_at_call 11; refine (HR.out _).mono ?_; rintro e w4 ⟨rfl, h4⟩; have b4 : BkS 23 w4 wr.heap.size [.int .i64 F, .int .i64 G] := (BkS.new _ _ _).adds h4.adds; have c40 : w4.cell? ⟨wr.heap.size, 0, none⟩ = some (.int .i64 F) := b4.cell 0; have c41 : w4.cell? ⟨wr.heap.size, 1, none⟩ = some (.int .i64 G) := b4.cell 1; have B4 := Lib.hid b4; have H4 := Lib.hid (show Adds wr w4 from ((Gr.new _ _).trans h4).adds); clear h4 b4)
                    | (go_at_call 13; refine (HT.out _ (HV.out.below (Adds.trans HA.out H4.out))).mono ?_; rintro e w5 ⟨rfl, h5⟩; have b5 := B4.out.adds h5.adds; clear c40 c41; have c50 : w5.cell? ⟨wr.heap.size, 0, none⟩ = some (.int .i64 F) := b5.cell 0; have c51 : w5.cell? ⟨wr.heap.size, 1, none⟩ = some (.int .i64 G) := b5.cell 1; have d5 := (HB.out.adds H4.out).adds h5.adds; have e50 : w5.cell? ⟨k0, 0, none⟩ = some (.int .i64 0) := d5.cell 0; have e51 : w5.cell? ⟨k0, 1, none⟩ = some (.int .i64 0) := d5.cell 1; have f50 := d5.free 0; have f51 := d5.free 1; have D5 := Lib.hid d5; have H5 := Lib.hid (Adds.trans H4.out h5.adds); clear h5 b5 d5))
                  refine bodyPost_ret (res_box2 rfl _ _ _ _ _ _ _ rfl ((D5.out.set 0 (.int .i64 F)).set 1 (.int .i64 G)) Tryd.underlying23 rfl (by kernel_rfl)) rfl ?_
                  exact ⟨by rw [HP.out]; rfl, Adds.set (Adds.set (Adds.trans HA.out H5.out) HK0.out 0 _) HK0.out 1 _⟩
                · rw [if_neg (fun h => he h.2)] at hat
                  have HAt := Lib.hid hat
                  have hq : (t.toList == s.toList) = false := by have := beqS_no he; rwa [ht, str_same] at this
                  rw [ht] at HT
                  clear h1 h2 hl1 hl2 hat c0 c1 hr hfb hpb he ht
                  go_wp2_with fail
                  refine (H1.out _).mono ?_
                  rintro e w3 ⟨rfl, rfl⟩
                  go_wp2_with fail
                  refine (H2.out _).mono ?_
                  rintro e w3 ⟨rfl, rfl⟩
                  obtain ⟨F, hF⟩ : ∃ F : Int, (f : Int) = F := ⟨_, rfl⟩
                  obtain ⟨G, hG⟩ : ∃ G : Int, (p : Int) = G := ⟨_, rfl⟩
                  rw [hF, hG] at HR HT ⊢
                  clear hF hG
                  go_wp2_with (first
                    | (go_at_call 11; refine (HR.out _).mono ?_; rintro e w4 ⟨rfl, h4⟩; have b4 : BkS 23 w4 wr.heap.size [.int .i64 F, .int .i64 G] := (BkS.new _ _ _).adds h4.adds; have c40 : w4.cell? ⟨wr.heap.size, 0, none⟩ = some (.int .i64 F) := b4.cell 0; have c41 : w4.cell? ⟨wr.heap.size, 1, none⟩ = some (.int .i64 G) := b4.cell 1; have H4 := Lib.hid (show Adds wr w4 from ((Gr.new _ _).trans h4).adds); clear h4 b4)
                    | (go_at_call 13; refine (HT.out _ (HV.out.below (Adds.trans HA.out H4.out))).mono ?_; rintro e w5 ⟨rfl, h5⟩; have H5 := Lib.hid (Adds.trans H4.out h5.adds); clear h5))
                  go_roundw
                  case rel => exact ⟨k + 1, by omega, .inl HLt.out, by go_num, Adds.trans HA.out H5.out, HB.out.adds H5.out, none_succ HN.out HAt.out⟩
                  case measure => simp [intOf]; have := HLt.out; omega
        · have e1 : ((s[k].toNat : Int) != 58) = true := by simpa using c1
          have HAt := Lib.hid (refAt_1 hlt (show s[k].toNat ≠ 58 by omega))
          clear c0 c1
          go_wp2
          go_roundw
          case rel => exact ⟨k + 1, by omega, .inl HLt.out, by go_num, HA.out, HB.out, none_succ HN.out HAt.out⟩
          case measure => simp [intOf]; have := HLt.out; omega
      · have e0 : ((s[0].toNat : Int) != 102) = true := by simpa using c0
        have HAt := Lib.hid (refAt_0 (j := k) h0 (show s[0].toNat ≠ 102 by omega))
        clear c0
        go_wp2
        go_roundw
        case rel => exact ⟨k + 1, by omega, .inl HLt.out, by go_num, HA.out, HB.out, none_succ HN.out HAt.out⟩
        case measure => simp [intOf]; have := HLt.out; omega
    · have HP := Lib.hid (parse_end (by omega) HN.out)
      have d0 : wr.cell? ⟨k0, 0, none⟩ = some (.int .i64 0) := HB.out.cell 0
      have d1 : wr.cell? ⟨k0, 1, none⟩ = some (.int .i64 0) := HB.out.cell 1
      have f0 := HB.out.free 0
      have f1 := HB.out.free 1
      go_wp2
      refine bodyPost_ret (res_box2 rfl _ _ _ _ _ _ _ rfl ((HB.out.set 0 (.int .i64 0)).set 1 (.int .i64 0)) Tryd.underlying23 rfl (by kernel_rfl)) rfl ?_
      exact ⟨by rw [HP.out]; rfl, Adds.set (Adds.set HA.out HK0.out 0 _) HK0.out 1 _⟩
end Go.Proofs.YtnhapmodgmkbjaaDoor
