/- Merged: MR7. -/
import Derived.Test.YthhegcngkpfcoaaGreatDoorF47
namespace Go.Proofs.YthhegcngkpfcoaaGreatDoor
open Go Go.RowKit Go.Shelf Go.Lib

set_option maxRecDepth 100000 in
set_option maxHeartbeats 8000000 in
theorem rprog {n : Nat} (v : Value) (l : List UInt8) (w : World) (hv : Bytes n w v l) (hlm : l.length ≤ 70368744177664) :
    Calls Tryz.prog 29 #[rnV v (0, 0)] w fun e w' => ∃ pv, e = .returned (.tuple #[rnV v (progQ l).1, pgV pv (progQ l).2]) ∧ CopyO w.heap.size w' pv (progQ l).2.1 ∧ Adds w w' := by
  have HN := Lib.hid (fun (k : Nat) (b : Int) (hk : k ≤ l.length) (W : World) (h : Adds w W) => rnum v l (k, b) 1 rfl (by decide) hk W (hv.here.below h))
  have HN2 := Lib.hid (fun (k : Nat) (b : Int) (hk : k ≤ l.length) (W : World) (h : Adds w W) => rnum v l (k, b) 2 rfl (by decide) hk W (hv.here.below h))
  have HI := Lib.hid (fun (k : Nat) (b : Int) (hk : k ≤ l.length) (W : World) (h : Adds w W) => rins v l (k, b) hk W (hv.here.below h))
  have HV := Lib.hid hv
  have HLm := Lib.hid hlm
  clear hlm
  obtain ⟨ao, cap, rfl, h1, h2, _⟩ := hv
  obtain ⟨ln, hln⟩ : ∃ ln, l.length = ln := ⟨_, rfl⟩
  have HLn := Lib.hid hln
  rw [hln] at HN HN2 HI HV ⊢
  have hln0 : (ln : Int) ≤ 9223372036854775807 := by unfold maxLen at h2; omega
  have HCap := Lib.hid (show ln ≤ cap by omega)
  clear hln h1 h2
  go_enter Tryz.func29, Tryz.ntmps29
  go_wp2_with fail
  go_loopw [9] (fun i wr => ∃ k : Nat, i = .int .i64 (k : Int) ∧ k ≤ 4 ∧ PSt w (.slice ao ln cap) (begQ l (lineB.take k) (0, 0)) (.slice none 0 0) 0 0 0 wr) (fun i _ => 5 - (intOf i).toNat)
  case atStart => exact ⟨0, rfl, by omega, PSt.start _ _⟩
  case round =>
    obtain ⟨k, rfl, hk, hP⟩ := hrel
    have HP := Lib.hid hP
    have HB := Lib.hid (begQ_le (l := l) (lineB.take k) (0, 0) (Nat.zero_le _))
    clear hP
    by_cases h4 : k < 4
    · obtain ⟨⟨k0, b0⟩, hs⟩ : ∃ s, begQ l (lineB.take k) (0, 0) = s := ⟨_, rfl⟩
      have HS := Lib.hid hs
      rw [hs] at HP HB
      have N0 := HN.out k0 b0 (by have h := HB.out; rwa [HLn.out] at h)
      have hc0 := numQ_lt (l := l) (s := (k0, b0))
      obtain ⟨⟨⟨k1, b1⟩, c⟩, hx⟩ : ∃ X, numQ l (k0, b0) 1 = X := ⟨_, rfl⟩
      have HX := Lib.hid hx
      rw [hx] at N0 hc0
      have N := Lib.hid N0
      simp only at hc0
      clear N0 hs hx
      have hw8 : IntKind.u8.wrap (c : Int) = (c : Int) := by rw [IntKind.wrap_u8']; omega
      have z0 := HP.out.rd.cell 0; have z1 := HP.out.rd.cell 1; have z2 := HP.out.rd.cell 2
      have HNx : ∀ k : Nat, k < 4 → begQ l (lineB.take (k + 1)) (0, 0) = begS l (begQ l (lineB.take k) (0, 0)) (lineB.getD k 0) := fun k hk => by
        have e : lineB.take (k + 1) = lineB.take k ++ [lineB.getD k 0] := by
          match k, hk with
          | 0, _ => rfl
          | 1, _ => rfl
          | 2, _ => rfl
          | 3, _ => rfl
        rw [e, begQ_snoc]
      have HNy := Lib.hid (HNx k h4)
      rw [HS.out] at HNy
      clear HNx hk
      by_cases hb : b1 = 0
      · subst hb
        obtain rfl | rfl | rfl | rfl : k = 0 ∨ k = 1 ∨ k = 2 ∨ k = 3 := by omega
        · by_cases hc : c = 108
          · subst hc
            have HE : begS l (k0, b0) (lineB.getD 0 0) = (k1, 0) := by unfold begS; rw [HX.out]; rfl
            rw [HE] at HNy
            clear HE
            go_wp2_with (go_at_call 50; refine (N.out _ HP.out.ad).mono ?_; rintro e w3 ⟨rfl, a3⟩; have P3 := Lib.hid (HP.out.adds a3); have x0 := P3.out.rd.cell 0; have x1 := P3.out.rd.cell 1; have x2 := P3.out.rd.cell 2; have y0 := P3.out.rd.free 0; have y1 := P3.out.rd.free 1; have y2 := P3.out.rd.free 2; clear a3 N z0 z1 z2)
            go_roundw
            case rel => exact ⟨1, by go_num, by omega, by rw [HNy.out]; exact P3.out.put _ _⟩
            case measure => simp [intOf]
          · have hcq : ((c : Int) == 108) = false := by simp; omega
            have hcr : ((c : Int) != ((({ data := #[108, 105, 110, 101] } : ByteArray)[0]'(by decide)).toNat : Int)) = true := by show ((c : Int) != 108) = true; rw [bne, hcq]; rfl
            have HE : begS l (k0, b0) (lineB.getD 0 0) = (k1, 200) := by unfold begS; rw [HX.out]; exact if_pos ⟨rfl, hc⟩
            rw [HE] at HNy
            clear HE hc
            go_wp2_with (go_at_call 50; refine (N.out _ HP.out.ad).mono ?_; rintro e w3 ⟨rfl, a3⟩; have P3 := Lib.hid (HP.out.adds a3); have x0 := P3.out.rd.cell 0; have x1 := P3.out.rd.cell 1; have x2 := P3.out.rd.cell 2; have y0 := P3.out.rd.free 0; have y1 := P3.out.rd.free 1; have y2 := P3.out.rd.free 2; clear a3 N z0 z1 z2)
            go_roundw
            case rel => exact ⟨1, by go_num, by omega, by rw [HNy.out]; exact (P3.out.put k1 0).bad 200⟩
            case measure => simp [intOf]
        · by_cases hc : c = 105
          · subst hc
            have HE : begS l (k0, b0) (lineB.getD 1 0) = (k1, 0) := by unfold begS; rw [HX.out]; rfl
            rw [HE] at HNy
            clear HE
            go_wp2_with (go_at_call 50; refine (N.out _ HP.out.ad).mono ?_; rintro e w3 ⟨rfl, a3⟩; have P3 := Lib.hid (HP.out.adds a3); have x0 := P3.out.rd.cell 0; have x1 := P3.out.rd.cell 1; have x2 := P3.out.rd.cell 2; have y0 := P3.out.rd.free 0; have y1 := P3.out.rd.free 1; have y2 := P3.out.rd.free 2; clear a3 N z0 z1 z2)
            go_roundw
            case rel => exact ⟨2, by go_num, by omega, by rw [HNy.out]; exact P3.out.put _ _⟩
            case measure => simp [intOf]
          · have hcq : ((c : Int) == 105) = false := by simp; omega
            have hcr : ((c : Int) != ((({ data := #[108, 105, 110, 101] } : ByteArray)[1]'(by decide)).toNat : Int)) = true := by show ((c : Int) != 105) = true; rw [bne, hcq]; rfl
            have HE : begS l (k0, b0) (lineB.getD 1 0) = (k1, 200) := by unfold begS; rw [HX.out]; exact if_pos ⟨rfl, hc⟩
            rw [HE] at HNy
            clear HE hc
            go_wp2_with (go_at_call 50; refine (N.out _ HP.out.ad).mono ?_; rintro e w3 ⟨rfl, a3⟩; have P3 := Lib.hid (HP.out.adds a3); have x0 := P3.out.rd.cell 0; have x1 := P3.out.rd.cell 1; have x2 := P3.out.rd.cell 2; have y0 := P3.out.rd.free 0; have y1 := P3.out.rd.free 1; have y2 := P3.out.rd.free 2; clear a3 N z0 z1 z2)
            go_roundw
            case rel => exact ⟨2, by go_num, by omega, by rw [HNy.out]; exact (P3.out.put k1 0).bad 200⟩
            case measure => simp [intOf]
        · by_cases hc : c = 110
          · subst hc
            have HE : begS l (k0, b0) (lineB.getD 2 0) = (k1, 0) := by unfold begS; rw [HX.out]; rfl
            rw [HE] at HNy
            clear HE
            go_wp2_with (go_at_call 50; refine (N.out _ HP.out.ad).mono ?_; rintro e w3 ⟨rfl, a3⟩; have P3 := Lib.hid (HP.out.adds a3); have x0 := P3.out.rd.cell 0; have x1 := P3.out.rd.cell 1; have x2 := P3.out.rd.cell 2; have y0 := P3.out.rd.free 0; have y1 := P3.out.rd.free 1; have y2 := P3.out.rd.free 2; clear a3 N z0 z1 z2)
            go_roundw
            case rel => exact ⟨3, by go_num, by omega, by rw [HNy.out]; exact P3.out.put _ _⟩
            case measure => simp [intOf]
          · have hcq : ((c : Int) == 110) = false := by simp; omega
            have hcr : ((c : Int) != ((({ data := #[108, 105, 110, 101] } : ByteArray)[2]'(by decide)).toNat : Int)) = true := by show ((c : Int) != 110) = true; rw [bne, hcq]; rfl
            have HE : begS l (k0, b0) (lineB.getD 2 0) = (k1, 200) := by unfold begS; rw [HX.out]; exact if_pos ⟨rfl, hc⟩
            rw [HE] at HNy
            clear HE hc
            go_wp2_with (go_at_call 50; refine (N.out _ HP.out.ad).mono ?_; rintro e w3 ⟨rfl, a3⟩; have P3 := Lib.hid (HP.out.adds a3); have x0 := P3.out.rd.cell 0; have x1 := P3.out.rd.cell 1; have x2 := P3.out.rd.cell 2; have y0 := P3.out.rd.free 0; have y1 := P3.out.rd.free 1; have y2 := P3.out.rd.free 2; clear a3 N z0 z1 z2)
            go_roundw
            case rel => exact ⟨3, by go_num, by omega, by rw [HNy.out]; exact (P3.out.put k1 0).bad 200⟩
            case measure => simp [intOf]
        · by_cases hc : c = 101
          · subst hc
            have HE : begS l (k0, b0) (lineB.getD 3 0) = (k1, 0) := by unfold begS; rw [HX.out]; rfl
            rw [HE] at HNy
            clear HE
            go_wp2_with (go_at_call 50; refine (N.out _ HP.out.ad).mono ?_; rintro e w3 ⟨rfl, a3⟩; have P3 := Lib.hid (HP.out.adds a3); have x0 := P3.out.rd.cell 0; have x1 := P3.out.rd.cell 1; have x2 := P3.out.rd.cell 2; have y0 := P3.out.rd.free 0; have y1 := P3.out.rd.free 1; have y2 := P3.out.rd.free 2; clear a3 N z0 z1 z2)
            go_roundw
            case rel => exact ⟨4, by go_num, by omega, by rw [HNy.out]; exact P3.out.put _ _⟩
            case measure => simp [intOf]
          · have hcq : ((c : Int) == 101) = false := by simp; omega
            have hcr : ((c : Int) != ((({ data := #[108, 105, 110, 101] } : ByteArray)[3]'(by decide)).toNat : Int)) = true := by show ((c : Int) != 101) = true; rw [bne, hcq]; rfl
            have HE : begS l (k0, b0) (lineB.getD 3 0) = (k1, 200) := by unfold begS; rw [HX.out]; exact if_pos ⟨rfl, hc⟩
            rw [HE] at HNy
            clear HE hc
            go_wp2_with (go_at_call 50; refine (N.out _ HP.out.ad).mono ?_; rintro e w3 ⟨rfl, a3⟩; have P3 := Lib.hid (HP.out.adds a3); have x0 := P3.out.rd.cell 0; have x1 := P3.out.rd.cell 1; have x2 := P3.out.rd.cell 2; have y0 := P3.out.rd.free 0; have y1 := P3.out.rd.free 1; have y2 := P3.out.rd.free 2; clear a3 N z0 z1 z2)
            go_roundw
            case rel => exact ⟨4, by go_num, by omega, by rw [HNy.out]; exact (P3.out.put k1 0).bad 200⟩
            case measure => simp [intOf]
      · have hbq : (b1 == 0) = false := by simp [hb]
        have HE : begS l (k0, b0) (lineB.getD k 0) = (k1, b1) := by unfold begS; rw [HX.out]; exact if_neg (fun h => hb h.1)
        rw [HE] at HNy
        have HK := Lib.hid h4
        have h4I : (k : Int) < 4 := by omega
        clear HE hb h4
        go_wp2_with (go_at_call 50; refine (N.out _ HP.out.ad).mono ?_; rintro e w3 ⟨rfl, a3⟩; have P3 := Lib.hid (HP.out.adds a3); have x0 := P3.out.rd.cell 0; have x1 := P3.out.rd.cell 1; have x2 := P3.out.rd.cell 2; have y0 := P3.out.rd.free 0; have y1 := P3.out.rd.free 1; have y2 := P3.out.rd.free 2; clear a3 N z0 z1 z2)
        go_roundw
        case rel => exact ⟨k + 1, by go_num, HK.out, by rw [HNy.out]; exact P3.out.put _ _⟩
        case measure => simp [intOf]; have := HK.out; omega
    · obtain rfl : k = 4 := by omega
      rw [show lineB.take 4 = lineB from rfl] at HP HB
      obtain ⟨⟨k0, b0⟩, hs⟩ : ∃ s, begQ l lineB (0, 0) = s := ⟨_, rfl⟩
      have HS := Lib.hid hs
      rw [hs] at HP HB
      have HB0 := HB
      clear hs h4 hk HB
      obtain ⟨⟨⟨k1, b1⟩, c1⟩, hx1⟩ : ∃ X, numQ l (k0, b0) 1 = X := ⟨_, rfl⟩
      have HX1 := Lib.hid hx1
      have HB1 := Lib.hid (numQ_le (wd := 1) HB0.out)
      have n1 := HN.out k0 b0 (by have h := HB0.out; rwa [HLn.out] at h)
      rw [hx1] at HB1 n1
      have N1 := Lib.hid n1
      clear n1 hx1
      obtain ⟨⟨⟨k2, b2⟩, c2⟩, hx2⟩ : ∃ X, numQ l (k1, b1) 1 = X := ⟨_, rfl⟩
      have HX2 := Lib.hid hx2
      have HB2 := Lib.hid (numQ_le (wd := 1) HB1.out)
      have n2 := HN.out k1 b1 (by have h := HB1.out; rwa [HLn.out] at h)
      rw [hx2] at HB2 n2
      have N2 := Lib.hid n2
      clear n2 hx2
      obtain ⟨⟨⟨k3, b3⟩, c3⟩, hx3⟩ : ∃ X, numQ l (k2, b2) 1 = X := ⟨_, rfl⟩
      have HX3 := Lib.hid hx3
      have HB3 := Lib.hid (numQ_le (wd := 1) HB2.out)
      have n3 := HN.out k2 b2 (by have h := HB2.out; rwa [HLn.out] at h)
      rw [hx3] at HB3 n3
      have N3 := Lib.hid n3
      clear n3 hx3
      obtain ⟨⟨⟨k4, b4⟩, c4⟩, hx4⟩ : ∃ X, numQ l (k3, b3) 1 = X := ⟨_, rfl⟩
      have HX4 := Lib.hid hx4
      have HB4 := Lib.hid (numQ_le (wd := 1) HB3.out)
      have n4 := HN.out k3 b3 (by have h := HB3.out; rwa [HLn.out] at h)
      rw [hx4] at HB4 n4
      have N4 := Lib.hid n4
      clear n4 hx4
      have z0 := HP.out.rd.cell 0; have z1 := HP.out.rd.cell 1; have z2 := HP.out.rd.cell 2
      go_wp2_with (first
        | (go_at_call 50; refine (N1.out _ (HP.out).ad).mono ?_; rintro e w1 ⟨rfl, a⟩; have P1 := Lib.hid ((HP.out).adds a); have x10 := P1.out.rd.cell 0; have y10 := P1.out.rd.free 0; have x11 := P1.out.rd.cell 1; have y11 := P1.out.rd.free 1; have x12 := P1.out.rd.cell 2; have y12 := P1.out.rd.free 2; have u1 := P1.out.pg.free 1; have v1 := P1.out.pg.cell 1; clear a N1)
        | (go_at_call 50; refine (N2.out _ (((P1.out.put k1 b1).y c1).1).ad).mono ?_; rintro e w2 ⟨rfl, a⟩; have P2 := Lib.hid ((((P1.out.put k1 b1).y c1).1).adds a); have x20 := P2.out.rd.cell 0; have y20 := P2.out.rd.free 0; have x21 := P2.out.rd.cell 1; have y21 := P2.out.rd.free 1; have x22 := P2.out.rd.cell 2; have y22 := P2.out.rd.free 2; have u2 := P2.out.pg.free 2; have v2 := P2.out.pg.cell 2; clear a N2)
        | (go_at_call 50; refine (N3.out _ (((P2.out.put k2 b2).y c2).2.1).ad).mono ?_; rintro e w3 ⟨rfl, a⟩; have P3 := Lib.hid ((((P2.out.put k2 b2).y c2).2.1).adds a); have x30 := P3.out.rd.cell 0; have y30 := P3.out.rd.free 0; have x31 := P3.out.rd.cell 1; have y31 := P3.out.rd.free 1; have x32 := P3.out.rd.cell 2; have y32 := P3.out.rd.free 2; have u3 := P3.out.pg.free 3; have v3 := P3.out.pg.cell 3; clear a N3)
        | (go_at_call 50; refine (N4.out _ (((P3.out.put k3 b3).y c3).2.2).ad).mono ?_; rintro e w4 ⟨rfl, a⟩; have P4 := Lib.hid ((((P3.out.put k3 b3).y c3).2.2).adds a); have x40 := P4.out.rd.cell 0; have y40 := P4.out.rd.free 0; have x41 := P4.out.rd.cell 1; have y41 := P4.out.rd.free 1; have x42 := P4.out.rd.cell 2; have y42 := P4.out.rd.free 2; clear a N4))
      have P5 := Lib.hid (P4.out.put k4 b4)
      clear P1 P2 P3 P4 x10 x11 x12 y10 y11 y12 x20 x21 x22 y20 y21 y22 x30 x31 x32 y30 y31 y32 x40 x41 x42 y40 y41 y42 u1 u2 u3 v1 v2 v3 z0 z1 z2
      go_loopw [10] (fun i wr => ∃ (j : Nat) (s' : St) (fs : List Fu) (pv : Value), i = .int .i64 (j : Int) ∧ j ≤ c4 ∧ fs.length = j ∧ s'.1 ≤ l.length ∧ funcsQ l (c4 - j) s' fs = funcsQ l c4 (k4, b4) [] ∧ PSt w (.slice ao ln cap) s' pv c1 c2 c3 wr ∧ CopyO (w.heap.size + 1 + 1 + 1 + 1) wr pv fs) (fun i _ => c4 + 1 - (intOf i).toNat)
      case atStart => exact ⟨0, (k4, b4), [], _, rfl, Nat.zero_le _, rfl, HB4.out, rfl, P5.out, CopyO.nil _ _⟩
      case round =>
        obtain ⟨j, ⟨k5, b5⟩, fs, pv, rfl, hj, hfl, hk5, hfq, hP, hC⟩ := hrel
        have HP := Lib.hid hP
        have HC := Lib.hid hC
        have HFq := Lib.hid hfq
        have HK5 := Lib.hid hk5
        have HFl := Lib.hid hfl
        clear hP hC hfq hk5 hfl P5
        have z0 := HP.out.rd.cell 0; have z1 := HP.out.rd.cell 1; have z2 := HP.out.rd.cell 2
        by_cases hlt : j < c4
        · by_cases hb : b5 = 0
          · subst hb
            obtain ⟨⟨⟨k6, b6⟩, c6⟩, hx6⟩ : ∃ X, numQ l (k5, 0) 1 = X := ⟨_, rfl⟩
            have HB6 := Lib.hid (numQ_le (wd := 1) HK5.out)
            have n6 := HN.out k5 0 (by have h := HK5.out; rwa [HLn.out] at h)
            rw [hx6] at HB6 n6
            have HX6 := Lib.hid hx6
            have N6 := Lib.hid n6
            clear n6 hx6
            obtain ⟨⟨⟨k7, b7⟩, c7⟩, hx7⟩ : ∃ X, numQ l (k6, b6) 2 = X := ⟨_, rfl⟩
            have HB7 := Lib.hid (numQ_le (wd := 2) HB6.out)
            have n7 := HN2.out k6 b6 (by have h := HB6.out; rwa [HLn.out] at h)
            rw [hx7] at HB7 n7
            have HX7 := Lib.hid hx7
            have N7 := Lib.hid n7
            clear n7 hx7
            have hltI : (j : Int) < (c4 : Int) := by omega
            have HLt := Lib.hid hlt
            clear hlt
            go_wp2_with (first
              | (go_at_call 50; refine (N6.out _ (HP.out).ad).mono ?_; rintro e w6 ⟨rfl, a⟩; have P6 := Lib.hid ((HP.out).adds a); have C6 := Lib.hid (HC.out.adds a); have x60 := P6.out.rd.cell 0; have y60 := P6.out.rd.free 0; have x61 := P6.out.rd.cell 1; have y61 := P6.out.rd.free 1; have x62 := P6.out.rd.cell 2; have y62 := P6.out.rd.free 2; clear a N6)
              | (go_at_call 50; refine (N7.out _ (P6.out.put k6 b6).ad).mono ?_; rintro e w7 ⟨rfl, a⟩; have P7 := Lib.hid ((P6.out.put k6 b6).adds a); have C7 := Lib.hid ((C6.out.tn (put_tn _ _ _ _ _) (by omega)).adds a); have x70 := P7.out.rd.cell 0; have y70 := P7.out.rd.free 0; have x71 := P7.out.rd.cell 1; have y71 := P7.out.rd.free 1; have x72 := P7.out.rd.cell 2; have y72 := P7.out.rd.free 2; clear a N7))
            generalize hw8 : World.setCell (World.setCell (World.setCell w7 ⟨w.heap.size, 0, none⟩ (.slice ao ln cap)) ⟨w.heap.size, 1, none⟩ (.int .i64 (k7 : Int))) ⟨w.heap.size, 2, none⟩ (.int .i64 b7) = w8
            have P8 := Lib.hid (show PSt w (.slice ao ln cap) (k7, b7) pv c1 c2 c3 w8 by rw [← hw8]; exact P7.out.put k7 b7)
            have hs8 : w7.heap.size = w8.heap.size := by rw [← hw8]; simp
            have hr8 : w.heap.size + 3 < w8.heap.size := by have := P8.out.pg.lt; omega
            have C8 := Lib.hid (show CopyO (w.heap.size + 1 + 1 + 1 + 1) w8 pv fs by rw [← hw8]; exact C7.out.tn (put_tn _ _ _ _ _) (by omega))
            rw [hs8]
            clear hw8 hs8 P7 x60 x61 x62 y60 y61 y62 x70 x71 x72 y70 y71 y72 P6 z0 z1 z2 HC HP C6 C7
            obtain ⟨bf, hbf⟩ : ∃ bf, w8.heap.size = bf := ⟨_, rfl⟩
            have I0 := Lib.hid (show ISt w w8 (.slice ao ln cap) (k7, b7) pv c1 c2 c3 bf c6 (.slice none 0 0) [] (w8.alloc (.cells #[.int .i64 (c6 : Int), .slice none 0 0] 55)) from ⟨P8.out.adds (Adds.new _ _), by rw [← hbf]; exact BkS.new _ _ _, CodeO.nil _ _, TnS.of_adds _ (Adds.new _ _), hbf, by omega⟩)
            rw [hbf]
            go_loopw [12] (fun i wr => ∃ (q : Nat) (s2 : St) (c : List In) (cv : Value), i = .int .i64 (q : Int) ∧ q ≤ c7 ∧ c.length = q ∧ s2.1 ≤ l.length ∧ codeQ l (c7 - q) s2 c = codeQ l c7 (k7, b7) [] ∧ ISt w w8 (.slice ao ln cap) s2 pv c1 c2 c3 bf c6 cv c wr) (fun i _ => c7 + 1 - (intOf i).toNat)
            case atStart => exact ⟨0, (k7, b7), [], _, rfl, Nat.zero_le _, rfl, HB7.out, rfl, I0.out⟩
            case round =>
              obtain ⟨q, ⟨k9, b9⟩, c, cv, rfl, hq, hcl, hk9, hcq, hI⟩ := hrel
              have HK9 := Lib.hid hk9
              have HCl := Lib.hid hcl
              have HCq := Lib.hid hcq
              have HIs := Lib.hid hI
              clear hk9 hcl hcq hI I0
              have z0 := HIs.out.ps.rd.cell 0; have z1 := HIs.out.ps.rd.cell 1; have z2 := HIs.out.ps.rd.cell 2
              by_cases hqc : q < c7
              · by_cases hb9 : b9 = 0
                · subst hb9
                  obtain ⟨⟨⟨k10, b10⟩, x0, x1, x2, x3, x4⟩, hx10⟩ : ∃ X, insQ l (k9, 0) = X := ⟨_, rfl⟩
                  have HB10 := Lib.hid (insQ_le HK9.out)
                  have n10 := HI.out k9 0 (by have h := HK9.out; rwa [HLn.out] at h)
                  rw [hx10] at HB10 n10
                  have HX10 := Lib.hid hx10
                  have N10 := Lib.hid n10
                  clear n10 hx10 HI
                  have hqI : (q : Int) < (c7 : Int) := by omega
                  have HQc := Lib.hid hqc
                  clear hqc
                  obtain ⟨wz, hwz⟩ : ∃ wz, wr.alloc (.cells #[.int .i64 0, .int .i64 0, .int .i64 0, .int .i64 0, .int .u32 0] 59) = wz := ⟨_, rfl⟩
                  have AZ := Lib.hid (show Adds wr wz by rw [← hwz]; exact Adds.new _ _)
                  have BZ := Lib.hid (show BkS 59 wz wr.heap.size [.int .i64 0, .int .i64 0, .int .i64 0, .int .i64 0, .int .u32 0] by rw [← hwz]; exact BkS.new _ _ _)
                  have IZ := Lib.hid (HIs.out.adds AZ.out)
                  have hbk := HIs.out.bx.lt
                  have hbr := HIs.out.hr
                  have hok : cv.ownBlock ≠ some wr.heap.size := fun e => by have := (World.ownsRow.lt HIs.out.ow _ e).2; omega
                  obtain ⟨kz, hkz⟩ : ∃ kz, wr.heap.size = kz := ⟨_, rfl⟩
                  rw [hkz] at BZ hbk hok
                  have HOk := Lib.hid hok
                  have d1 : ¬ kz = bf := by omega
                  have d2 : ¬ bf = kz := by omega
                  have d3 : ¬ kz = w.heap.size := by omega
                  have d4 : ¬ w.heap.size = kz := by omega
                  have d5 : ¬ bf = w.heap.size := by omega
                  have d6 : ¬ w.heap.size = bf := by omega
                  have e0 := IZ.out.ps.rd.cell 0; have e1 := IZ.out.ps.rd.cell 1; have e2 := IZ.out.ps.rd.cell 2
                  have HBk := Lib.hid hbk
                  have hc7 := numQ_lt2 (l := l) (s := (k6, b6))
                  rw [HX7.out] at hc7
                  simp only at hc7
                  have hc7I : (c7 : Int) < 65536 := by omega
                  have HLc := Lib.hid (show c.length ≤ 4000000 by have := HCl.out; have := HQc.out; omega)
                  clear hok hbr HIs hc7
                  go_wp2_with (first
                    | (go_at_call 51; refine (N10.out _ IZ.out.ps.ad).mono ?_; rintro e w9 ⟨rfl, a⟩; have I9 := Lib.hid (IZ.out.adds a); have B9 := Lib.hid (BZ.out.adds a); obtain ⟨wp, hwp⟩ : ∃ wp, ((w9.setCell ⟨w.heap.size, 0, none⟩ (.slice ao ln cap)).setCell ⟨w.heap.size, 1, none⟩ (.int .i64 (k10 : Int))).setCell ⟨w.heap.size, 2, none⟩ (.int .i64 b10) = wp := ⟨_, rfl⟩; have IP := Lib.hid (show ISt w w8 (.slice ao ln cap) (k10, b10) pv c1 c2 c3 bf c6 cv c wp by rw [← hwp]; exact I9.out.put k10 b10); have BP := Lib.hid (show BkS 59 wp kz [.int .i64 0, .int .i64 0, .int .i64 0, .int .i64 0, .int .u32 0] by rw [← hwp]; exact ((B9.out.other (by omega) _).other (by omega) _).other (by omega) _); obtain ⟨wq, hwq⟩ : ∃ wq, ((((wp.setCell ⟨kz, 0, none⟩ (.int .i64 x0)).setCell ⟨kz, 1, none⟩ (.int .i64 x1)).setCell ⟨kz, 2, none⟩ (.int .i64 x2)).setCell ⟨kz, 3, none⟩ (.int .i64 x3)).setCell ⟨kz, 4, none⟩ (.int .u32 x4) = wq := ⟨_, rfl⟩; have IQ := Lib.hid (show ISt w w8 (.slice ao ln cap) (k10, b10) pv c1 c2 c3 bf c6 cv c wq by rw [← hwq]; exact ((((IP.out.far _ HBk.out HOk.out).far _ HBk.out HOk.out).far _ HBk.out HOk.out).far _ HBk.out HOk.out).far _ HBk.out HOk.out); have BQ := Lib.hid (show BkS 59 wq kz [.int .i64 x0, .int .i64 x1, .int .i64 x2, .int .i64 x3, .int .u32 x4] by rw [← hwq]; exact ((((BP.out.set 0 _).set 1 _).set 2 _).set 3 _).set 4 _); have x9000 := I9.out.ps.rd.cell 0; have y9000 := I9.out.ps.rd.free 0; have x9001 := I9.out.ps.rd.cell 1; have y9001 := I9.out.ps.rd.free 1; have x9002 := I9.out.ps.rd.cell 2; have y9002 := I9.out.ps.rd.free 2; have z0 := BP.out.cell 0; have t0 := BP.out.free 0; have z1 := BP.out.cell 1; have t1 := BP.out.free 1; have z2 := BP.out.cell 2; have t2 := BP.out.free 2; have z3 := BP.out.cell 3; have t3 := BP.out.free 3; have z4 := BP.out.cell 4; have t4 := BP.out.free 4; have v0 := BQ.out.cell 0; have v1 := BQ.out.cell 1; have v2 := BQ.out.cell 2; have v3 := BQ.out.cell 3; have v4 := BQ.out.cell 4; have u1 := IQ.out.bx.cell 1; clear a N10 e0 e1 e2)
                    | (at_builtin; refine wpI_append1 rfl (.tmp 96) (.tmp 98) rfl bf cv c (x0, x1, x2, x3, x4) rfl (by exact IQ.out.ow) _ rfl (by simp) HLc.out (by exact Nat.le_of_lt IQ.out.bx.lt) ?_; intro v' wo ho hg; have IA := Lib.hid (IQ.out.app hg ho); have bxo := IQ.out.bx.grown hg (own_neT IQ.out.ow IQ.out.bx (by decide)); have g0 := bxo.cell 1; have g1 := bxo.free 1; obtain ⟨ao', cap', ev⟩ := ho.form; obtain ⟨nl, hnl⟩ : ∃ nl, (c ++ [((x0, x1, x2, x3, x4) : In)]).length = nl := ⟨_, rfl⟩; rw [hnl] at ev; have HNl := Lib.hid hnl; subst ev; clear bxo ho hg hnl))
                  go_roundw
                  case rel => exact ⟨q + 1, (k10, b10), c ++ [(x0, x1, x2, x3, x4)], _, by go_num, HQc.out, by have := HCl.out; simp; omega, HB10.out, by rw [← HCq.out, show c7 - q = (c7 - (q + 1)) + 1 by have := HQc.out; omega, codeQ, if_pos rfl, HX10.out], IA.out⟩
                  case measure => simp [intOf]; have := HQc.out; omega
                · have hbq : (b9 == 0) = false := by simp [hb9]
                  have hqI : (q : Int) < (c7 : Int) := by omega
                  have HE9 := Lib.hid (show codeQ l (c7 - q) (k9, b9) c = ((k9, b9), c) from codeQ_bad _ _ _ hb9)
                  clear hb9 hqc hq
                  have hcE := HCq.out
                  rw [HE9.out] at hcE
                  have HFn := Lib.hid (show funcQ l (k5, 0) = ((k9, b9), ((c6 : Int), c)) by unfold funcQ; simp only [HX6.out, HX7.out, ← hcE])
                  have hc4 := numQ_lt (l := l) (s := (k3, b3))
                  rw [HX4.out] at hc4
                  simp only at hc4
                  have hc4I : (c4 : Int) < 256 := by omega
                  have HLf := Lib.hid (show fs.length ≤ 4000000 by have := HFl.out; have := HLt.out; omega)
                  have hbr := HIs.out.hr
                  have HCf := Lib.hid (show CopyO (w.heap.size + 1 + 1 + 1 + 1) wr pv fs from C8.out.tn HIs.out.tn (by omega))
                  have HCo := Lib.hid (show CodeO (w.heap.size + 1 + 1 + 1 + 1) wr cv c from HIs.out.ow.lower (by omega))
                  have HSz := Lib.hid (show w.heap.size + 1 + 1 + 1 + 1 ≤ wr.heap.size by have := HIs.out.bx.lt; omega)
                  have u0 := HIs.out.bx.cell 0; have u1 := HIs.out.bx.cell 1
                  have p0 := HIs.out.ps.pg.cell 0
                  obtain ⟨aoc, capc, ec⟩ := HIs.out.ow.form
                  obtain ⟨cl, hcl⟩ : ∃ cl, c.length = cl := ⟨_, rfl⟩
                  rw [hcl] at ec
                  obtain ⟨aop, capp, ep⟩ := HCf.out.form
                  obtain ⟨fl, hfl⟩ : ∃ fl, fs.length = fl := ⟨_, rfl⟩
                  rw [hfl] at ep
                  subst ec ep
                  clear hcE hc4 hbr hcl hfl HI
                  go_wp2_with (at_builtin; refine wpF_append1 rfl (.tmp 102) (.tmp 104) rfl (w.heap.size + 1 + 1 + 1 + 1) _ fs (c6 : Int) _ c rfl (by exact HCf.out) (by exact HCo.out) _ rfl (by simp) HLf.out (by exact HSz.out) ?_; intro v' wo ho hg; have IA := Lib.hid (HIs.out.ps.app HCf.out hg ho); have g0 := IA.out.2.2.1; have g1 := IA.out.2.2.2; obtain ⟨ao', cap', ev⟩ := ho.form; obtain ⟨nl, hnl⟩ : ∃ nl, (fs ++ [((c6 : Int), c)]).length = nl := ⟨_, rfl⟩; rw [hnl] at ev; subst ev; clear ho hg hnl)
                  go_roundw
                  case rel => exact ⟨j + 1, (k9, b9), fs ++ [((c6 : Int), c)], _, by go_num, HLt.out, by have := HFl.out; simp; omega, HK9.out, by rw [← HFq.out, show c4 - j = (c4 - (j + 1)) + 1 by have := HLt.out; omega, funcsQ, if_pos rfl, HFn.out], IA.out.1, IA.out.2.1⟩
                  case measure => simp [intOf]; have := HLt.out; omega
              · have hqI : (c7 : Int) ≤ (q : Int) := by omega
                have HE9 := Lib.hid (show codeQ l (c7 - q) (k9, b9) c = ((k9, b9), c) by rw [show c7 - q = 0 by omega, codeQ])
                clear hqc hq
                have hcE := HCq.out
                rw [HE9.out] at hcE
                have HFn := Lib.hid (show funcQ l (k5, 0) = ((k9, b9), ((c6 : Int), c)) by unfold funcQ; simp only [HX6.out, HX7.out, ← hcE])
                have hc4 := numQ_lt (l := l) (s := (k3, b3))
                rw [HX4.out] at hc4
                simp only at hc4
                have hc4I : (c4 : Int) < 256 := by omega
                have HLf := Lib.hid (show fs.length ≤ 4000000 by have := HFl.out; have := HLt.out; omega)
                have hbr := HIs.out.hr
                have HCf := Lib.hid (show CopyO (w.heap.size + 1 + 1 + 1 + 1) wr pv fs from C8.out.tn HIs.out.tn (by omega))
                have HCo := Lib.hid (show CodeO (w.heap.size + 1 + 1 + 1 + 1) wr cv c from HIs.out.ow.lower (by omega))
                have HSz := Lib.hid (show w.heap.size + 1 + 1 + 1 + 1 ≤ wr.heap.size by have := HIs.out.bx.lt; omega)
                have u0 := HIs.out.bx.cell 0; have u1 := HIs.out.bx.cell 1
                have p0 := HIs.out.ps.pg.cell 0
                obtain ⟨aoc, capc, ec⟩ := HIs.out.ow.form
                obtain ⟨cl, hcl⟩ : ∃ cl, c.length = cl := ⟨_, rfl⟩
                rw [hcl] at ec
                obtain ⟨aop, capp, ep⟩ := HCf.out.form
                obtain ⟨fl, hfl⟩ : ∃ fl, fs.length = fl := ⟨_, rfl⟩
                rw [hfl] at ep
                subst ec ep
                clear hcE hc4 hbr hcl hfl HI
                go_wp2_with (at_builtin; refine wpF_append1 rfl (.tmp 102) (.tmp 104) rfl (w.heap.size + 1 + 1 + 1 + 1) _ fs (c6 : Int) _ c rfl (by exact HCf.out) (by exact HCo.out) _ rfl (by simp) HLf.out (by exact HSz.out) ?_; intro v' wo ho hg; have IA := Lib.hid (HIs.out.ps.app HCf.out hg ho); have g0 := IA.out.2.2.1; have g1 := IA.out.2.2.2; obtain ⟨ao', cap', ev⟩ := ho.form; obtain ⟨nl, hnl⟩ : ∃ nl, (fs ++ [((c6 : Int), c)]).length = nl := ⟨_, rfl⟩; rw [hnl] at ev; subst ev; clear ho hg hnl)
                go_roundw
                case rel => exact ⟨j + 1, (k9, b9), fs ++ [((c6 : Int), c)], _, by go_num, HLt.out, by have := HFl.out; simp; omega, HK9.out, by rw [← HFq.out, show c4 - j = (c4 - (j + 1)) + 1 by have := HLt.out; omega, funcsQ, if_pos rfl, HFn.out], IA.out.1, IA.out.2.1⟩
                case measure => simp [intOf]; have := HLt.out; omega
          · have hbq : (b5 == 0) = false := by simp [hb]
            have hltI : (j : Int) < (c4 : Int) := by omega
            have HE : funcsQ l (c4 - j) (k5, b5) fs = ((k5, b5), fs) := by
              obtain ⟨m, hm⟩ : ∃ m, c4 - j = m + 1 := ⟨c4 - j - 1, by omega⟩
              rw [hm, funcsQ, if_neg hb]
            have HQ : progQ l = ((k5, b5), emP) := by
              unfold progQ pgQ
              rw [HS.out]
              simp only [HX1.out, HX2.out, HX3.out, HX4.out]
              rw [← HFq.out, HE]
              unfold finQ endQ
              simp [hb]
            have s0 := HP.out.r2.cell 0; have t0 := HP.out.r2.free 0; have s1 := HP.out.r2.cell 1; have t1 := HP.out.r2.free 1; have s2 := HP.out.r2.cell 2; have t2 := HP.out.r2.free 2; have p0 := HP.out.p2.cell 0; have q0 := HP.out.p2.free 0; have p1 := HP.out.p2.cell 1; have q1 := HP.out.p2.free 1; have p2 := HP.out.p2.cell 2; have q2 := HP.out.p2.free 2; have p3 := HP.out.p2.cell 3; have q3 := HP.out.p2.free 3
            clear HE HFq HC HK5 HFl HX1 HX2 HX3 HX4 HS HN HN2 HI hb
            go_wp2_with fail
            try simp only [Exit.inBlock, Exit.then]
            refine bodyPost_ret (res_bb rfl _ _ _ _ _ _ _ _ _ _ _ _ rfl rfl (((((((HP.out.r2.set 0 (.slice ao ln cap)).set 1 (.int .i64 (k5 : Int))).set 2 (.int .i64 b5)).other (by omega) _).other (by omega) _).other (by omega) _).other (by omega) _) (((((((HP.out.p2.other (by omega) _).other (by omega) _).other (by omega) _).set 0 (.slice none 0 0)).set 1 (.int .i64 0)).set 2 (.int .i64 0)).set 3 (.int .i64 0)) Tryz.underlying75 rfl (by kernel_rfl) Tryz.underlying24 rfl (by kernel_rfl)) rfl ?_
            exact ⟨.slice none 0 0, rfl, CopyO.nil _ _, Adds.set (Adds.set (Adds.set (Adds.set (Adds.set (Adds.set (Adds.set (HP.out.ad) (by omega) _ _) (by omega) _ _) (by omega) _ _) (by omega) _ _) (by omega) _ _) (by omega) _ _) (by omega) _ _⟩
        · have hltI : (c4 : Int) ≤ (j : Int) := by omega
          have HE : funcsQ l (c4 - j) (k5, b5) fs = ((k5, b5), fs) := by rw [show c4 - j = 0 by omega, funcsQ]
          by_cases hb : b5 = 0
          · have HSh : ∀ e : Int, True := fun _ => trivial
            clear HSh
            subst hb
            by_cases hs8 : ln < k5 + 8
            · have hQ : progQ l = ((k5, 110), emP) := by
                unfold progQ pgQ
                rw [HS.out]
                simp only [HX1.out, HX2.out, HX3.out, HX4.out]
                rw [← HFq.out, HE]
                have h8 : l.length < k5 + 8 := by rw [HLn.out]; exact hs8
                unfold finQ endQ
                simp [h8]
              have s0 := HP.out.r2.cell 0; have t0 := HP.out.r2.free 0; have s1 := HP.out.r2.cell 1; have t1 := HP.out.r2.free 1; have s2 := HP.out.r2.cell 2; have t2 := HP.out.r2.free 2; have p0 := HP.out.p2.cell 0; have q0 := HP.out.p2.free 0; have p1 := HP.out.p2.cell 1; have q1 := HP.out.p2.free 1; have p2 := HP.out.p2.cell 2; have q2 := HP.out.p2.free 2; have p3 := HP.out.p2.cell 3; have q3 := HP.out.p2.free 3
              have f2 := HP.out.rd.free 2
              have hkl : (k5 : Int) ≤ (ln : Int) := by have := HK5.out; rw [HLn.out] at this; omega
              have hlw : wrap64 ((ln : Int) - (k5 : Int)) = (ln : Int) - (k5 : Int) := by unfold wrap64; omega
              have hlI : (ln : Int) - (k5 : Int) < 8 := by omega
              clear HE HFq HC HK5 HFl HX1 HX2 HX3 HX4 HS HN HN2 HI hs8
              go_wp2_with fail
              try simp only [Exit.inBlock, Exit.then]
              refine bodyPost_ret (res_bb rfl _ _ _ _ _ _ _ _ _ _ _ _ rfl rfl ((((((((HP.out.bad 110).r2.set 0 (.slice ao ln cap)).set 1 (.int .i64 (k5 : Int))).set 2 (.int .i64 110)).other (by omega) _).other (by omega) _).other (by omega) _).other (by omega) _) ((((((((HP.out.bad 110).p2.other (by omega) _).other (by omega) _).other (by omega) _).set 0 (.slice none 0 0)).set 1 (.int .i64 0)).set 2 (.int .i64 0)).set 3 (.int .i64 0)) Tryz.underlying75 rfl (by kernel_rfl) Tryz.underlying24 rfl (by kernel_rfl)) rfl ?_
              exact ⟨.slice none 0 0, rfl, CopyO.nil _ _, Adds.set (Adds.set (Adds.set (Adds.set (Adds.set (Adds.set (Adds.set ((HP.out.bad 110).ad) (by omega) _ _) (by omega) _ _) (by omega) _ _) (by omega) _ _) (by omega) _ _) (by omega) _ _) (by omega) _ _⟩
            · have HOk := Lib.hid (show ∀ f ∈ fs, ∀ x ∈ f.2, OkIn x by
                have h := funcsQ_okin (l := l) c4 (k4, b4) [] (fun _ h => by cases h)
                rw [← HFq.out, HE] at h
                exact h rfl)
              obtain ⟨aop, capp, ep⟩ := HC.out.form
              obtain ⟨fl, hfl⟩ : ∃ fl, fs.length = fl := ⟨_, rfl⟩
              have HFs := Lib.hid hfl
              rw [hfl] at ep
              subst ep
              obtain ⟨k8, hk8⟩ : ∃ k8, k5 + 8 = k8 := ⟨_, rfl⟩
              have hk5l : k5 ≤ ln := by omega
              have hk8l : k8 ≤ ln := by omega
              have HKc := Lib.hid (show k5 ≤ cap ∧ k8 ≤ cap by have := HCap.out; omega)
              have HQ := Lib.hid (show progQ l = if sealB (l.take k5) = l.take k8 ∧ checkP (fs, (c1 : Int), (c2 : Int), (c3 : Int)) = 0 then ((k8, 0), (fs, (c1 : Int), (c2 : Int), (c3 : Int))) else ((k8, 200), emP) by
                unfold progQ pgQ
                rw [HS.out]
                simp only [HX1.out, HX2.out, HX3.out, HX4.out]
                rw [← HFq.out, HE]
                have h8 : ¬ l.length < k8 := by rw [HLn.out]; omega
                unfold finQ endQ
                simp [h8, hk8])
              have hv1 := HV.out
              rw [← HLn.out] at hv1
              have HB1 := Lib.hid ((bytes_pre hv1 (show k5 ≤ l.length by rw [HLn.out]; omega)).here)
              have HB2 := Lib.hid ((bytes_pre hv1 (show k8 ≤ l.length by rw [HLn.out]; omega)).here)
              have HLs := Lib.hid (show (l.take k5).length ≤ 70368744177664 by rw [List.length_take]; have := HLm.out; omega)
              have hk8I : (k5 : Int) + 8 = (k8 : Int) := by omega
              have hk8w : wrap64 (k8 : Int) = (k8 : Int) := by unfold wrap64; omega
              have hlw : wrap64 ((ln : Int) - (k5 : Int)) = (ln : Int) - (k5 : Int) := by unfold wrap64; omega
              have hlN : ¬ (ln : Int) - (k5 : Int) < 8 := by omega
              obtain ⟨wa, hwa⟩ : ∃ wa, wr.setCell ⟨w.heap.size, 1, none⟩ (.int .i64 (k8 : Int)) = wa := ⟨_, rfl⟩
              have PA := Lib.hid (show PSt w (.slice ao ln cap) (k8, 0) (.slice aop fl capp) c1 c2 c3 wa by rw [← hwa]; exact HP.out.at1 k8)
              have CA := Lib.hid (show CopyO (w.heap.size + 1 + 1 + 1 + 1) wa (.slice aop fl capp) fs by rw [← hwa]; exact HC.out.tn (TnS.setCell _ _ _ _) (by omega))
              have f1 := HP.out.rd.free 1
              have HCx := Lib.hid (fun (W : World) (h : Adds wa.drew W) => show W.cell? ⟨w.heap.size, 0, none⟩ = some (.slice ao ln cap) ∧ W.cell? ⟨w.heap.size, 1, none⟩ = some (.int .i64 (k8 : Int)) ∧ W.cell? ⟨w.heap.size + 1 + 1 + 1, 0, none⟩ = some (.slice aop fl capp) ∧ W.cell? ⟨w.heap.size + 1 + 1 + 1, 1, none⟩ = some (.int .i64 (c1 : Int)) ∧ W.cell? ⟨w.heap.size + 1 + 1 + 1, 2, none⟩ = some (.int .i64 (c2 : Int)) ∧ W.cell? ⟨w.heap.size + 1 + 1 + 1, 3, none⟩ = some (.int .i64 (c3 : Int)) from by
                have q := PA.out.adds (Adds.trans (Adds.drew _) h)
                exact ⟨q.rd.cell 0, q.rd.cell 1, q.pg.cell 0, q.pg.cell 1, q.pg.cell 2, q.pg.cell 3⟩)
              have HAd := Lib.hid (fun (W : World) (h : Adds wa.drew W) => Adds.trans PA.out.ad (Adds.trans (Adds.drew _) h))
              have HSl0 := fun (W : World) (h : Adds wa.drew W) => show Calls Tryz.prog 15 #[.slice ao k5 cap] W fun e w' => ∃ u, e = .returned u ∧ Bytes w'.heap.size w' u (sealB (l.take k5)) ∧ Adds W w' from (refSealed_any _ (l.take k5) W (HB1.out.adds (HAd.out W h)) HLs.out).mono fun e w2 ⟨u, he, ho, ha⟩ => ⟨u, he, ho.bytes, ha⟩
              have HTb0 := fun (W : World) (h : Adds wa.drew W) => HB2.out.adds (HAd.out W h)
              have HRt0 := fun (W : World) (h : Adds wa.drew W) => show Calls Tryz.prog 22 #[.agg #[.slice aop fl capp, .int .i64 (c1 : Int), .int .i64 (c2 : Int), .int .i64 (c3 : Int)]] W fun e w' => e = .returned (.bool (rightP (fs, (c1 : Int), (c2 : Int), (c3 : Int)))) ∧ Adds W w' from refRightP_any (.slice aop fl capp) (fs, (c1 : Int), (c2 : Int), (c3 : Int)) W ((CA.out.adds (Adds.trans (Adds.drew _) h)).funcs HOk.out)
              clear hv1 HE HFq HC HFl HX1 HX2 HX3 HX4 HS HN HN2 HI hs8 hfl
              obtain ⟨SB, hSB⟩ : ∃ SB, sealB (l.take k5) = SB := ⟨_, rfl⟩
              obtain ⟨TB, hTB⟩ : ∃ TB, l.take k8 = TB := ⟨_, rfl⟩
              rw [hSB] at HSl0 HQ
              rw [hTB] at HTb0 HQ
              clear hSB hTB hk8 HB1 HB2
              have HTb := Lib.hid HTb0
              have HSl := Lib.hid HSl0
              clear HTb0 HSl0
              by_cases hst : SB = TB
              · subst hst
                obtain ⟨rb, hrb⟩ : ∃ rb, rightP (fs, (c1 : Int), (c2 : Int), (c3 : Int)) = rb := ⟨_, rfl⟩
                rw [hrb] at HRt0
                have HRt := Lib.hid HRt0
                clear HRt0
                cases rb
                · have hq : progQ l = ((k8, 200), emP) := by
                    rw [HQ.out, if_neg (fun h => by have h2 := h.2; unfold rightP at hrb; rw [decide_eq_false_iff_not] at hrb; exact hrb h2)]
                  clear hrb HQ hk5l hk8l
                  go_wp2_with fail
                  refine wp_region_loose [133] (fun _ u W => Bytes W.heap.size W u SB) Adds (by kernel_rfl) (by kernel_rfl) (by simp) Adds.refl (fun _ _ _ h k => Adds.trans h k) (fun _ _ _ _ h k => k.adds h) ?_
                  repeat (refine wpL_step (fun K hK => ?_); first
                    | (refine stepL_skip rfl rfl rfl ?_; go_simp; refine hK _ ?_; clear hK K)
                    | (refine stepL_ex (v := .bool false) rfl rfl rfl Adds.refl ?_ ?_; (· (intro w' hw'; clear hK; skip; go_simp; done)); go_simp; refine hK _ ?_; clear hK K)
                    | (refine stepL_ex (v := .bool true) rfl rfl rfl Adds.refl ?_ ?_; (· (intro w' hw'; clear hK; skip; go_simp; done)); go_simp; refine hK _ ?_; clear hK K)
                    | (refine stepL_ex rfl rfl rfl Adds.refl (fun w' hw' => rfl) ?_; go_simp; refine hK _ ?_; clear hK K)
                    | (refine stepL_ex (v := .slice ao ln cap) rfl rfl rfl Adds.refl ?_ ?_; (· (intro w' hw'; clear hK; obtain ⟨c0, c1, c2, c3, c4, c5⟩ := HCx.out w' hw'; go_simp; done)); go_simp; refine hK _ ?_; clear hK K)
                    | (refine stepL_ex (v := .int .i64 (k8 : Int)) rfl rfl rfl Adds.refl ?_ ?_; (· (intro w' hw'; clear hK; obtain ⟨c0, c1, c2, c3, c4, c5⟩ := HCx.out w' hw'; go_simp; done)); go_simp; refine hK _ ?_; clear hK K)
                    | (refine stepL_ex (v := .slice ao k5 cap) rfl rfl rfl Adds.refl ?_ ?_; (· (intro w' hw'; clear hK; have hs := slice_preB ao ln cap k5 HKc.out.1 w'; go_simp; done)); go_simp; refine hK _ ?_; clear hK K)
                    | (refine stepL_ex (v := .slice ao k8 cap) rfl rfl rfl Adds.refl ?_ ?_; (· (intro w' hw'; clear hK; have hs := slice_preB ao ln cap k8 HKc.out.2 w'; go_simp; done)); go_simp; refine hK _ ?_; clear hK K)
                    | (refine stepL_key (f := 15) (args := #[.slice ao k5 cap]) 133 rfl rfl rfl rfl ?_ (fun w' hw' => HSl.out w' hw') ?_; (· (intro w'; clear hK; go_simp)); refine hK _ ?_; clear hK K)
                    | (refine stepL_ex1 (v := .string (str SB)) rfl rfl Adds.refl ?_ ?_; (· (intro w' u hw' hu; refine ⟨rfl, ?_⟩; clear hK; have hS := strAt hu; go_simp)); go_simp; refine hK _ ?_; clear hK K)
                    | (refine stepL_ex (v := .string (str SB)) rfl rfl rfl Adds.refl ?_ ?_; (· (intro w' hw'; clear hK; have hS := strAt (HTb.out w' hw'); go_simp; done)); go_simp; refine hK _ ?_; clear hK K)
                    | (refine stepL_ex (v := .agg #[.slice aop fl capp, .int .i64 (c1 : Int), .int .i64 (c2 : Int), .int .i64 (c3 : Int)]) rfl rfl rfl Adds.refl ?_ ?_; (· (intro w' hw'; clear hK; obtain ⟨c0, c1, c2, c3, c4, c5⟩ := HCx.out w' hw'; go_simp; done)); go_simp; refine hK _ ?_; clear hK K)
                    | (refine stepL_call (v := .bool false) (f := 22) (args := #[.agg #[.slice aop fl capp, .int .i64 (c1 : Int), .int .i64 (c2 : Int), .int .i64 (c3 : Int)]]) rfl rfl rfl ?_ (fun w' hw' => HRt.out w' hw') ?_; (· (intro w'; clear hK; go_simp)); go_simp; refine hK _ ?_; clear hK K))
                  refine wpL_nil ?_
                  intro w4 a4
                  simp only [forL]
                  intro u4 hu4
                  have P4 := Lib.hid (PA.out.adds (Adds.trans (Adds.drew _) a4))
                  have C4 := Lib.hid (CA.out.adds (Adds.trans (Adds.drew _) a4))
                  clear a4 hu4
                  have s0 := P4.out.r2.cell 0; have t0 := P4.out.r2.free 0; have s1 := P4.out.r2.cell 1; have t1 := P4.out.r2.free 1; have s2 := P4.out.r2.cell 2; have t2 := P4.out.r2.free 2; have p0 := P4.out.p2.cell 0; have q0 := P4.out.p2.free 0; have p1 := P4.out.p2.cell 1; have q1 := P4.out.p2.free 1; have p2 := P4.out.p2.cell 2; have q2 := P4.out.p2.free 2; have p3 := P4.out.p2.cell 3; have q3 := P4.out.p2.free 3; have x0 := P4.out.rd.cell 0; have y0 := P4.out.rd.free 0; have x1 := P4.out.rd.cell 1; have y1 := P4.out.rd.free 1; have x2 := P4.out.rd.cell 2; have y2 := P4.out.rd.free 2; have g0 := P4.out.pg.cell 0; have g1 := P4.out.pg.cell 1; have g2 := P4.out.pg.cell 2; have g3 := P4.out.pg.cell 3
                  clear PA CA HCx HTb HSl
                  go_wp2_with fail
                  try simp only [Exit.inBlock, Exit.then]
                  refine bodyPost_ret (res_bb rfl _ _ _ _ _ _ _ _ _ _ _ _ rfl rfl ((((((((P4.out.bad 200).r2.set 0 (.slice ao ln cap)).set 1 (.int .i64 (k8 : Int))).set 2 (.int .i64 200)).other (by omega) _).other (by omega) _).other (by omega) _).other (by omega) _) ((((((((P4.out.bad 200).p2.other (by omega) _).other (by omega) _).other (by omega) _).set 0 (.slice none 0 0)).set 1 (.int .i64 0)).set 2 (.int .i64 0)).set 3 (.int .i64 0)) Tryz.underlying75 rfl (by kernel_rfl) Tryz.underlying24 rfl (by kernel_rfl)) rfl ?_
                  exact ⟨.slice none 0 0, rfl, CopyO.nil _ _, Adds.set (Adds.set (Adds.set (Adds.set (Adds.set (Adds.set (Adds.set ((P4.out.bad 200).ad) (by omega) _ _) (by omega) _ _) (by omega) _ _) (by omega) _ _) (by omega) _ _) (by omega) _ _) (by omega) _ _⟩
                · have hq : progQ l = ((k8, 0), (fs, (c1 : Int), (c2 : Int), (c3 : Int))) := by
                    rw [HQ.out, if_pos ⟨rfl, by unfold rightP at hrb; exact of_decide_eq_true hrb⟩]
                  clear hrb HQ hk5l hk8l
                  go_wp2_with fail
                  refine wp_region_loose [133] (fun _ u W => Bytes W.heap.size W u SB) Adds (by kernel_rfl) (by kernel_rfl) (by simp) Adds.refl (fun _ _ _ h k => Adds.trans h k) (fun _ _ _ _ h k => k.adds h) ?_
                  repeat (refine wpL_step (fun K hK => ?_); first
                    | (refine stepL_skip rfl rfl rfl ?_; go_simp; refine hK _ ?_; clear hK K)
                    | (refine stepL_ex (v := .bool false) rfl rfl rfl Adds.refl ?_ ?_; (· (intro w' hw'; clear hK; skip; go_simp; done)); go_simp; refine hK _ ?_; clear hK K)
                    | (refine stepL_ex (v := .bool true) rfl rfl rfl Adds.refl ?_ ?_; (· (intro w' hw'; clear hK; skip; go_simp; done)); go_simp; refine hK _ ?_; clear hK K)
                    | (refine stepL_ex rfl rfl rfl Adds.refl (fun w' hw' => rfl) ?_; go_simp; refine hK _ ?_; clear hK K)
                    | (refine stepL_ex (v := .slice ao ln cap) rfl rfl rfl Adds.refl ?_ ?_; (· (intro w' hw'; clear hK; obtain ⟨c0, c1, c2, c3, c4, c5⟩ := HCx.out w' hw'; go_simp; done)); go_simp; refine hK _ ?_; clear hK K)
                    | (refine stepL_ex (v := .int .i64 (k8 : Int)) rfl rfl rfl Adds.refl ?_ ?_; (· (intro w' hw'; clear hK; obtain ⟨c0, c1, c2, c3, c4, c5⟩ := HCx.out w' hw'; go_simp; done)); go_simp; refine hK _ ?_; clear hK K)
                    | (refine stepL_ex (v := .slice ao k5 cap) rfl rfl rfl Adds.refl ?_ ?_; (· (intro w' hw'; clear hK; have hs := slice_preB ao ln cap k5 HKc.out.1 w'; go_simp; done)); go_simp; refine hK _ ?_; clear hK K)
                    | (refine stepL_ex (v := .slice ao k8 cap) rfl rfl rfl Adds.refl ?_ ?_; (· (intro w' hw'; clear hK; have hs := slice_preB ao ln cap k8 HKc.out.2 w'; go_simp; done)); go_simp; refine hK _ ?_; clear hK K)
                    | (refine stepL_key (f := 15) (args := #[.slice ao k5 cap]) 133 rfl rfl rfl rfl ?_ (fun w' hw' => HSl.out w' hw') ?_; (· (intro w'; clear hK; go_simp)); refine hK _ ?_; clear hK K)
                    | (refine stepL_ex1 (v := .string (str SB)) rfl rfl Adds.refl ?_ ?_; (· (intro w' u hw' hu; refine ⟨rfl, ?_⟩; clear hK; have hS := strAt hu; go_simp)); go_simp; refine hK _ ?_; clear hK K)
                    | (refine stepL_ex (v := .string (str SB)) rfl rfl rfl Adds.refl ?_ ?_; (· (intro w' hw'; clear hK; have hS := strAt (HTb.out w' hw'); go_simp; done)); go_simp; refine hK _ ?_; clear hK K)
                    | (refine stepL_ex (v := .agg #[.slice aop fl capp, .int .i64 (c1 : Int), .int .i64 (c2 : Int), .int .i64 (c3 : Int)]) rfl rfl rfl Adds.refl ?_ ?_; (· (intro w' hw'; clear hK; obtain ⟨c0, c1, c2, c3, c4, c5⟩ := HCx.out w' hw'; go_simp; done)); go_simp; refine hK _ ?_; clear hK K)
                    | (refine stepL_call (v := .bool true) (f := 22) (args := #[.agg #[.slice aop fl capp, .int .i64 (c1 : Int), .int .i64 (c2 : Int), .int .i64 (c3 : Int)]]) rfl rfl rfl ?_ (fun w' hw' => HRt.out w' hw') ?_; (· (intro w'; clear hK; go_simp)); go_simp; refine hK _ ?_; clear hK K))
                  refine wpL_nil ?_
                  intro w4 a4
                  simp only [forL]
                  intro u4 hu4
                  have P4 := Lib.hid (PA.out.adds (Adds.trans (Adds.drew _) a4))
                  have C4 := Lib.hid (CA.out.adds (Adds.trans (Adds.drew _) a4))
                  clear a4 hu4
                  have s0 := P4.out.r2.cell 0; have t0 := P4.out.r2.free 0; have s1 := P4.out.r2.cell 1; have t1 := P4.out.r2.free 1; have s2 := P4.out.r2.cell 2; have t2 := P4.out.r2.free 2; have p0 := P4.out.p2.cell 0; have q0 := P4.out.p2.free 0; have p1 := P4.out.p2.cell 1; have q1 := P4.out.p2.free 1; have p2 := P4.out.p2.cell 2; have q2 := P4.out.p2.free 2; have p3 := P4.out.p2.cell 3; have q3 := P4.out.p2.free 3; have x0 := P4.out.rd.cell 0; have y0 := P4.out.rd.free 0; have x1 := P4.out.rd.cell 1; have y1 := P4.out.rd.free 1; have x2 := P4.out.rd.cell 2; have y2 := P4.out.rd.free 2; have g0 := P4.out.pg.cell 0; have g1 := P4.out.pg.cell 1; have g2 := P4.out.pg.cell 2; have g3 := P4.out.pg.cell 3
                  clear PA CA HCx HTb HSl
                  go_wp2_with fail
                  go_region
                  generalize hw5 : World.drew (World.setCell (World.setCell (World.setCell (World.setCell (World.setCell (World.setCell (World.setCell (w4) ⟨w.heap.size + 1, 0, none⟩ (.slice ao ln cap)) ⟨w.heap.size + 1, 1, none⟩ (.int .i64 (k8 : Int))) ⟨w.heap.size + 1, 2, none⟩ (.int .i64 0)) ⟨w.heap.size + 1 + 1, 0, none⟩ (.slice aop fl capp)) ⟨w.heap.size + 1 + 1, 1, none⟩ (.int .i64 (c1 : Int))) ⟨w.heap.size + 1 + 1, 2, none⟩ (.int .i64 (c2 : Int))) ⟨w.heap.size + 1 + 1, 3, none⟩ (.int .i64 (c3 : Int))) = w5
                  have E1 := Lib.hid (show BkS 75 w5 (w.heap.size + 1) [.slice ao ln cap, .int .i64 (k8 : Int), .int .i64 0] by rw [← hw5]; exact BkS.adds ((((((((P4.out.r2).set 0 (.slice ao ln cap)).set 1 (.int .i64 (k8 : Int))).set 2 (.int .i64 0)).other (by omega) _).other (by omega) _).other (by omega) _).other (by omega) _) (Adds.drew _))
                  have E2 := Lib.hid (show BkS 24 w5 (w.heap.size + 1 + 1) [.slice aop fl capp, .int .i64 (c1 : Int), .int .i64 (c2 : Int), .int .i64 (c3 : Int)] by rw [← hw5]; exact BkS.adds ((((((((P4.out.p2).other (by omega) _).other (by omega) _).other (by omega) _).set 0 (.slice aop fl capp)).set 1 (.int .i64 (c1 : Int))).set 2 (.int .i64 (c2 : Int))).set 3 (.int .i64 (c3 : Int))) (Adds.drew _))
                  have A5 := Lib.hid (show Adds w w5 by rw [← hw5]; exact Adds.trans (Adds.set (Adds.set (Adds.set (Adds.set (Adds.set (Adds.set (Adds.set (P4.out.ad) (by omega) _ _) (by omega) _ _) (by omega) _ _) (by omega) _ _) (by omega) _ _) (by omega) _ _) (by omega) _ _) (Adds.drew _))
                  have C5 := Lib.hid (show CopyO (w.heap.size + 1 + 1 + 1 + 1) w5 (.slice aop fl capp) fs by rw [← hw5]; exact ((C4.out.tn (((TnS.setCell _ _ _ _).trans (TnS.setCell _ _ _ _)).trans (TnS.setCell _ _ _ _)) (by omega)).tn ((((TnS.setCell _ _ _ _).trans (TnS.setCell _ _ _ _)).trans (TnS.setCell _ _ _ _)).trans (TnS.setCell _ _ _ _)) (by omega)).adds (Adds.drew _))
                  clear hw5
                  try simp only [Exit.then]
                  go_wp2
                  try simp only [Exit.inBlock, Exit.then]
                  refine bodyPost_ret (res_bb rfl _ _ _ _ _ _ _ _ _ _ _ _ rfl rfl E1.out E2.out Tryz.underlying75 rfl (by kernel_rfl) Tryz.underlying24 rfl (by kernel_rfl)) rfl ?_
                  rw [hq]
                  exact ⟨_, rfl, copyO_lower C5.out (by omega), A5.out⟩
              · have hq : progQ l = ((k8, 200), emP) := by rw [HQ.out, if_neg (fun h => hst h.1)]
                have HNe := Lib.hid (str_neB hst)
                clear HQ hst HRt0 hk5l hk8l
                go_wp2_with fail
                refine wp_region_loose [133] (fun _ u W => Bytes W.heap.size W u SB) Adds (by kernel_rfl) (by kernel_rfl) (by simp) Adds.refl (fun _ _ _ h k => Adds.trans h k) (fun _ _ _ _ h k => k.adds h) ?_
                repeat (refine wpL_step (fun K hK => ?_); first
                  | (refine stepL_skip rfl rfl rfl ?_; go_simp; refine hK _ ?_; clear hK K)
                  | (refine stepL_ex (v := .bool true) rfl rfl rfl Adds.refl ?_ ?_; (· (intro w' hw'; clear hK; have hn := HNe.out; go_simp; done)); go_simp; refine hK _ ?_; clear hK K)
                  | (refine stepL_ex rfl rfl rfl Adds.refl (fun w' hw' => rfl) ?_; go_simp; refine hK _ ?_; clear hK K)
                  | (refine stepL_ex (v := .slice ao ln cap) rfl rfl rfl Adds.refl ?_ ?_; (· (intro w' hw'; clear hK; obtain ⟨c0, c1, c2, c3, c4, c5⟩ := HCx.out w' hw'; go_simp; done)); go_simp; refine hK _ ?_; clear hK K)
                  | (refine stepL_ex (v := .int .i64 (k8 : Int)) rfl rfl rfl Adds.refl ?_ ?_; (· (intro w' hw'; clear hK; obtain ⟨c0, c1, c2, c3, c4, c5⟩ := HCx.out w' hw'; go_simp; done)); go_simp; refine hK _ ?_; clear hK K)
                  | (refine stepL_ex (v := .slice ao k5 cap) rfl rfl rfl Adds.refl ?_ ?_; (· (intro w' hw'; clear hK; have hs := slice_preB ao ln cap k5 HKc.out.1 w'; go_simp; done)); go_simp; refine hK _ ?_; clear hK K)
                  | (refine stepL_ex (v := .slice ao k8 cap) rfl rfl rfl Adds.refl ?_ ?_; (· (intro w' hw'; clear hK; have hs := slice_preB ao ln cap k8 HKc.out.2 w'; go_simp; done)); go_simp; refine hK _ ?_; clear hK K)
                  | (refine stepL_key (f := 15) (args := #[.slice ao k5 cap]) 133 rfl rfl rfl rfl ?_ (fun w' hw' => HSl.out w' hw') ?_; (· (intro w'; clear hK; go_simp)); refine hK _ ?_; clear hK K)
                  | (refine stepL_ex1 (v := .string (str SB)) rfl rfl Adds.refl ?_ ?_; (· (intro w' u hw' hu; refine ⟨rfl, ?_⟩; clear hK; have hS := strAt hu; go_simp)); go_simp; refine hK _ ?_; clear hK K)
                  | (refine stepL_ex (v := .string (str TB)) rfl rfl rfl Adds.refl ?_ ?_; (· (intro w' hw'; clear hK; have hS := strAt (HTb.out w' hw'); go_simp; done)); go_simp; refine hK _ ?_; clear hK K))
                refine wpL_nil ?_
                intro w4 a4
                simp only [forL]
                intro u4 hu4
                have P4 := Lib.hid (PA.out.adds (Adds.trans (Adds.drew _) a4))
                have C4 := Lib.hid (CA.out.adds (Adds.trans (Adds.drew _) a4))
                clear a4 hu4
                have s0 := P4.out.r2.cell 0; have t0 := P4.out.r2.free 0; have s1 := P4.out.r2.cell 1; have t1 := P4.out.r2.free 1; have s2 := P4.out.r2.cell 2; have t2 := P4.out.r2.free 2; have p0 := P4.out.p2.cell 0; have q0 := P4.out.p2.free 0; have p1 := P4.out.p2.cell 1; have q1 := P4.out.p2.free 1; have p2 := P4.out.p2.cell 2; have q2 := P4.out.p2.free 2; have p3 := P4.out.p2.cell 3; have q3 := P4.out.p2.free 3; have x0 := P4.out.rd.cell 0; have y0 := P4.out.rd.free 0; have x1 := P4.out.rd.cell 1; have y1 := P4.out.rd.free 1; have x2 := P4.out.rd.cell 2; have y2 := P4.out.rd.free 2; have g0 := P4.out.pg.cell 0; have g1 := P4.out.pg.cell 1; have g2 := P4.out.pg.cell 2; have g3 := P4.out.pg.cell 3
                clear PA CA HCx HTb HSl
                go_wp2_with fail
                try simp only [Exit.inBlock, Exit.then]
                refine bodyPost_ret (res_bb rfl _ _ _ _ _ _ _ _ _ _ _ _ rfl rfl ((((((((P4.out.bad 200).r2.set 0 (.slice ao ln cap)).set 1 (.int .i64 (k8 : Int))).set 2 (.int .i64 200)).other (by omega) _).other (by omega) _).other (by omega) _).other (by omega) _) ((((((((P4.out.bad 200).p2.other (by omega) _).other (by omega) _).other (by omega) _).set 0 (.slice none 0 0)).set 1 (.int .i64 0)).set 2 (.int .i64 0)).set 3 (.int .i64 0)) Tryz.underlying75 rfl (by kernel_rfl) Tryz.underlying24 rfl (by kernel_rfl)) rfl ?_
                exact ⟨.slice none 0 0, rfl, CopyO.nil _ _, Adds.set (Adds.set (Adds.set (Adds.set (Adds.set (Adds.set (Adds.set ((P4.out.bad 200).ad) (by omega) _ _) (by omega) _ _) (by omega) _ _) (by omega) _ _) (by omega) _ _) (by omega) _ _) (by omega) _ _⟩
          · have hbq : (b5 == 0) = false := by simp [hb]
            have HQ : progQ l = ((k5, b5), emP) := by
              unfold progQ pgQ
              rw [HS.out]
              simp only [HX1.out, HX2.out, HX3.out, HX4.out]
              rw [← HFq.out, HE]
              unfold finQ endQ
              simp [hb]
            have s0 := HP.out.r2.cell 0; have t0 := HP.out.r2.free 0; have s1 := HP.out.r2.cell 1; have t1 := HP.out.r2.free 1; have s2 := HP.out.r2.cell 2; have t2 := HP.out.r2.free 2; have p0 := HP.out.p2.cell 0; have q0 := HP.out.p2.free 0; have p1 := HP.out.p2.cell 1; have q1 := HP.out.p2.free 1; have p2 := HP.out.p2.cell 2; have q2 := HP.out.p2.free 2; have p3 := HP.out.p2.cell 3; have q3 := HP.out.p2.free 3
            clear HE HFq HC HK5 HFl HX1 HX2 HX3 HX4 HS HN HN2 HI hb
            go_wp2_with fail
            try simp only [Exit.inBlock, Exit.then]
            refine bodyPost_ret (res_bb rfl _ _ _ _ _ _ _ _ _ _ _ _ rfl rfl (((((((HP.out.r2.set 0 (.slice ao ln cap)).set 1 (.int .i64 (k5 : Int))).set 2 (.int .i64 b5)).other (by omega) _).other (by omega) _).other (by omega) _).other (by omega) _) (((((((HP.out.p2.other (by omega) _).other (by omega) _).other (by omega) _).set 0 (.slice none 0 0)).set 1 (.int .i64 0)).set 2 (.int .i64 0)).set 3 (.int .i64 0)) Tryz.underlying75 rfl (by kernel_rfl) Tryz.underlying24 rfl (by kernel_rfl)) rfl ?_
            exact ⟨.slice none 0 0, rfl, CopyO.nil _ _, Adds.set (Adds.set (Adds.set (Adds.set (Adds.set (Adds.set (Adds.set (HP.out.ad) (by omega) _ _) (by omega) _ _) (by omega) _ _) (by omega) _ _) (by omega) _ _) (by omega) _ _) (by omega) _ _⟩
end Go.Proofs.YthhegcngkpfcoaaGreatDoor
