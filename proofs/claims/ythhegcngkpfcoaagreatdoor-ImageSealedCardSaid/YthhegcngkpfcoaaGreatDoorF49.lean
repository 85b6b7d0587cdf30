/- Merged: MR8, M12, MW. -/
import Derived.Test.YthhegcngkpfcoaaGreatDoorF48
import Derived.Test.YthhegcngkpfcoaaGreatDoorF44
import Derived.Lib.SlBytesConst
import Derived.Test.YthhegcngkpfcoaaGreatDoorF46
import Derived.Test.YthhegcngkpfcoaaGreatDoorF21
namespace Go.Proofs.YthhegcngkpfcoaaGreatDoor
open Go Go.RowKit Go.Shelf Go.Lib

set_option maxRecDepth 100000 in
set_option maxHeartbeats 4000000 in
theorem refFirst_any {n : Nat} (v : Value) (l : List UInt8) (w : World) (hv : Bytes n w v l) (hlm : l.length ≤ 70368744177664) : Calls Tryz.prog 18 #[v] w fun e w' => ∃ pv, e = .returned (.tuple #[pgV pv (progQ l).2, .int .i64 ((progQ l).1.1 : Int), .int .i64 (progQ l).1.2]) ∧ CopyO w.heap.size w' pv (progQ l).2.1 ∧ Adds w w' := by
  have HP := Lib.hid (fun (W : World) (h : Adds w W) => rprog v l W (hv.here.adds h) hlm)
  obtain ⟨ao, cap, rfl, _, _, _⟩ := hv
  obtain ⟨ln, hln⟩ : ∃ ln, l.length = ln := ⟨_, rfl⟩
  obtain ⟨⟨⟨k, b⟩, ⟨fs, y1, y2, y3⟩⟩, hq⟩ : ∃ q, progQ l = q := ⟨_, rfl⟩
  rw [hq, hln] at HP
  rw [hq, hln]
  clear hln hq hlm
  simp only at HP ⊢
  obtain ⟨fl, hfl⟩ : ∃ fl, fs.length = fl := ⟨_, rfl⟩
  have HFl := Lib.hid hfl
  clear hfl
  have B0 := Lib.hid (BkS.new 24 w [.slice none 0 0, .int .i64 0, .int .i64 0, .int .i64 0])
  go_enter Tryz.func18, Tryz.ntmps18
  go_wp2_with (go_at_call 29; refine (HP.out _ (Adds.new _ _)).mono ?_; rintro e w2 ⟨pv, rfl, fu, a2⟩; obtain ⟨ap, cp, ep⟩ := fu.form; rw [HFl.out] at ep; subst ep; have FU2 := Lib.hid fu; have HA2 := Lib.hid (Adds.trans (Adds.new _ _) a2); have X0 := Lib.hid (B0.out.adds a2); obtain ⟨kz, hkz⟩ : ∃ kz, w2.heap.size = kz := ⟨_, rfl⟩; have hlt := X0.out.lt; obtain ⟨wz, hwz⟩ : ∃ wz, (w2.alloc (.cells #[.slice none 0 0, .int .i64 0, .int .i64 0] 75)).alloc (.cells #[.slice none 0 0, .int .i64 0, .int .i64 0, .int .i64 0] 24) = wz := ⟨_, rfl⟩; have AZ2 := Lib.hid (show Adds w2 wz by rw [← hwz]; exact two_adds _ _ _); have AZ := Lib.hid (Adds.trans HA2.out AZ2.out); have Z0 := Lib.hid (X0.out.adds AZ2.out); have Z1 := Lib.hid (show BkS 75 wz kz [.slice none 0 0, .int .i64 0, .int .i64 0] by rw [← hwz, ← hkz]; exact (BkS.new _ _ _).adds (Adds.new _ _)); have Z2 := Lib.hid (show BkS 24 wz (kz + 1) [.slice none 0 0, .int .i64 0, .int .i64 0, .int .i64 0] by rw [← hwz, ← hkz]; exact two_new _ _ _); rw [hkz] at hlt; have q0 : ¬ kz = w.heap.size := (by omega); have q1 : ¬ w.heap.size = kz := (by omega); have q2 : ¬ kz + 1 = w.heap.size := (by omega); have q3 : ¬ w.heap.size = kz + 1 := (by omega); have q4 : w.heap.size ≤ kz := (by omega); obtain ⟨wf, hwf⟩ : ∃ wf, (((((((wz).setCell ⟨kz, 0, none⟩ (.slice ao ln cap)).setCell ⟨kz, 1, none⟩ (.int .i64 (k : Int))).setCell ⟨kz, 2, none⟩ (.int .i64 b)).setCell ⟨kz + 1, 0, none⟩ (.slice ap fl cp)).setCell ⟨kz + 1, 1, none⟩ (.int .i64 y1)).setCell ⟨kz + 1, 2, none⟩ (.int .i64 y2)).setCell ⟨kz + 1, 3, none⟩ (.int .i64 y3) = wf := ⟨_, rfl⟩; have D0 := Lib.hid (show BkS 24 wf w.heap.size [.slice none 0 0, .int .i64 0, .int .i64 0, .int .i64 0] by rw [← hwf]; exact (((((((Z0.out).other (by omega) _).other (by omega) _).other (by omega) _).other (by omega) _).other (by omega) _).other (by omega) _).other (by omega) _); have D1 := Lib.hid (show BkS 75 wf kz [.slice ao ln cap, .int .i64 (k : Int), .int .i64 b] by rw [← hwf]; exact (((((((Z1.out).set 0 _).set 1 _).set 2 _).other (by omega) _).other (by omega) _).other (by omega) _).other (by omega) _); have D2 := Lib.hid (show BkS 24 wf (kz + 1) [.slice ap fl cp, .int .i64 y1, .int .i64 y2, .int .i64 y3] by rw [← hwf]; exact (((((((Z2.out).other (by omega) _).other (by omega) _).other (by omega) _).set 0 _).set 1 _).set 2 _).set 3 _); have AF := Lib.hid (show Adds w wf by rw [← hwf]; exact Adds.set (Adds.set (Adds.set (Adds.set (Adds.set (Adds.set (Adds.set (AZ.out) (by omega) _ _) (by omega) _ _) (by omega) _ _) (by omega) _ _) (by omega) _ _) (by omega) _ _) (by omega) _ _); have A2F := Lib.hid (show Adds w2 wf by rw [← hwf]; exact Adds.set (Adds.set (Adds.set (Adds.set (Adds.set (Adds.set (Adds.set (AZ2.out) (by omega) _ _) (by omega) _ _) (by omega) _ _) (by omega) _ _) (by omega) _ _) (by omega) _ _) (by omega) _ _); have zr0 := Z1.out.cell 0; have zrf0 := Z1.out.free 0; have zr1 := Z1.out.cell 1; have zrf1 := Z1.out.free 1; have zr2 := Z1.out.cell 2; have zrf2 := Z1.out.free 2; have zp0 := Z2.out.cell 0; have zpf0 := Z2.out.free 0; have zp1 := Z2.out.cell 1; have zpf1 := Z2.out.free 1; have zp2 := Z2.out.cell 2; have zpf2 := Z2.out.free 2; have zp3 := Z2.out.cell 3; have zpf3 := Z2.out.free 3; have dr0 := D1.out.cell 0; have dr1 := D1.out.cell 1; have dr2 := D1.out.cell 2; have dp0 := D2.out.cell 0; have dp1 := D2.out.cell 1; have dp2 := D2.out.cell 2; have dp3 := D2.out.cell 3; have d00 := D0.out.cell 0; have d0f0 := D0.out.free 0; have d01 := D0.out.cell 1; have d0f1 := D0.out.free 1; have d02 := D0.out.cell 2; have d0f2 := D0.out.free 2; have d03 := D0.out.cell 3; have d0f3 := D0.out.free 3; clear fu a2 hlt q4 HP)
  go_region
  generalize hw5 : World.drew (World.setCell (World.setCell (World.setCell (World.setCell (wf) ⟨w.heap.size, 0, none⟩ (.slice ap fl cp)) ⟨w.heap.size, 1, none⟩ (.int .i64 y1)) ⟨w.heap.size, 2, none⟩ (.int .i64 y2)) ⟨w.heap.size, 3, none⟩ (.int .i64 y3)) = w5
  have E0 := Lib.hid (show BkS 24 w5 w.heap.size [.slice ap fl cp, .int .i64 y1, .int .i64 y2, .int .i64 y3] by rw [← hw5]; exact BkS.adds (((((D0.out).set 0 _).set 1 _).set 2 _).set 3 _) (Adds.drew _))
  have A5 := Lib.hid (show Adds w w5 by rw [← hw5]; exact Adds.trans (Adds.set (Adds.set (Adds.set (Adds.set (AF.out) (Nat.le_refl _) _ _) (Nat.le_refl _) _ _) (Nat.le_refl _) _ _) (Nat.le_refl _) _ _) (Adds.drew _))
  have C5 := Lib.hid (show CopyO w.heap.size w5 (.slice ap fl cp) fs by rw [← hw5]; exact copyO_lower (((FU2.out.adds A2F.out).tn ((((TnS.setCell _ _ _ _).trans (TnS.setCell _ _ _ _)).trans (TnS.setCell _ _ _ _)).trans (TnS.setCell _ _ _ _)) (by simp)).adds (Adds.drew _)) (by simp))
  clear hw5
  try simp only [Exit.then]
  go_wp2
  try simp only [Exit.inBlock, Exit.then]
  refine bodyPost_ret (res_box3 rfl _ _ _ _ _ _ _ rfl E0.out Tryz.underlying24 rfl (by kernel_rfl)) rfl ?_
  exact ⟨_, rfl, C5.out, A5.out⟩
theorem decI_q {l : List UInt8} {k : Nat} {b : Int} {p : Pg} (h : progQ l = ((k, b), p)) : decI l = if b = 0 then (if k < l.length then (emP, 200) else (p, 0)) else (emP, b) := by
  unfold decI
  rcases hi : imgK l 0 with ⟨q, j⟩ | e
  · have h1 := (progQ_is l).1 _ _ hi
    rw [h] at h1
    simp only [Prod.mk.injEq] at h1
    obtain ⟨⟨rfl, rfl⟩, rfl⟩ := h1
    rw [if_pos rfl]
  · obtain ⟨j, h1⟩ := (progQ_is l).2 _ hi
    rw [h] at h1
    simp only [Prod.mk.injEq] at h1
    obtain ⟨⟨rfl, rfl⟩, rfl⟩ := h1
    rw [if_neg (ne_of_err (imgK_err hi))]
set_option maxRecDepth 100000 in
set_option maxHeartbeats 4000000 in
theorem refDecodeM_any {n : Nat} (v : Value) (l : List UInt8) (w : World) (hv : Bytes n w v l) (hlm : l.length ≤ 70368744177664) : Calls Tryz.prog 16 #[v] w (DecPost (decI l) w) := by
  have HP := Lib.hid (fun (W : World) (h : Adds w W) => refFirst_any v l W (hv.here.adds h) hlm)
  obtain ⟨ao, cap, rfl, _, _, _⟩ := hv
  obtain ⟨⟨⟨k, b⟩, ⟨fs, y1, y2, y3⟩⟩, hq⟩ : ∃ q, progQ l = q := ⟨_, rfl⟩
  have hd := decI_q hq
  obtain ⟨ln, hln⟩ : ∃ ln, l.length = ln := ⟨_, rfl⟩
  rw [hq, hln] at HP
  rw [hln] at hd
  unfold DecPost
  rw [hd, hln]
  clear hln hq hlm hd
  simp only at HP
  obtain ⟨fl, hfl⟩ : ∃ fl, fs.length = fl := ⟨_, rfl⟩
  have HFl := Lib.hid hfl
  clear hfl
  have B0 := Lib.hid (BkS.new 24 w [.slice none 0 0, .int .i64 0, .int .i64 0, .int .i64 0])
  by_cases hb : b = 0
  · subst hb
    rw [if_pos rfl]
    by_cases hk : k < ln
    · rw [if_pos hk]
      have hkI : (k : Int) < (ln : Int) := by omega
      clear hk
      go_enter Tryz.func16, Tryz.ntmps16
      go_wp2_with (go_at_call 18; refine (HP.out _ (Adds.new _ _)).mono ?_; rintro e w2 ⟨pv, rfl, fu, a2⟩; obtain ⟨ap, cp, ep⟩ := fu.form; rw [HFl.out] at ep; subst ep; have FU2 := Lib.hid fu; have HA2 := Lib.hid (Adds.trans (Adds.new _ _) a2); obtain ⟨wf, hwf⟩ : ∃ wf, w2.alloc (.cells #[.slice ap fl cp, .int .i64 y1, .int .i64 y2, .int .i64 y3] 24) = wf := ⟨_, rfl⟩; have A2F := Lib.hid (show Adds w2 wf by rw [← hwf]; exact Adds.new _ _); have D0 := Lib.hid ((B0.out.adds a2).adds A2F.out); have D2 := Lib.hid (show BkS 24 wf w2.heap.size [.slice ap fl cp, .int .i64 y1, .int .i64 y2, .int .i64 y3] by rw [← hwf]; exact BkS.new _ _ _); have AF := Lib.hid (Adds.trans HA2.out A2F.out); have dp0 := D2.out.cell 0; have dp1 := D2.out.cell 1; have dp2 := D2.out.cell 2; have dp3 := D2.out.cell 3; have d00 := D0.out.cell 0; have d0f0 := D0.out.free 0; have d01 := D0.out.cell 1; have d0f1 := D0.out.free 1; have d02 := D0.out.cell 2; have d0f2 := D0.out.free 2; have d03 := D0.out.cell 3; have d0f3 := D0.out.free 3; clear fu a2 HP)
      try simp only [Exit.inBlock, Exit.then]
      refine bodyPost_ret (res_box2 rfl _ _ _ _ _ _ _ rfl (((((D0.out).set 0 _).set 1 _).set 2 _).set 3 _) Tryz.underlying24 rfl (by kernel_rfl)) rfl ?_
      exact ⟨.slice none 0 0, rfl, CopyO.nil _ _, Adds.set (Adds.set (Adds.set (Adds.set (AF.out) (Nat.le_refl _) _ _) (Nat.le_refl _) _ _) (Nat.le_refl _) _ _) (Nat.le_refl _) _ _⟩
    · rw [if_neg hk]
      have hkI : ¬ (k : Int) < (ln : Int) := by omega
      clear hk
      go_enter Tryz.func16, Tryz.ntmps16
      go_wp2_with (go_at_call 18; refine (HP.out _ (Adds.new _ _)).mono ?_; rintro e w2 ⟨pv, rfl, fu, a2⟩; obtain ⟨ap, cp, ep⟩ := fu.form; rw [HFl.out] at ep; subst ep; have FU2 := Lib.hid fu; have HA2 := Lib.hid (Adds.trans (Adds.new _ _) a2); obtain ⟨wf, hwf⟩ : ∃ wf, w2.alloc (.cells #[.slice ap fl cp, .int .i64 y1, .int .i64 y2, .int .i64 y3] 24) = wf := ⟨_, rfl⟩; have A2F := Lib.hid (show Adds w2 wf by rw [← hwf]; exact Adds.new _ _); have D0 := Lib.hid ((B0.out.adds a2).adds A2F.out); have D2 := Lib.hid (show BkS 24 wf w2.heap.size [.slice ap fl cp, .int .i64 y1, .int .i64 y2, .int .i64 y3] by rw [← hwf]; exact BkS.new _ _ _); have AF := Lib.hid (Adds.trans HA2.out A2F.out); have dp0 := D2.out.cell 0; have dp1 := D2.out.cell 1; have dp2 := D2.out.cell 2; have dp3 := D2.out.cell 3; have d00 := D0.out.cell 0; have d0f0 := D0.out.free 0; have d01 := D0.out.cell 1; have d0f1 := D0.out.free 1; have d02 := D0.out.cell 2; have d0f2 := D0.out.free 2; have d03 := D0.out.cell 3; have d0f3 := D0.out.free 3; clear fu a2 HP)
      try simp only [Exit.inBlock, Exit.then]
      refine bodyPost_ret (res_box2 rfl _ _ _ _ _ _ _ rfl (((((D0.out).set 0 _).set 1 _).set 2 _).set 3 _) Tryz.underlying24 rfl (by kernel_rfl)) rfl ?_
      exact ⟨_, rfl, copyO_lower ((FU2.out.adds A2F.out).tn ((((TnS.setCell _ _ _ _).trans (TnS.setCell _ _ _ _)).trans (TnS.setCell _ _ _ _)).trans (TnS.setCell _ _ _ _)) (by simp)) (by simp), Adds.set (Adds.set (Adds.set (Adds.set (AF.out) (Nat.le_refl _) _ _) (Nat.le_refl _) _ _) (Nat.le_refl _) _ _) (Nat.le_refl _) _ _⟩
  · rw [if_neg hb]
    have hbq : (b == 0) = false := by simp [hb]
    clear hb
    go_enter Tryz.func16, Tryz.ntmps16
    go_wp2_with (go_at_call 18; refine (HP.out _ (Adds.new _ _)).mono ?_; rintro e w2 ⟨pv, rfl, fu, a2⟩; obtain ⟨ap, cp, ep⟩ := fu.form; rw [HFl.out] at ep; subst ep; have FU2 := Lib.hid fu; have HA2 := Lib.hid (Adds.trans (Adds.new _ _) a2); obtain ⟨wf, hwf⟩ : ∃ wf, w2.alloc (.cells #[.slice ap fl cp, .int .i64 y1, .int .i64 y2, .int .i64 y3] 24) = wf := ⟨_, rfl⟩; have A2F := Lib.hid (show Adds w2 wf by rw [← hwf]; exact Adds.new _ _); have D0 := Lib.hid ((B0.out.adds a2).adds A2F.out); have D2 := Lib.hid (show BkS 24 wf w2.heap.size [.slice ap fl cp, .int .i64 y1, .int .i64 y2, .int .i64 y3] by rw [← hwf]; exact BkS.new _ _ _); have AF := Lib.hid (Adds.trans HA2.out A2F.out); have dp0 := D2.out.cell 0; have dp1 := D2.out.cell 1; have dp2 := D2.out.cell 2; have dp3 := D2.out.cell 3; have d00 := D0.out.cell 0; have d0f0 := D0.out.free 0; have d01 := D0.out.cell 1; have d0f1 := D0.out.free 1; have d02 := D0.out.cell 2; have d0f2 := D0.out.free 2; have d03 := D0.out.cell 3; have d0f3 := D0.out.free 3; clear fu a2 HP)
    try simp only [Exit.inBlock, Exit.then]
    refine bodyPost_ret (res_box2 rfl _ _ _ _ _ _ _ rfl (((((D0.out).set 0 _).set 1 _).set 2 _).set 3 _) Tryz.underlying24 rfl (by kernel_rfl)) rfl ?_
    exact ⟨.slice none 0 0, rfl, CopyO.nil _ _, Adds.set (Adds.set (Adds.set (Adds.set (AF.out) (Nat.le_refl _) _ _) (Nat.le_refl _) _ _) (Nat.le_refl _) _ _) (Nat.le_refl _) _ _⟩
end Go.Proofs.YthhegcngkpfcoaaGreatDoor
namespace Go.Proofs.YthhegcngkpfcoaaGreatDoor
open Go Go.RowKit Go.Lib Go.Shelf

def EncPost (p : Pg) (w : World) (e : Ending) (w' : World) : Prop := ∃ v, e = .returned (.tuple #[v, .int .i64 (encI p).2]) ∧ OwnB w' w.heap.size v (encI p).1 ∧ Adds w w'
theorem wat_new (w : World) : WAt w.heap.size (w.alloc (.cells #[.slice none 0 0] 63)) [] :=
  ⟨_, (BkS.new 63 w [.slice none 0 0]).cell 0, (BkS.new 63 w [.slice none 0 0]).free 0, OwnB.nil _ _, by simp⟩
set_option maxRecDepth 100000 in
set_option maxHeartbeats 4000000 in
theorem mencode {n : Nat} (u : Value) (p : Pg) (w : World) (hv : MVars w) (hf : FuncsW n w u p.1) : Calls Tryz.prog 8 #[pgV u p] w (EncPost p w) := by
  have HF := Lib.hid hf
  have HV := Lib.hid hv
  obtain ⟨ao, cap, rfl, _, _, _⟩ := hf
  obtain ⟨w1, hw1⟩ : ∃ w1, w.alloc (.cells (pgC (.slice ao p.1.length cap) p).toArray 24) = w1 := ⟨_, rfl⟩
  have A1 := Lib.hid (show Adds w w1 by rw [← hw1]; exact (Gr.new _ _).adds)
  have B1 := Lib.hid (show BkS 24 w1 w.heap.size (pgC (.slice ao p.1.length cap) p) by rw [← hw1]; exact BkS.new _ _ _)
  have HC := Lib.hid (checkP_any _ p w1 (HF.out.adds A1.out))
  obtain ⟨fs, x1, x2, x3⟩ := p
  simp only at B1 HF HC hw1 ⊢
  obtain ⟨fl, hfl⟩ : ∃ fl, fs.length = fl := ⟨_, rfl⟩
  simp only [hfl] at B1 HF HC hw1 ⊢
  have b0 : w1.cell? ⟨w.heap.size, 0, none⟩ = some (.slice ao fl cap) := B1.out.cell 0
  have b1 : w1.cell? ⟨w.heap.size, 1, none⟩ = some (.int .i64 x1) := B1.out.cell 1
  have b2 : w1.cell? ⟨w.heap.size, 2, none⟩ = some (.int .i64 x2) := B1.out.cell 2
  have b3 : w1.cell? ⟨w.heap.size, 3, none⟩ = some (.int .i64 x3) := B1.out.cell 3
  clear hfl hv
  unfold EncPost encI
  by_cases hc : checkP (fs, x1, x2, x3) = 0
  · have HFi := Lib.hid (fine_of hc)
    rw [if_pos hc]
    rw [hc] at HC
    clear hc
    obtain ⟨im, him⟩ : ∃ im, imageB (fs, x1, x2, x3) = im := ⟨_, rfl⟩
    rw [him]
    go_enter Tryz.func8, Tryz.ntmps8
    go_wp2_with (first
      | (go_at_call 20; go_loud (refine HC.out.mono ?_; rintro e w2 ⟨rfl, q⟩; have Q2 := Lib.hid q; have A2 := Lib.hid (Adds.trans A1.out q); have B2 := Lib.hid (B1.out.adds q); have a3 := adds_alloc w2 (.cells #[.slice none 0 0] 63); have A3 := Lib.hid (A2.out.trans a3); have B3 := Lib.hid (B2.out.adds a3); have W3 := Lib.hid (wat_new w2); have c0 : (w2.alloc (.cells #[.slice none 0 0] 63)).cell? ⟨w.heap.size, 0, none⟩ = some (.slice ao fl cap) := B3.out.cell 0; have c1 : (w2.alloc (.cells #[.slice none 0 0] 63)).cell? ⟨w.heap.size, 1, none⟩ = some (.int .i64 x1) := B3.out.cell 1; have c2 : (w2.alloc (.cells #[.slice none 0 0] 63)).cell? ⟨w.heap.size, 2, none⟩ = some (.int .i64 x2) := B3.out.cell 2; have c3 : (w2.alloc (.cells #[.slice none 0 0] 63)).cell? ⟨w.heap.size, 3, none⟩ = some (.int .i64 x3) := B3.out.cell 3; have HIm := Lib.hid (mwimage (n := w2.heap.size) w2.heap.size (.slice ao fl cap) (fs, x1, x2, x3) _ W3.out (HV.out.adds A3.out) ((HV.out.adds A2.out).lt.1) (Nat.le_refl _) ((HF.out.adds A2.out).here.below a3) HFi.out); clear q a3))
      | (go_at_call 21; refine HIm.out.mono ?_; rintro e w4 ⟨rfl, l4, bl4, _⟩; rw [him] at l4; obtain ⟨v, hcv, _, ho, _⟩ := l4; have HO := Lib.hid ho; have HB4 := Lib.hid bl4; clear ho bl4 HIm))
    refine bodyPost_ret (results_two rfl _ _ _) rfl ?_
    exact ⟨v, rfl, HO.out.lower (by have := A2.out.size; omega), Below.trans A3.out (HB4.out.mono A2.out.size)⟩
  · have hc2 : checkP (fs, x1, x2, x3) = 2 := by
      unfold checkP at hc ⊢
      split
      · rename_i h; rw [if_pos h] at hc; exact absurd rfl hc
      · rfl
    rw [if_neg hc]
    rw [hc2] at HC
    clear hc hc2
    go_enter Tryz.func8, Tryz.ntmps8
    go_wp2_with (go_at_call 20; refine HC.out.mono ?_; rintro e w2 ⟨rfl, q⟩; have A2 := Lib.hid (Adds.trans A1.out q); clear q)
    refine bodyPost_ret (results_two rfl _ _ _) rfl ?_
    exact ⟨_, rfl, OwnB.nil _ _, A2.out⟩
end Go.Proofs.YthhegcngkpfcoaaGreatDoor
namespace Go.Proofs.YthhegcngkpfcoaaGreatDoor
open Go Go.RowKit Go.Shelf Go.Lib

theorem num10_any (x : Int) (W : World) : Calls Tryz.prog 11 #[.int .i64 x] W fun e w' => e = .returned (.int .i64 x) ∧ W = w' := by
  go_enter Tryz.func11, Tryz.ntmps11
  go_wp2
  go_ret
  exact ⟨rfl, rfl⟩
def pgW : Pg := ([(1, [(9, 0, 0, 0, 0)])], 1, 0, 0)
def bareW : List UInt8 := [108, 105, 110, 101, 1, 0, 0, 1, 1, 1, 0, 9, 0]
theorem encW2 : (encI pgW).2 = 0 := by decide +kernel
theorem encW1 : (encI pgW).1.length = 21 := by decide +kernel
theorem encWt : (encI pgW).1.take 13 = bareW := by decide +kernel
theorem decW1 : (decI bareW).2 = 110 := by decide +kernel
theorem decW2 : (decI (bareW ++ [0, 0, 0, 0, 0, 0, 0, 0])).2 = 200 := by decide +kernel
theorem decW3 : (decI [108, 105, 110, 102]).2 = 200 := by decide +kernel
theorem decI_emP {l : List UInt8} (h : (decI l).2 ≠ 0) : (decI l).1 = emP := by
  unfold decI at h ⊢
  split
  · rfl
  · rename_i p k hx
    rw [hx] at h
    simp only at h ⊢
    split
    · rfl
    · rename_i hk; rw [if_neg hk] at h; exact absurd rfl h
/-- Decode of what is no image. -/
theorem mdec_bad {n : Nat} (v : Value) (l : List UInt8) (er : Int) (w : World) (hv : Bytes n w v l) (hw : MVars w) (he : (decI l).2 = er) (h0 : er ≠ 0) : Calls Tryz.prog 12 #[v] w fun e w' => (∃ ao cap, e = .returned (.tuple #[.agg #[.slice ao 0 cap, .int .i64 0, .int .i64 0, .int .i64 0], .int .i64 er])) ∧ Adds w w' := by
  refine (mdecode v l w hv hw).mono ?_
  rintro e w' ⟨cv, h1, h2, h3⟩
  rw [he, decI_emP (by rw [he]; exact h0)] at h1
  rw [decI_emP (by rw [he]; exact h0)] at h2
  obtain ⟨ao, cap, rfl⟩ := h2.form
  exact ⟨⟨ao, cap, h1⟩, h3⟩
theorem conv13 (w : World) : (convert 9 27 (.string ⟨#[108, 105, 110, 101, 1, 0, 0, 1, 1, 1, 0, 9, 0]⟩)).run Tryz.prog w = .ok (.slice (some ⟨w.heap.size, 0, none⟩) 13 (grownCap w 13 0 5)) (Lib.bytesWorld w 5 ⟨#[108, 105, 110, 101, 1, 0, 0, 1, 1, 1, 0, 9, 0]⟩) := run_str8 _ w
theorem conv21 (w : World) : (convert 9 27 (.string ⟨#[108, 105, 110, 101, 1, 0, 0, 1, 1, 1, 0, 9, 0, 0, 0, 0, 0, 0, 0, 0, 0]⟩)).run Tryz.prog w = .ok (.slice (some ⟨w.heap.size, 0, none⟩) 21 (grownCap w 21 0 5)) (Lib.bytesWorld w 5 ⟨#[108, 105, 110, 101, 1, 0, 0, 1, 1, 1, 0, 9, 0, 0, 0, 0, 0, 0, 0, 0, 0]⟩) := run_str8 _ w
theorem catW : (⟨#[108, 105, 110, 101, 1, 0, 0, 1, 1, 1, 0, 9, 0]⟩ : ByteArray) ++ ⟨#[0, 0, 0, 0, 0, 0, 0, 0]⟩ = ⟨#[108, 105, 110, 101, 1, 0, 0, 1, 1, 1, 0, 9, 0, 0, 0, 0, 0, 0, 0, 0, 0]⟩ := by
  apply ByteArray.ext; simp
theorem conv21c (w : World) : (convert 9 27 (.string (⟨#[108, 105, 110, 101, 1, 0, 0, 1, 1, 1, 0, 9, 0]⟩ ++ ⟨#[0, 0, 0, 0, 0, 0, 0, 0]⟩))).run Tryz.prog w = .ok (.slice (some ⟨w.heap.size, 0, none⟩) 21 (grownCap w 21 0 5)) (Lib.bytesWorld w 5 ⟨#[108, 105, 110, 101, 1, 0, 0, 1, 1, 1, 0, 9, 0, 0, 0, 0, 0, 0, 0, 0, 0]⟩) := by
  rw [catW]; exact conv21 w
theorem dec13 (w : World) (hw : MVars w) : Calls Tryz.prog 12 #[.slice (some ⟨w.heap.size, 0, none⟩) 13 (grownCap w 13 0 5)] (Lib.bytesWorld w 5 ⟨#[108, 105, 110, 101, 1, 0, 0, 1, 1, 1, 0, 9, 0]⟩) fun e w' => (∃ ao cap, e = .returned (.tuple #[.agg #[.slice ao 0 cap, .int .i64 0, .int .i64 0, .int .i64 0], .int .i64 110])) ∧ Adds w w' := by
  have hb := str_bytes8 w ⟨#[108, 105, 110, 101, 1, 0, 0, 1, 1, 1, 0, 9, 0]⟩ (by decide)
  have ha := str_adds8 w ⟨#[108, 105, 110, 101, 1, 0, 0, 1, 1, 1, 0, 9, 0]⟩
  exact (mdec_bad _ bareW 110 _ hb (hw.adds ha) decW1 (by decide)).mono fun e w' ⟨h1, h2⟩ => ⟨h1, ha.trans h2⟩
theorem dec21 (w : World) (hw : MVars w) : Calls Tryz.prog 12 #[.slice (some ⟨w.heap.size, 0, none⟩) 21 (grownCap w 21 0 5)] (Lib.bytesWorld w 5 ⟨#[108, 105, 110, 101, 1, 0, 0, 1, 1, 1, 0, 9, 0, 0, 0, 0, 0, 0, 0, 0, 0]⟩) fun e w' => (∃ ao cap, e = .returned (.tuple #[.agg #[.slice ao 0 cap, .int .i64 0, .int .i64 0, .int .i64 0], .int .i64 200])) ∧ Adds w w' := by
  have hb := str_bytes8 w ⟨#[108, 105, 110, 101, 1, 0, 0, 1, 1, 1, 0, 9, 0, 0, 0, 0, 0, 0, 0, 0, 0]⟩ (by decide)
  have ha := str_adds8 w ⟨#[108, 105, 110, 101, 1, 0, 0, 1, 1, 1, 0, 9, 0, 0, 0, 0, 0, 0, 0, 0, 0]⟩
  exact (mdec_bad _ (bareW ++ [0, 0, 0, 0, 0, 0, 0, 0]) 200 _ hb (hw.adds ha) decW2 (by decide)).mono fun e w' ⟨h1, h2⟩ => ⟨h1, ha.trans h2⟩
theorem lit_mark4 (w : World) (l : List UInt8) (fr : Nat × Nat) (hl : l.length ≤ maxLen) : Bytes (w.heap.size + 1) (w.alloc (.cells (l.map byteV).toArray 5 fr)) (.slice (some ⟨w.heap.size, 0, none⟩) l.length l.length) l := by
  refine ⟨_, _, rfl, Nat.le_refl _, hl, fun _ => ⟨w.heap.size, 0, rfl, by omega, fun i hi => ?_⟩⟩
  rw [cell_of_row _ w.heap.size (0 + i) _ _ _ (heap_alloc_new w _)]
  simp [hi]
theorem conv4 (w : World) : (convert 27 27 (.slice (some ⟨w.heap.size, 0, none⟩) 4 4)).run Tryz.prog (w.alloc (.cells #[.int .u8 108, .int .u8 105, .int .u8 110, .int .u8 102] 5)) = .ok (.slice (some ⟨w.heap.size, 0, none⟩) 4 4) (w.alloc (.cells #[.int .u8 108, .int .u8 105, .int .u8 110, .int .u8 102] 5 (4, 5))) :=
  Lib.run_convert_bytes_const w 27 5 _ 4 4 Tryz.underlying27 Tryz.underlying5
theorem dec4 (w : World) (hw : MVars w) : Calls Tryz.prog 12 #[.slice (some ⟨w.heap.size, 0, none⟩) 4 4] (w.alloc (.cells #[.int .u8 108, .int .u8 105, .int .u8 110, .int .u8 102] 5 (4, 5))) fun e w' => (∃ ao cap, e = .returned (.tuple #[.agg #[.slice ao 0 cap, .int .i64 0, .int .i64 0, .int .i64 0], .int .i64 200])) ∧ Adds w w' := by
  have hb := lit_mark4 w [108, 105, 110, 102] (4, 5) (by simp [maxLen])
  have ha := adds_alloc w (.cells #[.int .u8 108, .int .u8 105, .int .u8 110, .int .u8 102] 5 (4, 5))
  exact (mdec_bad _ [108, 105, 110, 102] 200 _ hb (hw.adds ha) decW3 (by decide)).mono fun e w' ⟨h1, h2⟩ => ⟨h1, ha.trans h2⟩
theorem okW : OkIn (9, 0, 0, 0, 0) := ⟨by decide, by decide⟩
theorem funcsW (w : World) : FuncsW (w.heap.size + 1 + 1) ((w.alloc (.cells #[.int .i64 9, .int .i64 0, .int .i64 0, .int .i64 0, .int .u32 0] 59)).alloc (.cells #[.int .i64 1, .slice (some ⟨w.heap.size, 0, none⟩) 1 1] 55)) (.slice (some ⟨w.heap.size + 1, 0, none⟩) 1 1) [(1, [(9, 0, 0, 0, 0)])] := by
  have h1 := (BkS.new 59 w (insC (9, 0, 0, 0, 0))).adds (adds_alloc _ (.cells #[.int .i64 1, .slice (some ⟨w.heap.size, 0, none⟩) 1 1] 55))
  have h2 := BkS.new 55 (w.alloc (.cells #[.int .i64 9, .int .i64 0, .int .i64 0, .int .i64 0, .int .u32 0] 59)) [.int .i64 1, .slice (some ⟨w.heap.size, 0, none⟩) 1 1]
  rw [World.size_alloc] at h2
  refine ⟨_, 1, rfl, Nat.le_refl _, by show 1 ≤ maxLen; unfold maxLen; omega, fun _ => ⟨_, 0, rfl, by omega, fun i hi => ?_⟩⟩
  have hi1 : i = 0 := by simp at hi; exact hi
  subst hi1
  refine ⟨h2.cell 0, _, h2.cell 1, ⟨_, 1, rfl, Nat.le_refl _, by show 1 ≤ maxLen; unfold maxLen; omega, fun _ => ⟨_, 0, rfl, by omega, fun i hi => ?_⟩⟩, fun x hx => ?_⟩
  · have hi1 : i = 0 := by simp at hi; exact hi
    subst hi1
    exact ⟨h1.cell 0, h1.cell 1, h1.cell 2, h1.cell 3, h1.cell 4⟩
  · simp at hx; subst hx; exact okW
def EncW (w : World) (e : Ending) (w' : World) : Prop := ∃ ao cap, e = .returned (.tuple #[.slice ao 21 cap, .int .i64 0]) ∧ (∃ l : List UInt8, l.length = 21 ∧ l.take 13 = bareW ∧ Bytes w'.heap.size w' (.slice ao 21 cap) l) ∧ Adds w w'
theorem encW (w : World) (hv : MVars w) : Calls Tryz.prog 8 #[.agg #[.slice (some ⟨w.heap.size + 1, 0, none⟩) 1 1, .int .i64 1, .int .i64 0, .int .i64 0]]
    (((w.alloc (.cells #[.int .i64 9, .int .i64 0, .int .i64 0, .int .i64 0, .int .u32 0] 59)).alloc (.cells #[.int .i64 1, .slice (some ⟨w.heap.size, 0, none⟩) 1 1] 55)).alloc (.cells #[.slice (some ⟨w.heap.size + 1, 0, none⟩) 1 1, .int .i64 1, .int .i64 0, .int .i64 0] 24)) (EncW w) := by
  have A : Adds w (((w.alloc (.cells #[.int .i64 9, .int .i64 0, .int .i64 0, .int .i64 0, .int .u32 0] 59)).alloc (.cells #[.int .i64 1, .slice (some ⟨w.heap.size, 0, none⟩) 1 1] 55)).alloc (.cells #[.slice (some ⟨w.heap.size + 1, 0, none⟩) 1 1, .int .i64 1, .int .i64 0, .int .i64 0] 24)) := (((Gr.new _ _).alloc _).alloc _).adds
  refine (mencode _ pgW _ (hv.adds A) ((funcsW w).adds (adds_alloc _ _))).mono ?_
  rintro e w' ⟨v, h1, h2, h3⟩
  obtain ⟨ao, cap, hv, _⟩ := id h2.bytes
  rw [encW1] at hv
  subst hv
  rw [encW2] at h1
  exact ⟨ao, cap, h1, ⟨_, encW1, encWt, h2.bytes⟩, A.trans h3⟩
set_option maxRecDepth 100000 in
set_option maxHeartbeats 4000000 in
theorem worksM (w : World) (hv : MVars w) : Calls Tryz.prog 7 #[] w (TrueAdds w) := by
  have HV := Lib.hid hv; clear hv
  have hn := num10_any
  have hc13 := conv13
  go_enter Tryz.func7, Tryz.ntmps7
  go_wp2_with (first
    | (go_at_call 8; refine (encW w HV.out).mono ?_; rintro e w1 ⟨ao, cap, rfl, ⟨l, hl1, hl2, hb⟩, a1⟩; have A1 := Lib.hid a1; have HB1 := Lib.hid hb; have HD1 := Lib.hid (dec13 w1 (HV.out.adds A1.out)); have HL := Lib.hid (And.intro hl1 hl2); have hcap : 21 ≤ cap := (by obtain ⟨_, _, e, e1, _⟩ := hb; simp only [Value.slice.injEq] at e; omega); clear a1 hb hl1 hl2)
    | (go_at_call 12; refine HD1.out.mono ?_; rintro e w2 ⟨⟨ao2, cap2, rfl⟩, a2⟩; have ay := adds_alloc w2 (.cells #[.slice ao2 0 cap2, .int .i64 0, .int .i64 0, .int .i64 0] 24); have A2 := Lib.hid ((A1.out.trans a2).trans ay); have HB2 := Lib.hid ((HB1.out.adds a2).adds ay); obtain ⟨sB, hsB⟩ : ∃ s : ByteArray, s = ⟨#[108, 105, 110, 101, 1, 0, 0, 1, 1, 1, 0, 9, 0]⟩ := ⟨_, rfl⟩; rw [← hsB]; have HSB := Lib.hid hsB; have hszB : sB.size = 13 := (by rw [hsB]; rfl); have hc21 := conv21c (w2.alloc (.cells #[.slice ao2 0 cap2, .int .i64 0, .int .i64 0, .int .i64 0] 24)); rw [← hsB] at hc21; have hd := dec21 (w2.alloc (.cells #[.slice ao2 0 cap2, .int .i64 0, .int .i64 0, .int .i64 0] 24)) (HV.out.adds A2.out); obtain ⟨wz, hwz⟩ : ∃ wz, Lib.bytesWorld (w2.alloc (.cells #[.slice ao2 0 cap2, .int .i64 0, .int .i64 0, .int .i64 0] 24)) 5 ⟨#[108, 105, 110, 101, 1, 0, 0, 1, 1, 1, 0, 9, 0, 0, 0, 0, 0, 0, 0, 0, 0]⟩ = wz := ⟨_, rfl⟩; obtain ⟨gz, hgz⟩ : ∃ gz, grownCap (w2.alloc (.cells #[.slice ao2 0 cap2, .int .i64 0, .int .i64 0, .int .i64 0] 24)) 21 0 5 = gz := ⟨_, rfl⟩; rw [hwz, hgz, World.size_alloc] at hc21 hd; have HD := Lib.hid hd; clear hc13 hsB hwz hgz hd HD1; clear a2 ay)
    | (go_at_call 12; refine HD.out.mono ?_; rintro e w3 ⟨⟨ao3, cap3, rfl⟩, a3⟩; have ay := adds_alloc w3 (.cells #[.slice ao3 0 cap3, .int .i64 0, .int .i64 0, .int .i64 0] 24); have A3 := Lib.hid ((A2.out.trans a3).trans ay); have HB3 := Lib.hid ((HB2.out.adds a3).adds ay); have hc4 := conv4 (w3.alloc (.cells #[.slice ao3 0 cap3, .int .i64 0, .int .i64 0, .int .i64 0] 24)); have hd := dec4 (w3.alloc (.cells #[.slice ao3 0 cap3, .int .i64 0, .int .i64 0, .int .i64 0] 24)) (HV.out.adds A3.out); rw [World.size_alloc] at hc4 hd; have HD4 := Lib.hid hd; clear hc21 hd HD; clear a3 ay)
    | (go_at_call 12; refine HD4.out.mono ?_; rintro e w4 ⟨⟨ao4, cap4, rfl⟩, a4⟩; have ay := adds_alloc w4 (.cells #[.slice ao4 0 cap4, .int .i64 0, .int .i64 0, .int .i64 0] 24); have A4 := Lib.hid ((A3.out.trans a4).trans ay); have HB4 := Lib.hid ((HB3.out.adds a4).adds ay); have hcv : (convert 27 9 (.slice ao 13 cap)).run Tryz.prog (w4.alloc (.cells #[.slice ao4 0 cap4, .int .i64 0, .int .i64 0, .int .i64 0] 24)) = .ok (.string sB) (w4.alloc (.cells #[.slice ao4 0 cap4, .int .i64 0, .int .i64 0, .int .i64 0] 24)) := (by have h := bytes_pre (x := 13) (by rw [HL.out.1]; exact HB4.out) (by rw [HL.out.1]; decide); rw [HL.out.2] at h; rw [HSB.out]; exact strAt h); clear hc4 HD4; clear a4 ay)
    | (go_at_call 11; refine (hn _ _).mono ?_; rintro e w9 ⟨rfl, rfl⟩))
  go_ret
  exact ⟨rfl, A4.out⟩
end Go.Proofs.YthhegcngkpfcoaaGreatDoor
