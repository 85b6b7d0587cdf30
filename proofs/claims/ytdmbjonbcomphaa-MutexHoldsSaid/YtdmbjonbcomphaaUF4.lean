/- Lock, Unlock, Holder, Len: their contracts. -/
import Derived.Test.YtdmbjonbcomphaaUF3
namespace Go.Proofs.Ytdmbjonbcomphaa
open Go Go.RowKit Go.Maps

def lockE (l : List Int) (i c : Int) : Int := if 0 ≤ c ∧ c ≤ 65535 then if 0 ≤ i ∧ i < l.length then if atL l i = 0 then 0 else 230 else 4 else 2
def lockL (l : List Int) (i c : Int) : List Int := if lockE l i c = 0 then l.set i.toNat (c + 1) else l
def unlockE (l : List Int) (i : Int) : Int := if 0 ≤ i ∧ i < l.length then if atL l i = 0 then 231 else 0 else 4
def unlockL (l : List Int) (i : Int) : List Int := if unlockE l i = 0 then l.set i.toNat 0 else l
def unlockW (l : List Int) (i : Int) : Int := if unlockE l i = 0 then atL l i - 1 else 0
theorem lockL_length (l : List Int) (i c : Int) : (lockL l i c).length = l.length := by unfold lockL; split <;> simp
theorem unlockL_length (l : List Int) (i : Int) : (unlockL l i).length = l.length := by unfold unlockL; split <;> simp

/-- What a call leaves: the same mutexes, other holders; nothing else has turned. -/
def Goes (w : World) (v : Value) (bp b : Nat) (l' : List Int) (r : Value) (e : Ending) (w' : World) : Prop := e = .returned r ∧ MutP w' v bp b l' ∧ TnS b w w'
theorem lockE_good {l : List Int} {i c : Int} (h : lockE l i c = 0) : 0 ≤ c ∧ c ≤ 65535 ∧ 0 ≤ i ∧ i < l.length ∧ atL l i = 0 := by
  unfold lockE at h
  split at h
  · split at h
    · split at h
      · rename_i h1 h2 h3; exact ⟨h1.1, h1.2, h2.1, h2.2, h3⟩
      · omega
    · omega
  · omega
set_option maxHeartbeats 2000000 in
theorem lock_any (v : Value) (bp b : Nat) (l : List Int) (i c : Int) (w : World) (h : MutP w v bp b l) (hi : In64 i) :
    Calls Try.prog 19 #[v, .int .i64 i, .int .i64 c] w (Goes w v bp b (lockL l i c) (.int .i64 (lockE l i c))) := by
  have hl := h.len
  obtain rfl := h.ptr
  have HM := Lib.hid h
  have HN := Lib.hid (isNoneU_full bp b w (h.blk.cell 0))
  have HT := Lib.hid (fun (W : World) (ha : Adds w W) => there_any bp b i ((l.length : Nat) : Int) (by omega) W (h.blk.adds ha))
  have HC := Lib.hid (fun (k cap : Nat) (W : World) hh hk => asked_two ⟨c, 0, 65535, 2⟩ ⟨i, 0, ((l.length : Nat) : Int) - 1, 4⟩ k cap W hh hk)
  obtain ⟨z, hz⟩ : ∃ z : Int, ((l.length : Nat) : Int) = z := ⟨_, rfl⟩
  have HZ := Lib.hid hz
  have HI := Lib.hid hi
  by_cases hc : 0 ≤ c ∧ c ≤ 65535
  · by_cases hr : 0 ≤ i ∧ i < l.length
    · have e1 : (AskU.mk c 0 65535 2).ok = true := by simp [AskU.ok]; omega
      have e2 : (AskU.mk i 0 (((l.length : Nat) : Int) - 1) 4).ok = true := by simp [AskU.ok]; omega
      rw [e1, e2] at HC
      by_cases hn : atL l i = 0
      · have HE := Lib.hid (show lockE l i c = 0 by unfold lockE; rw [if_pos hc, if_pos hr, if_pos hn])
        have HQ := Lib.hid (fun (W : World) (ha : Adds w W) => take_yes b l i c W (h.map.adds ha) h.len hr.1 hr.2 hn hc.1)
        have HR := Lib.hid (And.intro hc hr)
        rw [HE.out]
        rw [hz] at HT HC
        clear h hl hz hi hc hr hn e1 e2
        go_enter Try.func19, Try.ntmps19
        go_wp2
        refine wp_scope_fwd 0 rfl ?_
        go_wp2_with (first
          | (go_at_call 25; refine HN.out.mono ?_; rintro e w1 ⟨rfl, rfl⟩)
          | (go_at_call 28; refine (HT.out _ (Adds.refl _)).mono ?_; rintro e w1 ⟨rfl, ha⟩; have HA := Lib.hid ha; clear ha)
          | (go_at_call 21; refine (HC.out _ _ _ (fun k v hk => ((BkS.new _ _ _).cell k).trans hk) (by simp)).mono ?_; rintro e w2 ⟨rfl, ha⟩; have HA2 := Lib.hid (Adds.trans HA.out (Adds.trans (Gr.new _ _).adds ha)); have cc : w2.cell? ⟨bp, 0, none⟩ = some (.map (some b)) := (HM.out.blk.adds HA2.out).cell 0; clear ha)
          | (go_at_call 33; refine (HQ.out _ HA2.out).mono ?_; rintro e w3 ⟨rfl, h1, h2⟩; have H1 := Lib.hid h1; have H2 := Lib.hid h2; clear h1 h2))
        simp only [Exit.jump]
        go_ret
        have hT : TnS b w w3 := (TnS.of_adds b HA2.out).trans H2.out
        unfold lockL
        rw [if_pos HE.out]
        exact ⟨rfl, (HM.out.adds HA2.out).turn (by simp) (may_set HM.out.may (by have := HR.out.1; omega) _) H1.out H2.out, hT⟩
      · have HE := Lib.hid (show lockE l i c = 230 by unfold lockE; rw [if_pos hc, if_pos hr, if_neg hn])
        have HQ := Lib.hid (fun (W : World) (ha : Adds w W) => take_no b l i c hi W (h.map.adds ha) hn)
        rw [HE.out]
        rw [hz] at HT HC
        clear h hl hz hi
        try clear hc
        try clear hr
        try clear hn
        try clear e1
        try clear e2
        go_enter Try.func19, Try.ntmps19
        go_wp2
        refine wp_scope_fwd 0 rfl ?_
        go_wp2_with (first
          | (go_at_call 25; refine HN.out.mono ?_; rintro e w1 ⟨rfl, rfl⟩)
          | (go_at_call 28; refine (HT.out _ (Adds.refl _)).mono ?_; rintro e w1 ⟨rfl, ha⟩; have HA := Lib.hid ha; clear ha)
          | (go_at_call 21; refine (HC.out _ _ _ (fun k v hk => ((BkS.new _ _ _).cell k).trans hk) (by simp)).mono ?_; rintro e w2 ⟨rfl, ha⟩; have HA2 := Lib.hid (Adds.trans HA.out (Adds.trans (Gr.new _ _).adds ha)); have cc : w2.cell? ⟨bp, 0, none⟩ = some (.map (some b)) := (HM.out.blk.adds HA2.out).cell 0; clear ha)
          | (go_at_call 33; refine (HQ.out _ HA2.out).mono ?_; rintro e w3 ⟨rfl, rfl⟩))
        go_step3
        refine ⟨rfl, ?_⟩
        go_wp2
        rw [Exit.noGoto_ret]
        go_ret
        unfold lockL
        rw [if_neg (by rw [HE.out]; decide)]
        exact ⟨rfl, HM.out.adds HA2.out, TnS.of_adds b HA2.out⟩
    · have e1 : (AskU.mk c 0 65535 2).ok = true := by simp [AskU.ok]; omega
      have e2 : (AskU.mk i 0 (((l.length : Nat) : Int) - 1) 4).ok = false := by simp [AskU.ok]; omega
      rw [e1, e2] at HC
      have HE := Lib.hid (show lockE l i c = 4 by unfold lockE; rw [if_pos hc, if_neg hr])
      rw [HE.out]
      rw [hz] at HT HC
      clear h hl hz hi
      try clear hc
      try clear hr
      try clear hn
      try clear e1
      try clear e2
      go_enter Try.func19, Try.ntmps19
      go_wp2
      refine wp_scope_fwd 0 rfl ?_
      go_wp2_with (first
        | (go_at_call 25; refine HN.out.mono ?_; rintro e w1 ⟨rfl, rfl⟩)
        | (go_at_call 28; refine (HT.out _ (Adds.refl _)).mono ?_; rintro e w1 ⟨rfl, ha⟩; have HA := Lib.hid ha; clear ha)
        | (go_at_call 21; refine (HC.out _ _ _ (fun k v hk => ((BkS.new _ _ _).cell k).trans hk) (by simp)).mono ?_; rintro e w2 ⟨rfl, ha⟩; have HA2 := Lib.hid (Adds.trans HA.out (Adds.trans (Gr.new _ _).adds ha)); have cc : w2.cell? ⟨bp, 0, none⟩ = some (.map (some b)) := (HM.out.blk.adds HA2.out).cell 0; clear ha))
      go_step3
      refine ⟨rfl, ?_⟩
      go_wp2
      rw [Exit.noGoto_ret]
      go_ret
      unfold lockL
      rw [if_neg (by rw [HE.out]; decide)]
      exact ⟨rfl, HM.out.adds HA2.out, TnS.of_adds b HA2.out⟩
  · have e1 : (AskU.mk c 0 65535 2).ok = false := by simp [AskU.ok]; omega
    rw [e1] at HC
    have HE := Lib.hid (show lockE l i c = 2 by unfold lockE; rw [if_neg hc])
    rw [HE.out]
    rw [hz] at HT HC
    clear h hl hz hi
    try clear hc
    try clear hr
    try clear hn
    try clear e1
    try clear e2
    go_enter Try.func19, Try.ntmps19
    go_wp2
    refine wp_scope_fwd 0 rfl ?_
    go_wp2_with (first
      | (go_at_call 25; refine HN.out.mono ?_; rintro e w1 ⟨rfl, rfl⟩)
      | (go_at_call 28; refine (HT.out _ (Adds.refl _)).mono ?_; rintro e w1 ⟨rfl, ha⟩; have HA := Lib.hid ha; clear ha)
      | (go_at_call 21; refine (HC.out _ _ _ (fun k v hk => ((BkS.new _ _ _).cell k).trans hk) (by simp)).mono ?_; rintro e w2 ⟨rfl, ha⟩; have HA2 := Lib.hid (Adds.trans HA.out (Adds.trans (Gr.new _ _).adds ha)); have cc : w2.cell? ⟨bp, 0, none⟩ = some (.map (some b)) := (HM.out.blk.adds HA2.out).cell 0; clear ha))
    go_step3
    refine ⟨rfl, ?_⟩
    go_wp2
    rw [Exit.noGoto_ret]
    go_ret
    unfold lockL
    rw [if_neg (by rw [HE.out]; decide)]
    exact ⟨rfl, HM.out.adds HA2.out, TnS.of_adds b HA2.out⟩

set_option maxHeartbeats 2000000 in
theorem unlock_any (v : Value) (bp b : Nat) (l : List Int) (i : Int) (w : World) (h : MutP w v bp b l) :
    Calls Try.prog 16 #[v, .int .i64 i] w (Goes w v bp b (unlockL l i) (.tuple #[.int .i64 (unlockW l i), .int .i64 (unlockE l i)])) := by
  have hl := h.len
  obtain rfl := h.ptr
  have HM := Lib.hid h
  have HN := Lib.hid (isNoneU_full bp b w (h.blk.cell 0))
  have HT := Lib.hid (fun (W : World) (ha : Adds w W) => there_any bp b i ((l.length : Nat) : Int) (by omega) W (h.blk.adds ha))
  have HC := Lib.hid (fun (k cap : Nat) (W : World) hh => asked_one ⟨i, 0, ((l.length : Nat) : Int) - 1, 4⟩ k cap W hh)
  obtain ⟨z, hz⟩ : ∃ z : Int, ((l.length : Nat) : Int) = z := ⟨_, rfl⟩
  have HZ := Lib.hid hz
  by_cases hr : 0 ≤ i ∧ i < l.length
  · have e2 : (AskU.mk i 0 (((l.length : Nat) : Int) - 1) 4).ok = true := by simp [AskU.ok]; omega
    rw [e2] at HC
    have HQ := Lib.hid (fun (W : World) (ha : Adds w W) => leave_any b l i W (h.map.adds ha) h.len hr.1 hr.2)
    have HR := Lib.hid hr
    by_cases hn : atL l i = 0
    · have HE := Lib.hid (show unlockE l i = 231 by unfold unlockE; rw [if_pos hr, if_pos hn])
      have HS := Lib.hid (show l.set i.toNat 0 = l by
        apply List.ext_getElem?
        intro k
        rw [List.getElem?_set]
        split
        · rename_i e
          subst e
          have h1 := hn
          unfold atL at h1
          rw [if_pos hr.1, List.getD_eq_getElem?_getD] at h1
          rw [if_pos (by omega)]
          rw [List.getElem?_eq_getElem (by omega)] at h1 ⊢
          exact congrArg some h1.symm
        · rfl)
      have hw : unlockW l i = 0 := by unfold unlockW; rw [if_neg (by rw [HE.out]; decide)]
      rw [HE.out, hw]
      rw [show whoL l i = 0 by unfold whoL; rw [if_pos hn], show decide (atL l i ≠ 0) = false by simp [hn]] at HQ
      rw [hz] at HT HC
      clear h hl hz hr hn e2 hw
      go_enter Try.func16, Try.ntmps16
      go_wp2
      refine wp_scope_fwd 0 rfl ?_
      go_wp2_with (first
        | (go_at_call 25; refine HN.out.mono ?_; rintro e w1 ⟨rfl, rfl⟩)
        | (go_at_call 28; refine (HT.out _ (Adds.refl _)).mono ?_; rintro e w1 ⟨rfl, ha⟩; have HA := Lib.hid ha; clear ha)
        | (go_at_call 21; refine (HC.out _ _ _ (fun k v hk => ((BkS.new _ _ _).cell k).trans hk)).mono ?_; rintro e w2 ⟨rfl, ha⟩; have HA2 := Lib.hid (Adds.trans HA.out (Adds.trans (Gr.new _ _).adds ha)); have cc : w2.cell? ⟨bp, 0, none⟩ = some (.map (some b)) := (HM.out.blk.adds HA2.out).cell 0; clear ha)
        | (go_at_call 29; refine (HQ.out _ HA2.out).mono ?_; rintro e w3 ⟨rfl, h1, h2⟩; have H1 := Lib.hid h1; have H2 := Lib.hid h2; clear h1 h2))
      go_step3
      refine ⟨rfl, ?_⟩
      go_wp2
      rw [Exit.noGoto_ret]
      go_ret2
      have hT : TnS b w w3 := (TnS.of_adds b HA2.out).trans H2.out
      have H1' := H1.out
      rw [HS.out] at H1'
      unfold unlockL
      rw [if_neg (by rw [HE.out]; decide)]
      exact ⟨rfl, (HM.out.adds HA2.out).turn rfl HM.out.may H1' H2.out, hT⟩
    · have HE := Lib.hid (show unlockE l i = 0 by unfold unlockE; rw [if_pos hr, if_neg hn])
      have hw : unlockW l i = atL l i - 1 := by unfold unlockW; rw [if_pos HE.out]
      rw [HE.out, hw]
      rw [show whoL l i = atL l i - 1 by unfold whoL; rw [if_neg hn], show decide (atL l i ≠ 0) = true by simp [hn]] at HQ
      generalize atL l i - 1 = y at *
      rw [hz] at HT HC
      clear h hl hz hr hn e2 hw
      go_enter Try.func16, Try.ntmps16
      go_wp2
      refine wp_scope_fwd 0 rfl ?_
      go_wp2_with (first
        | (go_at_call 25; refine HN.out.mono ?_; rintro e w1 ⟨rfl, rfl⟩)
        | (go_at_call 28; refine (HT.out _ (Adds.refl _)).mono ?_; rintro e w1 ⟨rfl, ha⟩; have HA := Lib.hid ha; clear ha)
        | (go_at_call 21; refine (HC.out _ _ _ (fun k v hk => ((BkS.new _ _ _).cell k).trans hk)).mono ?_; rintro e w2 ⟨rfl, ha⟩; have HA2 := Lib.hid (Adds.trans HA.out (Adds.trans (Gr.new _ _).adds ha)); have cc : w2.cell? ⟨bp, 0, none⟩ = some (.map (some b)) := (HM.out.blk.adds HA2.out).cell 0; clear ha)
        | (go_at_call 29; refine (HQ.out _ HA2.out).mono ?_; rintro e w3 ⟨rfl, h1, h2⟩; have H1 := Lib.hid h1; have H2 := Lib.hid h2; clear h1 h2))
      simp only [Exit.jump]
      go_ret2
      have hT : TnS b w w3 := (TnS.of_adds b HA2.out).trans H2.out
      unfold unlockL
      rw [if_pos HE.out]
      exact ⟨rfl, (HM.out.adds HA2.out).turn (by simp) (may_set HM.out.may (by decide) _) H1.out H2.out, hT⟩
  · have e2 : (AskU.mk i 0 (((l.length : Nat) : Int) - 1) 4).ok = false := by simp [AskU.ok]; omega
    rw [e2] at HC
    have HE := Lib.hid (show unlockE l i = 4 by unfold unlockE; rw [if_neg hr])
    have hw : unlockW l i = 0 := by unfold unlockW; rw [if_neg (by rw [HE.out]; decide)]
    rw [HE.out, hw]
    rw [hz] at HT HC
    clear h hl hz hr e2 hw
    go_enter Try.func16, Try.ntmps16
    go_wp2
    refine wp_scope_fwd 0 rfl ?_
    go_wp2_with (first
      | (go_at_call 25; refine HN.out.mono ?_; rintro e w1 ⟨rfl, rfl⟩)
      | (go_at_call 28; refine (HT.out _ (Adds.refl _)).mono ?_; rintro e w1 ⟨rfl, ha⟩; have HA := Lib.hid ha; clear ha)
      | (go_at_call 21; refine (HC.out _ _ _ (fun k v hk => ((BkS.new _ _ _).cell k).trans hk)).mono ?_; rintro e w2 ⟨rfl, ha⟩; have HA2 := Lib.hid (Adds.trans HA.out (Adds.trans (Gr.new _ _).adds ha)); have cc : w2.cell? ⟨bp, 0, none⟩ = some (.map (some b)) := (HM.out.blk.adds HA2.out).cell 0; clear ha))
    go_step3
    refine ⟨rfl, ?_⟩
    go_wp2
    rw [Exit.noGoto_ret]
    go_ret2
    unfold unlockL
    rw [if_neg (by rw [HE.out]; decide)]
    exact ⟨rfl, HM.out.adds HA2.out, TnS.of_adds b HA2.out⟩
theorem holderU_any (v : Value) (bp b : Nat) (l : List Int) (i : Int) (w : World) (h : MutP w v bp b l) (hi : In64 i) :
    Calls Try.prog 17 #[v, .int .i64 i] w fun e w' => e = .returned (.tuple #[.int .i64 (whoL l i), .bool (decide (atL l i ≠ 0))]) ∧ w = w' := by
  obtain rfl := h.ptr
  have c0 : w.cell? ⟨bp, 0, none⟩ = some (.map (some b)) := h.blk.cell 0
  have HN := Lib.hid (isNoneU_full bp b w c0)
  have HH := Lib.hid (holder_any b l i hi w h.map)
  generalize whoL l i = x at *
  generalize decide (atL l i ≠ 0) = y at *
  clear h hi
  go_enter Try.func17, Try.ntmps17
  go_wp2_with (first
    | (go_at_call 25; refine HN.out.mono ?_; rintro e w1 ⟨rfl, rfl⟩)
    | (go_at_call 30; refine HH.out.mono ?_; rintro e w1 ⟨rfl, rfl⟩))
  go_ret2
  exact ⟨rfl, rfl⟩
theorem lenU_any (v : Value) (bp b : Nat) (l : List Int) (w : World) (h : MutP w v bp b l) :
    Calls Try.prog 20 #[v] w fun e w' => e = .returned (.int .i64 ((l.length : Nat) : Int)) ∧ w = w' := by
  obtain rfl := h.ptr
  have c0 : w.cell? ⟨bp, 0, none⟩ = some (.map (some b)) := h.blk.cell 0
  have c1 : w.cell? ⟨bp, 1, none⟩ = some (.int .i64 ((l.length : Nat) : Int)) := h.blk.cell 1
  have HN := Lib.hid (isNoneU_full bp b w c0)
  generalize ((l.length : Nat) : Int) = x at *
  clear h
  go_enter Try.func20, Try.ntmps20
  go_wp2_with (go_at_call 25; refine HN.out.mono ?_; rintro e w1 ⟨rfl, rfl⟩)
  go_ret
  exact ⟨rfl, rfl⟩
end Go.Proofs.Ytdmbjonbcomphaa
