/- Write: its contract. -/
import Derived.Test.YtedllkahalfjgaaWF6
namespace Go.Proofs.Ytedllkahalfjgaa
open Go Go.RowKit

set_option maxRecDepth 100000 in
set_option maxHeartbeats 2000000 in
theorem writeW_any {m : Nat} {w : World} {v : Value} {O : Nat → Prop} {ls : List Lk} (h : HasL m w v O ls) (i b : Int) :
    Calls Try.prog 34 #[v, .int .i64 i, .int .i64 b] w (Goes m w v O (writeL ls i b) (.int .i64 (writeE ls i b))) := by
  have HH := Lib.hid h
  obtain ⟨bp, bl, lv, hp, hO, hls⟩ := h
  obtain rfl := hp.ptr
  have HB := Lib.hid (fun W => isOutside_any b 65535 W)
  have HN := Lib.hid (fun W (ha : Adds w W) => isNoneW_full bp bl W (hp.adds ha).c0)
  have hC := fun (q cap : Nat) (W : World) hh => asked_any (askW ls i b) (by simp [askW]) q cap W hh
  simp only [← writeE_ask] at hC
  simp only [askW] at hC
  obtain ⟨r1, hr1⟩ : ∃ r1, outB b 65535 = r1 := ⟨_, rfl⟩
  rw [hr1] at HB hC
  by_cases hi : hasL ls i
  · rw [show decide (¬ hasL ls i) = false by simp [hi]] at hC
    rw [hls] at hi
    obtain ⟨n, x, hin, hx, hn, hat⟩ := has_at hi
    rw [← hls] at hat
    have HT := Lib.hid (at_yes n hp hn)
    rw [← hin] at HT
    rw [hat] at hC
    have HW := Lib.hid (fun W (ha : Adds w W) => hasWriter_at bl (n * 3) (decide (x.lk.wr ≠ 0)) W ((hp.adds ha).at_ hx).2.2)
    obtain ⟨r2, hr2⟩ : ∃ r2, decide (x.lk.wr ≠ 0) = r2 := ⟨_, rfl⟩
    rw [hr2] at HW hC
    obtain ⟨ao, cp, hsv, _, _⟩ := (hp.row n x hx).form
    have HD := Lib.hid (fun W (ha : Adds w W) => hasReaders_at bl (n * 3) ao x.lk.rd.length cp W (by rw [← hsv]; exact ((hp.adds ha).at_ hx).1))
    obtain ⟨r3, hr3⟩ : ∃ r3, decide (x.lk.rd.length ≠ 0) = r3 := ⟨_, rfl⟩
    rw [hr3] at HD hC
    have HC := Lib.hid hC
    by_cases he : writeE ls i b = 0
    · rw [he] at HC
      obtain ⟨g1, g2, g3⟩ := writeE_good he
      have HR := Lib.hid (fun W (ha : Adds w W) => write_any (hp.adds ha) hx b g1)
      have HL := Lib.hid (show writeL ls i b = (lv.map LM.lk).set n ⟨x.lk.rd, b + 1⟩ by unfold writeL; rw [if_pos he, hat, hin, hls]; rfl)
      have HO := Lib.hid hO
      rw [he]
      clear hC hls hp hO hi hin hx hn hat he hr1 hr2 hr3 hsv
      go_enter Try.func34, Try.ntmps34
      go_wp2
      refine wp_scope_fwd 0 rfl ?_
      go_wp2_with (first
        | (go_at_call 50; refine HT.out.mono ?_; rintro e w1 ⟨rfl, ha⟩; have HA := Lib.hid ha.adds; clear ha)
        | (go_at_call 52; refine (HN.out _ HA.out).mono ?_; rintro e w2 ⟨rfl, rfl⟩)
        | (go_at_call 39; refine (HB.out _).mono ?_; rintro e w2 ⟨rfl, rfl⟩)
        | (go_at_call 69; refine (HW.out _ HA.out).mono ?_; rintro e w2 ⟨rfl, rfl⟩)
        | (go_at_call 71; refine (HD.out _ HA.out).mono ?_; rintro e w2 ⟨rfl, rfl⟩)
        | (go_at_call 38; refine (HC.out _ _ _ (fun k v hk => ((BkS.new _ _ _).cell k).trans hk)).mono ?_; rintro e w2 ⟨rfl, ha⟩; have HA2 := Lib.hid (Adds.trans HA.out (Adds.trans (Gr.new _ _).adds ha.adds)); clear ha)
        | (go_at_call 72; refine (HR.out _ HA2.out).mono ?_; rintro e w3 ⟨rfl, h1⟩; have H1 := Lib.hid h1; clear h1))
      simp only [Exit.jump]
      go_ret
      obtain ⟨e1, e2, e3⟩ := H1.out
      refine ⟨rfl, _, ⟨bp, bl, _, e1, rfl, ?_⟩, ?_, ?_⟩
      · rw [HL.out, List.map_set]
      · rw [HO.out]; exact (TnO.of_adds _ HA2.out).trans e2
      · rw [HO.out]; exact fun k hk => (e3 k hk).imp id (Nat.le_trans HA2.out.size)
    · have HL := Lib.hid (show writeL ls i b = ls by unfold writeL; rw [if_neg he])
      obtain ⟨er, her⟩ : ∃ er, writeE ls i b = er := ⟨_, rfl⟩
      rw [her] at HC he ⊢
      clear hC hls hp hO hi her hr1 hin hx hn hat hr2 hr3 hsv
      go_enter Try.func34, Try.ntmps34
      go_wp2
      refine wp_scope_fwd 0 rfl ?_
      go_wp2_with (first
        | (go_at_call 50; refine HT.out.mono ?_; rintro e w1 ⟨rfl, ha⟩; have HA := Lib.hid ha.adds; clear ha)
        | (go_at_call 52; refine (HN.out _ HA.out).mono ?_; rintro e w2 ⟨rfl, rfl⟩)
        | (go_at_call 39; refine (HB.out _).mono ?_; rintro e w2 ⟨rfl, rfl⟩)
        | (go_at_call 69; refine (HW.out _ HA.out).mono ?_; rintro e w2 ⟨rfl, rfl⟩)
        | (go_at_call 71; refine (HD.out _ HA.out).mono ?_; rintro e w2 ⟨rfl, rfl⟩)
        | (go_at_call 38; refine (HC.out _ _ _ (fun k v hk => ((BkS.new _ _ _).cell k).trans hk)).mono ?_; rintro e w2 ⟨rfl, ha⟩; have HA2 := Lib.hid (Adds.trans HA.out (Adds.trans (Gr.new _ _).adds ha.adds)); clear ha))
      go_step3
      refine ⟨rfl, ?_⟩
      go_wp2
      rw [Exit.noGoto_ret]
      go_ret
      rw [HL.out]
      exact Goes.same HH.out (Nat.le_refl m) HA2.out
  · have he : writeE ls i b ≠ 0 := fun e => hi ((writeE_good e).2.1)
    rw [show decide (¬ hasL ls i) = true by simp [hi], atL_no hi] at hC
    have HC := Lib.hid hC
    have HT := Lib.hid (at_no i hp (by rw [← hls]; exact hi))
    have HW := Lib.hid (fun W => hasWriter_nil W)
    have HD := Lib.hid (fun W => hasReaders_nil W)
    have HL := Lib.hid (show writeL ls i b = ls by unfold writeL; rw [if_neg he])
    obtain ⟨er, her⟩ : ∃ er, writeE ls i b = er := ⟨_, rfl⟩
    rw [her] at HC he ⊢
    clear hC hls hp hO hi her hr1
    go_enter Try.func34, Try.ntmps34
    go_wp2
    refine wp_scope_fwd 0 rfl ?_
    go_wp2_with (first
        | (go_at_call 50; refine HT.out.mono ?_; rintro e w1 ⟨rfl, rfl⟩)
        | (go_at_call 52; refine (HN.out _ (Adds.refl _)).mono ?_; rintro e w2 ⟨rfl, rfl⟩)
        | (go_at_call 39; refine (HB.out _).mono ?_; rintro e w2 ⟨rfl, rfl⟩)
        | (go_at_call 69; refine (HW.out _).mono ?_; rintro e w2 ⟨rfl, rfl⟩)
        | (go_at_call 71; refine (HD.out _).mono ?_; rintro e w2 ⟨rfl, rfl⟩)
        | (go_at_call 38; refine (HC.out _ _ _ (fun k v hk => ((BkS.new _ _ _).cell k).trans hk)).mono ?_; rintro e w2 ⟨rfl, ha⟩; have HA2 := Lib.hid (Adds.trans (Gr.new _ _).adds ha.adds); clear ha))
    go_step3
    refine ⟨rfl, ?_⟩
    go_wp2
    rw [Exit.noGoto_ret]
    go_ret
    rw [HL.out]
    exact Goes.same HH.out (Nat.le_refl m) HA2.out
end Go.Proofs.Ytedllkahalfjgaa
