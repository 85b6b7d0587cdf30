/- Unwrite: its contract. -/
import Derived.Test.YtedllkahalfjgaaWF6
namespace Go.Proofs.Ytedllkahalfjgaa
open Go Go.RowKit

set_option maxRecDepth 100000 in
set_option maxHeartbeats 2000000 in
theorem unwriteW_any {m : Nat} {w : World} {v : Value} {O : Nat → Prop} {ls : List Lk} (h : HasL m w v O ls) (i : Int) :
    Calls Try.prog 37 #[v, .int .i64 i] w (Goes m w v O (unwriteL ls i) (.tuple #[.int .i64 (unwriteW ls i), .int .i64 (unwriteE ls i)])) := by
  have HH := Lib.hid h
  obtain ⟨bp, bl, lv, hp, hO, hls⟩ := h
  obtain rfl := hp.ptr
  have HN := Lib.hid (fun W (ha : Adds w W) => isNoneW_full bp bl W (hp.adds ha).c0)
  have hC := fun (q cap : Nat) (W : World) hh => asked_any (askV ls i) (by simp [askV]) q cap W hh
  simp only [← unwriteE_ask] at hC
  simp only [askV] at hC
  by_cases hi : hasL ls i
  · rw [show decide (¬ hasL ls i) = false by simp [hi]] at hC
    rw [hls] at hi
    obtain ⟨n, x, hin, hx, hn, hat⟩ := has_at hi
    rw [← hls] at hat
    have HT := Lib.hid (at_yes n hp hn)
    rw [← hin] at HT
    rw [hat] at hC
    have HW := Lib.hid (fun W (ha : Adds w W) => hasWriter_at bl (n * 3) (decide (x.lk.wr ≠ 0)) W ((hp.adds ha).at_ hx).2.2)
    obtain ⟨r2, hr2⟩ : ∃ r2, decide (x.lk.wr ≠ 0) = r2 := ⟨_, rfl⟩
    rw [hr2] at HW hC
    have HC := Lib.hid hC
    by_cases he : unwriteE ls i = 0
    · rw [he] at HC
      obtain ⟨g1, g2⟩ := unwriteE_good he
      have HR := Lib.hid (fun W (ha : Adds w W) => unwrite_any (hp.adds ha) hx)
      have HL := Lib.hid (show unwriteL ls i = (lv.map LM.lk).set n ⟨x.lk.rd, 0⟩ by unfold unwriteL; rw [if_pos he, hat, hin, hls]; rfl)
      have hw : unwriteW ls i = whoW x.lk.wr := by unfold unwriteW; rw [if_pos he, hat]
      have HO := Lib.hid hO
      rw [hw, he]
      generalize whoW x.lk.wr = who at *
      clear hC hls hp hO hi hin hx hn hat he hr2 hw
      go_enter Try.func37, Try.ntmps37
      go_wp2
      refine wp_scope_fwd 0 rfl ?_
      go_wp2_with (first
        | (go_at_call 50; refine HT.out.mono ?_; rintro e w1 ⟨rfl, ha⟩; have HA := Lib.hid ha.adds; clear ha)
        | (go_at_call 52; refine (HN.out _ HA.out).mono ?_; rintro e w2 ⟨rfl, rfl⟩)
        | (go_at_call 69; refine (HW.out _ HA.out).mono ?_; rintro e w2 ⟨rfl, rfl⟩)
        | (go_at_call 38; refine (HC.out _ _ _ (fun k v hk => ((BkS.new _ _ _).cell k).trans hk)).mono ?_; rintro e w2 ⟨rfl, ha⟩; have HA2 := Lib.hid (Adds.trans HA.out (Adds.trans (Gr.new _ _).adds ha.adds)); clear ha)
        | (go_at_call 74; refine (HR.out _ HA2.out).mono ?_; rintro e w3 ⟨rfl, h1⟩; have H1 := Lib.hid h1; clear h1))
      simp only [Exit.jump]
      go_ret2
      obtain ⟨e1, e2, e3⟩ := H1.out
      refine ⟨rfl, _, ⟨bp, bl, _, e1, rfl, ?_⟩, ?_, ?_⟩
      · rw [HL.out, List.map_set]
      · rw [HO.out]; exact (TnO.of_adds _ HA2.out).trans e2
      · rw [HO.out]; exact fun k hk => (e3 k hk).imp id (Nat.le_trans HA2.out.size)
    · have HL := Lib.hid (show unwriteL ls i = ls by unfold unwriteL; rw [if_neg he])
      have hw : unwriteW ls i = 0 := by unfold unwriteW; rw [if_neg he]
      rw [hw]
      obtain ⟨er, her⟩ : ∃ er, unwriteE ls i = er := ⟨_, rfl⟩
      rw [her] at HC he ⊢
      clear hC hls hp hO hi her hin hx hn hat hr2 hw
      go_enter Try.func37, Try.ntmps37
      go_wp2
      refine wp_scope_fwd 0 rfl ?_
      go_wp2_with (first
        | (go_at_call 50; refine HT.out.mono ?_; rintro e w1 ⟨rfl, ha⟩; have HA := Lib.hid ha.adds; clear ha)
        | (go_at_call 52; refine (HN.out _ HA.out).mono ?_; rintro e w2 ⟨rfl, rfl⟩)
        | (go_at_call 69; refine (HW.out _ HA.out).mono ?_; rintro e w2 ⟨rfl, rfl⟩)
        | (go_at_call 38; refine (HC.out _ _ _ (fun k v hk => ((BkS.new _ _ _).cell k).trans hk)).mono ?_; rintro e w2 ⟨rfl, ha⟩; have HA2 := Lib.hid (Adds.trans HA.out (Adds.trans (Gr.new _ _).adds ha.adds)); clear ha))
      go_step3
      refine ⟨rfl, ?_⟩
      go_wp2
      rw [Exit.noGoto_ret]
      go_ret2
      rw [HL.out]
      exact Goes.same HH.out (Nat.le_refl m) HA2.out
  · have he : unwriteE ls i ≠ 0 := fun e => hi ((unwriteE_good e).1)
    rw [show decide (¬ hasL ls i) = true by simp [hi], atL_no hi] at hC
    have HC := Lib.hid hC
    have HT := Lib.hid (at_no i hp (by rw [← hls]; exact hi))
    have HW := Lib.hid (fun W => hasWriter_nil W)
    have HL := Lib.hid (show unwriteL ls i = ls by unfold unwriteL; rw [if_neg he])
    have hw : unwriteW ls i = 0 := by unfold unwriteW; rw [if_neg he]
    rw [hw]
    obtain ⟨er, her⟩ : ∃ er, unwriteE ls i = er := ⟨_, rfl⟩
    rw [her] at HC he ⊢
    clear hC hls hp hO hi her hw
    go_enter Try.func37, Try.ntmps37
    go_wp2
    refine wp_scope_fwd 0 rfl ?_
    go_wp2_with (first
        | (go_at_call 50; refine HT.out.mono ?_; rintro e w1 ⟨rfl, rfl⟩)
        | (go_at_call 52; refine (HN.out _ (Adds.refl _)).mono ?_; rintro e w2 ⟨rfl, rfl⟩)
        | (go_at_call 69; refine (HW.out _).mono ?_; rintro e w2 ⟨rfl, rfl⟩)
        | (go_at_call 38; refine (HC.out _ _ _ (fun k v hk => ((BkS.new _ _ _).cell k).trans hk)).mono ?_; rintro e w2 ⟨rfl, ha⟩; have HA2 := Lib.hid (Adds.trans (Gr.new _ _).adds ha.adds); clear ha))
    go_step3
    refine ⟨rfl, ?_⟩
    go_wp2
    rw [Exit.noGoto_ret]
    go_ret2
    rw [HL.out]
    exact Goes.same HH.out (Nat.le_refl m) HA2.out
end Go.Proofs.Ytedllkahalfjgaa
