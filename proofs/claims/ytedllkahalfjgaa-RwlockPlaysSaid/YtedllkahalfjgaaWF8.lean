/- Unread: its contract. -/
import Derived.Test.YtedllkahalfjgaaWF6
namespace Go.Proofs.Ytedllkahalfjgaa
open Go Go.RowKit

set_option maxRecDepth 100000 in
set_option maxHeartbeats 2000000 in
theorem unreadW_any {m : Nat} {w : World} {v : Value} {O : Nat → Prop} {ls : List Lk} (h : HasL m w v O ls) (i b : Int) (hm : m ≤ 1000000) :
    Calls Try.prog 35 #[v, .int .i64 i, .int .i64 b] w (Goes m w v O (unreadL ls i b) (.tuple #[.int .i64 (unreadW ls i b), .int .i64 (unreadE ls i b)])) := by
  have HH := Lib.hid h
  obtain ⟨bp, bl, lv, hp, hO, hls⟩ := h
  obtain rfl := hp.ptr
  have HB := Lib.hid (fun W => isOutside_any b 65535 W)
  have HN := Lib.hid (fun W (ha : Adds w W) => isNoneW_full bp bl W (hp.adds ha).c0)
  have hC := fun (q cap : Nat) (W : World) hh => asked_any (askU ls i b) (by simp [askU]) q cap W hh
  simp only [← unreadE_ask] at hC
  simp only [askU] at hC
  obtain ⟨r1, hr1⟩ : ∃ r1, outB b 65535 = r1 := ⟨_, rfl⟩
  rw [hr1] at HB hC
  by_cases hi : hasL ls i
  · rw [show decide (¬ hasL ls i) = false by simp [hi]] at hC
    rw [hls] at hi
    obtain ⟨n, x, hin, hx, hn, hat⟩ := has_at hi
    rw [← hls] at hat
    have HT := Lib.hid (at_yes n hp hn)
    rw [← hin] at HT
    rw [hat] at hC
    obtain ⟨ao, cp, hsv, _, _⟩ := (hp.row n x hx).form
    have HD := Lib.hid (fun W (ha : Adds w W) => hasReaders_at bl (n * 3) ao x.lk.rd.length cp W (by rw [← hsv]; exact ((hp.adds ha).at_ hx).1))
    obtain ⟨r3, hr3⟩ : ∃ r3, decide (x.lk.rd.length ≠ 0) = r3 := ⟨_, rfl⟩
    rw [hr3] at HD hC
    have HC := Lib.hid hC
    by_cases he : unreadE ls i b = 0
    · rw [he] at HC
      obtain ⟨g1, g2, g3⟩ := unreadE_good he
      rw [hat] at g3
      have HR := Lib.hid (fun W (ha : Adds w W) => unread_any (hp.adds ha) hx b g3 hm)
      have HL := Lib.hid (show unreadL ls i b = (lv.map LM.lk).set n ⟨outL x.lk.rd b, x.lk.wr⟩ by unfold unreadL; rw [if_pos he, hat, hin, hls]; rfl)
      have hw : unreadW ls i b = x.lk.rd.getD (placeL x.lk.rd b) 0 := by unfold unreadW; rw [if_pos he, hat]
      have HO := Lib.hid hO
      rw [hw, he]
      generalize x.lk.rd.getD (placeL x.lk.rd b) 0 = who at *
      clear hC hls hp hO hi hin hx hn hat he hr1 hr3 hsv hw
      go_enter Try.func35, Try.ntmps35
      go_wp2
      refine wp_scope_fwd 0 rfl ?_
      go_wp2_with (first
        | (go_at_call 50; refine HT.out.mono ?_; rintro e w1 ⟨rfl, ha⟩; have HA := Lib.hid ha.adds; clear ha)
        | (go_at_call 52; refine (HN.out _ HA.out).mono ?_; rintro e w2 ⟨rfl, rfl⟩)
        | (go_at_call 39; refine (HB.out _).mono ?_; rintro e w2 ⟨rfl, rfl⟩)
        | (go_at_call 71; refine (HD.out _ HA.out).mono ?_; rintro e w2 ⟨rfl, rfl⟩)
        | (go_at_call 38; refine (HC.out _ _ _ (fun k v hk => ((BkS.new _ _ _).cell k).trans hk)).mono ?_; rintro e w2 ⟨rfl, ha⟩; have HA2 := Lib.hid (Adds.trans HA.out (Adds.trans (Gr.new _ _).adds ha.adds)); clear ha)
        | (go_at_call 73; refine (HR.out _ HA2.out).mono ?_; rintro e w3 ⟨rfl, h1⟩; have H1 := Lib.hid h1; clear h1))
      simp only [Exit.jump]
      go_ret2
      obtain ⟨v', e1, e2, e3⟩ := H1.out
      refine ⟨rfl, _, ⟨bp, bl, _, e1, rfl, ?_⟩, ?_, ?_⟩
      · rw [HL.out, List.map_set]
      · rw [HO.out]; exact (TnO.of_adds _ HA2.out).trans e2
      · rw [HO.out]; exact fun k hk => (e3 k hk).imp id (Nat.le_trans HA2.out.size)
    · have HL := Lib.hid (show unreadL ls i b = ls by unfold unreadL; rw [if_neg he])
      have hw : unreadW ls i b = 0 := by unfold unreadW; rw [if_neg he]
      rw [hw]
      obtain ⟨er, her⟩ : ∃ er, unreadE ls i b = er := ⟨_, rfl⟩
      rw [her] at HC he ⊢
      clear hC hls hp hO hi her hr1 hin hx hn hat hr3 hsv hw
      go_enter Try.func35, Try.ntmps35
      go_wp2
      refine wp_scope_fwd 0 rfl ?_
      go_wp2_with (first
        | (go_at_call 50; refine HT.out.mono ?_; rintro e w1 ⟨rfl, ha⟩; have HA := Lib.hid ha.adds; clear ha)
        | (go_at_call 52; refine (HN.out _ HA.out).mono ?_; rintro e w2 ⟨rfl, rfl⟩)
        | (go_at_call 39; refine (HB.out _).mono ?_; rintro e w2 ⟨rfl, rfl⟩)
        | (go_at_call 71; refine (HD.out _ HA.out).mono ?_; rintro e w2 ⟨rfl, rfl⟩)
        | (go_at_call 38; refine (HC.out _ _ _ (fun k v hk => ((BkS.new _ _ _).cell k).trans hk)).mono ?_; rintro e w2 ⟨rfl, ha⟩; have HA2 := Lib.hid (Adds.trans HA.out (Adds.trans (Gr.new _ _).adds ha.adds)); clear ha))
      go_step3
      refine ⟨rfl, ?_⟩
      go_wp2
      rw [Exit.noGoto_ret]
      go_ret2
      rw [HL.out]
      exact Goes.same HH.out (Nat.le_refl m) HA2.out
  · have he : unreadE ls i b ≠ 0 := fun e => hi ((unreadE_good e).2.1)
    rw [show decide (¬ hasL ls i) = true by simp [hi], atL_no hi] at hC
    have HC := Lib.hid hC
    have HT := Lib.hid (at_no i hp (by rw [← hls]; exact hi))
    have HD := Lib.hid (fun W => hasReaders_nil W)
    have HL := Lib.hid (show unreadL ls i b = ls by unfold unreadL; rw [if_neg he])
    have hw : unreadW ls i b = 0 := by unfold unreadW; rw [if_neg he]
    rw [hw]
    obtain ⟨er, her⟩ : ∃ er, unreadE ls i b = er := ⟨_, rfl⟩
    rw [her] at HC he ⊢
    clear hC hls hp hO hi her hr1 hw
    go_enter Try.func35, Try.ntmps35
    go_wp2
    refine wp_scope_fwd 0 rfl ?_
    go_wp2_with (first
        | (go_at_call 50; refine HT.out.mono ?_; rintro e w1 ⟨rfl, rfl⟩)
        | (go_at_call 52; refine (HN.out _ (Adds.refl _)).mono ?_; rintro e w2 ⟨rfl, rfl⟩)
        | (go_at_call 39; refine (HB.out _).mono ?_; rintro e w2 ⟨rfl, rfl⟩)
        | (go_at_call 71; refine (HD.out _).mono ?_; rintro e w2 ⟨rfl, rfl⟩)
        | (go_at_call 38; refine (HC.out _ _ _ (fun k v hk => ((BkS.new _ _ _).cell k).trans hk)).mono ?_; rintro e w2 ⟨rfl, ha⟩; have HA2 := Lib.hid (Adds.trans (Gr.new _ _).adds ha.adds); clear ha))
    go_step3
    refine ⟨rfl, ?_⟩
    go_wp2
    rw [Exit.noGoto_ret]
    go_ret2
    rw [HL.out]
    exact Goes.same HH.out (Nat.le_refl m) HA2.out
end Go.Proofs.Ytedllkahalfjgaa
