/- Read, Write, Unread, Unwrite: their contracts. -/
import Derived.Test.YtedllkahalfjgaaWF5
namespace Go.Proofs.Ytedllkahalfjgaa
open Go Go.RowKit

theorem outB_may (b : Int) : outB b 65535 = decide (¬ mayI b) := by
  unfold outB mayI
  by_cases h : b < 0
  · simp [h]
  · by_cases h1 : 65535 < b
    · simp [h1]
    · simp [h, h1]
def askR (ls : List Lk) (i b : Int) : List (Bool × Int) := [(false, 1), (outB b 65535, 2), (decide (¬ hasL ls i), 4), (decide ((atL ls i).wr ≠ 0), 240)]
def askW (ls : List Lk) (i b : Int) : List (Bool × Int) := [(false, 1), (outB b 65535, 2), (decide (¬ hasL ls i), 4), (decide ((atL ls i).wr ≠ 0), 240), (decide ((atL ls i).rd.length ≠ 0), 241)]
def askU (ls : List Lk) (i b : Int) : List (Bool × Int) := [(false, 1), (outB b 65535, 2), (decide (¬ hasL ls i), 4), (!decide ((atL ls i).rd.length ≠ 0), 242)]
def askV (ls : List Lk) (i : Int) : List (Bool × Int) := [(false, 1), (decide (¬ hasL ls i), 4), (!decide ((atL ls i).wr ≠ 0), 242)]
theorem readE_ask (ls : List Lk) (i b : Int) : readE ls i b = askedE (askR ls i b) := by
  unfold readE rightE askR
  rw [outB_may]
  by_cases h1 : mayI b
  · by_cases h2 : hasL ls i
    · by_cases h3 : (atL ls i).wr = 0 <;> simp [h1, h2, h3, askedE]
    · simp [h1, h2, askedE]
  · simp [h1, askedE]
theorem writeE_ask (ls : List Lk) (i b : Int) : writeE ls i b = askedE (askW ls i b) := by
  unfold writeE rightE askW
  rw [outB_may]
  by_cases h1 : mayI b
  · by_cases h2 : hasL ls i
    · by_cases h3 : (atL ls i).wr = 0
      · by_cases h4 : (atL ls i).rd = [] <;> simp [h1, h2, h3, h4, askedE]
      · simp [h1, h2, h3, askedE]
    · simp [h1, h2, askedE]
  · simp [h1, askedE]
theorem unreadE_ask (ls : List Lk) (i b : Int) : unreadE ls i b = askedE (askU ls i b) := by
  unfold unreadE rightE askU
  rw [outB_may]
  by_cases h1 : mayI b
  · by_cases h2 : hasL ls i
    · by_cases h4 : (atL ls i).rd = [] <;> simp [h1, h2, h4, askedE]
    · simp [h1, h2, askedE]
  · simp [h1, askedE]
theorem unwriteE_ask (ls : List Lk) (i : Int) : unwriteE ls i = askedE (askV ls i) := by
  unfold unwriteE askV
  by_cases h2 : hasL ls i
  · by_cases h3 : (atL ls i).wr = 0 <;> simp [h2, h3, askedE]
  · simp [h2, askedE]
theorem has_at {lv : List LM} {i : Int} (h : hasL (lv.map LM.lk) i) : ∃ n x, i = ((n : Nat) : Int) ∧ lv[n]? = some x ∧ n < lv.length ∧ atL (lv.map LM.lk) i = x.lk := by
  obtain ⟨h0, h1⟩ := h
  rw [List.length_map] at h1
  refine ⟨i.toNat, lv[i.toNat], by omega, List.getElem?_eq_getElem (by omega), by omega, ?_⟩
  unfold atL
  rw [if_pos h0, List.getD_eq_getElem?_getD, List.getElem?_map, List.getElem?_eq_getElem (by omega)]
  rfl
theorem Goes.same {m n : Nat} {w w' : World} {v : Value} {O : Nat → Prop} {ls : List Lk} {r : Value} (h : HasL m w v O ls) (hn : m ≤ n) (ha : Adds w w') : Goes n w v O ls r (.returned r) w' :=
  ⟨rfl, O, (h.adds ha).up hn, TnO.of_adds O ha, fun _ hk => .inl hk⟩

set_option maxRecDepth 100000 in
set_option maxHeartbeats 2000000 in
theorem readW_any {m : Nat} {w : World} {v : Value} {O : Nat → Prop} {ls : List Lk} (h : HasL m w v O ls) (i b : Int) (hm : m ≤ 1000000) :
    Calls Try.prog 33 #[v, .int .i64 i, .int .i64 b] w (Goes (m + 1) w v O (readL ls i b) (.int .i64 (readE ls i b))) := by
  have HH := Lib.hid h
  obtain ⟨bp, bl, lv, hp, hO, hls⟩ := h
  obtain rfl := hp.ptr
  have HB := Lib.hid (fun W => isOutside_any b 65535 W)
  have HN := Lib.hid (fun W (ha : Adds w W) => isNoneW_full bp bl W (hp.adds ha).c0)
  have HE := Lib.hid (readE_ask ls i b)
  have hC := fun (q cap : Nat) (W : World) hh => asked_any (askR ls i b) (by simp [askR]) q cap W hh
  simp only [← readE_ask] at hC
  simp only [askR] at hC
  obtain ⟨r1, hr1⟩ : ∃ r1, outB b 65535 = r1 := ⟨_, rfl⟩
  rw [hr1] at HB hC
  by_cases hi : hasL ls i
  · rw [show decide (¬ hasL ls i) = false by simp [hi]] at hC
    rw [hls] at hi
    obtain ⟨n, x, hin, hx, hn, hat⟩ := has_at hi
    rw [← hls] at hat
    have HT := Lib.hid (at_yes n hp hn)
    have HW := Lib.hid (fun W (ha : Adds w W) => hasWriter_at bl (n * 3) (decide (x.lk.wr ≠ 0)) W ((hp.adds ha).at_ hx).2.2)
    rw [← hin] at HT
    rw [hat] at hC
    obtain ⟨r2, hr2⟩ : ∃ r2, decide (x.lk.wr ≠ 0) = r2 := ⟨_, rfl⟩
    rw [hr2] at HW hC
    have HC := Lib.hid hC
    by_cases he : readE ls i b = 0
    · rw [he] at HC
      obtain ⟨g1, g2, g3⟩ := readE_good he
      have HR := Lib.hid (fun W (ha : Adds w W) => read_any (hp.adds ha) hx b g1 hm)
      have HL := Lib.hid (show readL ls i b = (lv.map LM.lk).set n ⟨x.lk.rd ++ [b], x.lk.wr⟩ by unfold readL; rw [if_pos he, hat, hin, hls]; rfl)
      have HO := Lib.hid hO
      rw [he]
      clear hC hls hp hO hi hin hx hn hat he g1 g2 g3 hr1 hr2 hm
      go_enter Try.func33, Try.ntmps33
      go_wp2
      refine wp_scope_fwd 0 rfl ?_
      go_wp2_with (first
        | (go_at_call 50; refine HT.out.mono ?_; rintro e w1 ⟨rfl, ha⟩; have HA := Lib.hid ha.adds; clear ha)
        | (go_at_call 52; refine (HN.out _ HA.out).mono ?_; rintro e w2 ⟨rfl, rfl⟩)
        | (go_at_call 39; refine (HB.out _).mono ?_; rintro e w2 ⟨rfl, rfl⟩)
        | (go_at_call 69; refine (HW.out _ HA.out).mono ?_; rintro e w2 ⟨rfl, rfl⟩)
        | (go_at_call 38; refine (HC.out _ _ _ (fun k v hk => ((BkS.new _ _ _).cell k).trans hk)).mono ?_; rintro e w2 ⟨rfl, ha⟩; have HA2 := Lib.hid (Adds.trans HA.out (Adds.trans (Gr.new _ _).adds ha.adds)); clear ha)
        | (go_at_call 70; refine (HR.out _ HA2.out).mono ?_; rintro e w3 ⟨rfl, h1⟩; have H1 := Lib.hid h1; clear h1))
      simp only [Exit.jump]
      go_ret
      obtain ⟨v', e1, e2, e3⟩ := H1.out
      refine ⟨rfl, _, ⟨bp, bl, _, e1, rfl, ?_⟩, ?_, ?_⟩
      · rw [HL.out, List.map_set]
      · rw [HO.out]; exact (TnO.of_adds _ HA2.out).trans e2
      · rw [HO.out]; exact fun k hk => (e3 k hk).imp id (Nat.le_trans HA2.out.size)
    · have HL := Lib.hid (show readL ls i b = ls by unfold readL; rw [if_neg he])
      obtain ⟨er, her⟩ : ∃ er, readE ls i b = er := ⟨_, rfl⟩
      rw [her] at HC he ⊢
      clear hC hls hp hO hi hin hx hn hat hr1 hr2 hm her
      go_enter Try.func33, Try.ntmps33
      go_wp2
      refine wp_scope_fwd 0 rfl ?_
      go_wp2_with (first
        | (go_at_call 50; refine HT.out.mono ?_; rintro e w1 ⟨rfl, ha⟩; have HA := Lib.hid ha.adds; clear ha)
        | (go_at_call 52; refine (HN.out _ HA.out).mono ?_; rintro e w2 ⟨rfl, rfl⟩)
        | (go_at_call 39; refine (HB.out _).mono ?_; rintro e w2 ⟨rfl, rfl⟩)
        | (go_at_call 69; refine (HW.out _ HA.out).mono ?_; rintro e w2 ⟨rfl, rfl⟩)
        | (go_at_call 38; refine (HC.out _ _ _ (fun k v hk => ((BkS.new _ _ _).cell k).trans hk)).mono ?_; rintro e w2 ⟨rfl, ha⟩; have HA2 := Lib.hid (Adds.trans HA.out (Adds.trans (Gr.new _ _).adds ha.adds)); clear ha))
      go_step3
      refine ⟨rfl, ?_⟩
      go_wp2
      rw [Exit.noGoto_ret]
      go_ret
      rw [HL.out]
      exact Goes.same HH.out (Nat.le_succ m) HA2.out
  · have he : readE ls i b ≠ 0 := fun e => hi (readE_good e).2.1
    rw [show decide (¬ hasL ls i) = true by simp [hi], show (atL ls i).wr = 0 by rw [atL_no hi]] at hC
    have HC := Lib.hid hC
    have HT := Lib.hid (at_no i hp (by rw [← hls]; exact hi))
    have HW := Lib.hid (fun W => hasWriter_nil W)
    have HL := Lib.hid (show readL ls i b = ls by unfold readL; rw [if_neg he])
    obtain ⟨er, her⟩ : ∃ er, readE ls i b = er := ⟨_, rfl⟩
    rw [her] at HC he ⊢
    clear hC hls hp hO hi hr1 hm her
    go_enter Try.func33, Try.ntmps33
    go_wp2
    refine wp_scope_fwd 0 rfl ?_
    go_wp2_with (first
      | (go_at_call 50; refine HT.out.mono ?_; rintro e w1 ⟨rfl, rfl⟩)
      | (go_at_call 52; refine (HN.out _ (Adds.refl _)).mono ?_; rintro e w2 ⟨rfl, rfl⟩)
      | (go_at_call 39; refine (HB.out _).mono ?_; rintro e w2 ⟨rfl, rfl⟩)
      | (go_at_call 69; refine (HW.out _).mono ?_; rintro e w2 ⟨rfl, rfl⟩)
      | (go_at_call 38; refine (HC.out _ _ _ (fun k v hk => ((BkS.new _ _ _).cell k).trans hk)).mono ?_; rintro e w2 ⟨rfl, ha⟩; have HA2 := Lib.hid (Adds.trans (Gr.new _ _).adds ha.adds); clear ha))
    go_step3
    refine ⟨rfl, ?_⟩
    go_wp2
    rw [Exit.noGoto_ret]
    go_ret
    rw [HL.out]
    exact Goes.same HH.out (Nat.le_succ m) HA2.out
end Go.Proofs.Ytedllkahalfjgaa
