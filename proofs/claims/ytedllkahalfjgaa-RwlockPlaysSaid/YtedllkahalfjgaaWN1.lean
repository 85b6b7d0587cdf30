/- What is told of none: Read, Write, Unread, Unwrite, Readers, Writer. And of locks: Readers, Writer, Len. -/
import Derived.Test.YtedllkahalfjgaaWF6
namespace Go.Proofs.Ytedllkahalfjgaa
open Go Go.RowKit

/-- No locks: nil, or ones that New did not make. -/
def NoneW (w : World) (v : Value) : Prop := v = .pointer none ∨ ∃ b, v = .pointer (some ⟨b, 0, none⟩) ∧ BkS 96 w b [.pointer none]
theorem NoneW.adds {w w' : World} {v : Value} (h : NoneW w v) (ha : Adds w w') : NoneW w' v := h.imp id fun ⟨b, e, k⟩ => ⟨b, e, k.adds ha⟩
theorem isNone_none {w : World} {v : Value} (h : NoneW w v) : Calls Try.prog 52 #[v] w fun e w' => e = .returned (.bool true) ∧ w = w' := by
  rcases h with rfl | ⟨b, rfl, k⟩
  · exact isNoneW_nil w
  · exact isNoneW_zero b w (k.cell 0)
theorem len_none {w : World} {v : Value} (h : NoneW w v) : Calls Try.prog 49 #[v] w fun e w' => e = .returned (.int .i64 0) ∧ w = w' := by
  rcases h with rfl | ⟨b, rfl, k⟩
  · exact lenW_nil w
  · exact lenW_zero b w (k.cell 0)
theorem at_none {w : World} {v : Value} (h : NoneW w v) (i : Int) : Calls Try.prog 50 #[v, .int .i64 i] w fun e w' => e = .returned (.pointer none) ∧ w = w' := by
  rcases h with rfl | ⟨b, rfl, k⟩
  · exact at_nil i w
  · exact at_zero b i w (k.cell 0)
set_option maxHeartbeats 1000000 in
theorem read_none {w : World} {v : Value} (h : NoneW w v) (i b : Int) : Calls Try.prog 33 #[v, .int .i64 i, .int .i64 b] w fun e w' => e = .returned (.int .i64 1) ∧ Adds w w' := by
  have HN := Lib.hid (isNone_none h)
  have HT := Lib.hid (at_none h i)
  have HB := Lib.hid (isOutside_any b 65535 w)
  obtain ⟨r1, hr1⟩ : ∃ r1, outB b 65535 = r1 := ⟨_, rfl⟩
  rw [hr1] at HB
  have hC := fun (q cap : Nat) (W : World) hh => asked_any [(true, 1), (r1, 2), (true, 4), (false, 240)] (by simp) q cap W hh
  simp only [askedE] at hC
  have HC := Lib.hid hC
  have HW := Lib.hid (hasWriter_nil w)
  have HD := Lib.hid (hasReaders_nil w)
  clear hC h hr1
  go_enter Try.func33, Try.ntmps33
  go_wp2
  refine wp_scope_fwd 0 rfl ?_
  go_wp2_with (first
    | (go_at_call 50; refine HT.out.mono ?_; rintro e w1 ⟨rfl, rfl⟩)
    | (go_at_call 52; refine HN.out.mono ?_; rintro e w2 ⟨rfl, rfl⟩)
    | (go_at_call 39; refine HB.out.mono ?_; rintro e w2 ⟨rfl, rfl⟩)
    | (go_at_call 69; refine HW.out.mono ?_; rintro e w2 ⟨rfl, rfl⟩)
    | (go_at_call 38; refine (HC.out _ _ _ (fun k v hk => ((BkS.new _ _ _).cell k).trans hk)).mono ?_; rintro e w2 ⟨rfl, ha⟩; have HA2 := Lib.hid (Adds.trans (Gr.new _ _).adds ha.adds); clear ha))
  go_step3
  refine ⟨rfl, ?_⟩
  go_wp2
  rw [Exit.noGoto_ret]
  go_ret
  exact ⟨rfl, HA2.out⟩
set_option maxHeartbeats 1000000 in
theorem write_none {w : World} {v : Value} (h : NoneW w v) (i b : Int) : Calls Try.prog 34 #[v, .int .i64 i, .int .i64 b] w fun e w' => e = .returned (.int .i64 1) ∧ Adds w w' := by
  have HN := Lib.hid (isNone_none h)
  have HT := Lib.hid (at_none h i)
  have HB := Lib.hid (isOutside_any b 65535 w)
  obtain ⟨r1, hr1⟩ : ∃ r1, outB b 65535 = r1 := ⟨_, rfl⟩
  rw [hr1] at HB
  have hC := fun (q cap : Nat) (W : World) hh => asked_any [(true, 1), (r1, 2), (true, 4), (false, 240), (false, 241)] (by simp) q cap W hh
  simp only [askedE] at hC
  have HC := Lib.hid hC
  have HW := Lib.hid (hasWriter_nil w)
  have HD := Lib.hid (hasReaders_nil w)
  clear hC h hr1
  go_enter Try.func34, Try.ntmps34
  go_wp2
  refine wp_scope_fwd 0 rfl ?_
  go_wp2_with (first
    | (go_at_call 50; refine HT.out.mono ?_; rintro e w1 ⟨rfl, rfl⟩)
    | (go_at_call 52; refine HN.out.mono ?_; rintro e w2 ⟨rfl, rfl⟩)
    | (go_at_call 39; refine HB.out.mono ?_; rintro e w2 ⟨rfl, rfl⟩)
    | (go_at_call 69; refine HW.out.mono ?_; rintro e w2 ⟨rfl, rfl⟩)
    | (go_at_call 71; refine HD.out.mono ?_; rintro e w2 ⟨rfl, rfl⟩)
    | (go_at_call 38; refine (HC.out _ _ _ (fun k v hk => ((BkS.new _ _ _).cell k).trans hk)).mono ?_; rintro e w2 ⟨rfl, ha⟩; have HA2 := Lib.hid (Adds.trans (Gr.new _ _).adds ha.adds); clear ha))
  go_step3
  refine ⟨rfl, ?_⟩
  go_wp2
  rw [Exit.noGoto_ret]
  go_ret
  exact ⟨rfl, HA2.out⟩
set_option maxHeartbeats 1000000 in
theorem unread_none {w : World} {v : Value} (h : NoneW w v) (i b : Int) : Calls Try.prog 35 #[v, .int .i64 i, .int .i64 b] w fun e w' => e = .returned (.tuple #[.int .i64 0, .int .i64 1]) ∧ Adds w w' := by
  have HN := Lib.hid (isNone_none h)
  have HT := Lib.hid (at_none h i)
  have HB := Lib.hid (isOutside_any b 65535 w)
  obtain ⟨r1, hr1⟩ : ∃ r1, outB b 65535 = r1 := ⟨_, rfl⟩
  rw [hr1] at HB
  have hC := fun (q cap : Nat) (W : World) hh => asked_any [(true, 1), (r1, 2), (true, 4), (true, 242)] (by simp) q cap W hh
  simp only [askedE] at hC
  have HC := Lib.hid hC
  have HW := Lib.hid (hasWriter_nil w)
  have HD := Lib.hid (hasReaders_nil w)
  clear hC h hr1
  go_enter Try.func35, Try.ntmps35
  go_wp2
  refine wp_scope_fwd 0 rfl ?_
  go_wp2_with (first
    | (go_at_call 50; refine HT.out.mono ?_; rintro e w1 ⟨rfl, rfl⟩)
    | (go_at_call 52; refine HN.out.mono ?_; rintro e w2 ⟨rfl, rfl⟩)
    | (go_at_call 39; refine HB.out.mono ?_; rintro e w2 ⟨rfl, rfl⟩)
    | (go_at_call 71; refine HD.out.mono ?_; rintro e w2 ⟨rfl, rfl⟩)
    | (go_at_call 38; refine (HC.out _ _ _ (fun k v hk => ((BkS.new _ _ _).cell k).trans hk)).mono ?_; rintro e w2 ⟨rfl, ha⟩; have HA2 := Lib.hid (Adds.trans (Gr.new _ _).adds ha.adds); clear ha))
  go_step3
  refine ⟨rfl, ?_⟩
  go_wp2
  rw [Exit.noGoto_ret]
  go_ret2
  exact ⟨rfl, HA2.out⟩
set_option maxHeartbeats 1000000 in
theorem unwrite_none {w : World} {v : Value} (h : NoneW w v) (i : Int) : Calls Try.prog 37 #[v, .int .i64 i] w fun e w' => e = .returned (.tuple #[.int .i64 0, .int .i64 1]) ∧ Adds w w' := by
  have HN := Lib.hid (isNone_none h)
  have HT := Lib.hid (at_none h i)
  have hC := fun (q cap : Nat) (W : World) hh => asked_any [(true, 1), (true, 4), (true, 242)] (by simp) q cap W hh
  simp only [askedE] at hC
  have HC := Lib.hid hC
  have HW := Lib.hid (hasWriter_nil w)
  have HD := Lib.hid (hasReaders_nil w)
  clear hC h
  go_enter Try.func37, Try.ntmps37
  go_wp2
  refine wp_scope_fwd 0 rfl ?_
  go_wp2_with (first
    | (go_at_call 50; refine HT.out.mono ?_; rintro e w1 ⟨rfl, rfl⟩)
    | (go_at_call 52; refine HN.out.mono ?_; rintro e w2 ⟨rfl, rfl⟩)
    | (go_at_call 69; refine HW.out.mono ?_; rintro e w2 ⟨rfl, rfl⟩)
    | (go_at_call 38; refine (HC.out _ _ _ (fun k v hk => ((BkS.new _ _ _).cell k).trans hk)).mono ?_; rintro e w2 ⟨rfl, ha⟩; have HA2 := Lib.hid (Adds.trans (Gr.new _ _).adds ha.adds); clear ha))
  go_step3
  refine ⟨rfl, ?_⟩
  go_wp2
  rw [Exit.noGoto_ret]
  go_ret2
  exact ⟨rfl, HA2.out⟩
theorem readers_none {w : World} {v : Value} (h : NoneW w v) (i : Int) : Calls Try.prog 15 #[v, .int .i64 i] w fun e w' => e = .returned (.slice none 0 0) ∧ w = w' := by
  have HT := Lib.hid (at_none h i)
  have HR := Lib.hid (allReaders_nil w)
  clear h
  go_enter Try.func15, Try.ntmps15
  go_wp2_with (first
    | (go_at_call 50; refine HT.out.mono ?_; rintro e w1 ⟨rfl, rfl⟩)
    | (go_at_call 51; refine HR.out.mono ?_; rintro e w1 ⟨rfl, rfl⟩))
  go_ret
  exact ⟨rfl, rfl⟩
theorem writer_none {w : World} {v : Value} (h : NoneW w v) (i : Int) : Calls Try.prog 44 #[v, .int .i64 i] w fun e w' => e = .returned (.tuple #[.int .i64 0, .bool false]) ∧ w = w' := by
  have HT := Lib.hid (at_none h i)
  have HR := Lib.hid (hasWriter_nil w)
  clear h
  go_enter Try.func44, Try.ntmps44
  go_wp2_with (first
    | (go_at_call 50; refine HT.out.mono ?_; rintro e w1 ⟨rfl, rfl⟩)
    | (go_at_call 69; refine HR.out.mono ?_; rintro e w1 ⟨rfl, rfl⟩))
  go_ret2
  exact ⟨rfl, rfl⟩
theorem IntsO.lower {n b : Nat} {w : World} {v : Value} {xs : List Int} (h : IntsO n w v xs) (hb : b ≤ n) : IntsO b w v xs := by
  refine ⟨h.1, ?_⟩
  rcases h.2 with hn | ⟨g, cap, cur, e, hbg, rest⟩
  · exact .inl hn
  · exact .inr ⟨g, cap, cur, e, by omega, rest⟩
theorem whoW_zero {n : Int} (h : n = 0) : whoW n = 0 := by unfold whoW; rw [if_pos h]
section
variable {m : Nat} {w : World} {v : Value} {O : Nat → Prop} {ls : List Lk}
theorem lenW_any (h : HasL m w v O ls) : Calls Try.prog 49 #[v] w fun e w' => e = .returned (.int .i64 ((ls.length : Nat) : Int)) ∧ w = w' := by
  obtain ⟨bp, bl, lv, hp, _, rfl⟩ := h
  obtain rfl := hp.ptr
  rw [List.length_map]
  exact lenW_full bp bl _ w hp.c0 hp.cm
theorem readersW_any (h : HasL m w v O ls) (i : Int) (hm : m ≤ 1000000) : Calls Try.prog 15 #[v, .int .i64 i] w fun e w' => ∃ v', e = .returned v' ∧ IntsO w.heap.size w' v' (atL ls i).rd ∧ Adds w w' := by
  obtain ⟨bp, bl, lv, hp, _, rfl⟩ := h
  by_cases hi : hasL (lv.map LM.lk) i
  · obtain ⟨n, x, hin, hx, hn, hat⟩ := has_at hi
    have HT := Lib.hid (at_yes n hp hn)
    rw [← hin] at HT
    have ok := hp.ok x (List.mem_of_getElem? hx)
    have HR := Lib.hid (fun W (ha : Adds w W) => allReaders_at bl (n * 3) ((hp.adds ha).row n x hx) (by have := ok.2.2.2; omega) ((hp.adds ha).at_ hx).1)
    rw [hat]
    obtain rfl := hp.ptr
    clear hi hin hx hn hat ok hp hm
    go_enter Try.func15, Try.ntmps15
    go_wp2_with (first
      | (go_at_call 50; refine HT.out.mono ?_; rintro e w1 ⟨rfl, ha⟩; have HA := Lib.hid ha.adds; clear ha)
      | (go_at_call 51; refine (HR.out _ HA.out).mono ?_; rintro e w1 ⟨v', rfl, h1, h2⟩; have H1 := Lib.hid h1; have H2 := Lib.hid h2; clear h1 h2))
    go_ret
    exact ⟨_, rfl, IntsO.lower H1.out HA.out.size, Adds.trans HA.out H2.out⟩
  · have HT := Lib.hid (at_no i hp hi)
    have HR := Lib.hid (allReaders_nil w)
    rw [atL_no hi]
    obtain rfl := hp.ptr
    clear hi hp hm
    go_enter Try.func15, Try.ntmps15
    go_wp2_with (first
      | (go_at_call 50; refine HT.out.mono ?_; rintro e w1 ⟨rfl, rfl⟩)
      | (go_at_call 51; refine HR.out.mono ?_; rintro e w1 ⟨rfl, rfl⟩))
    go_ret
    exact ⟨_, rfl, IntsO.nil _ _, Adds.refl w⟩
theorem writerW_any (h : HasL m w v O ls) (i : Int) : Calls Try.prog 44 #[v, .int .i64 i] w fun e w' => e = .returned (.tuple #[.int .i64 (whoW (atL ls i).wr), .bool (decide ((atL ls i).wr ≠ 0))]) ∧ Adds w w' := by
  obtain ⟨bp, bl, lv, hp, _, rfl⟩ := h
  by_cases hi : hasL (lv.map LM.lk) i
  · obtain ⟨n, x, hin, hx, hn, hat⟩ := has_at hi
    have HT := Lib.hid (at_yes n hp hn)
    rw [← hin] at HT
    have HW := Lib.hid (fun W (ha : Adds w W) => hasWriter_at bl (n * 3) (decide (x.lk.wr ≠ 0)) W ((hp.adds ha).at_ hx).2.2)
    have HC := Lib.hid (fun W (ha : Adds w W) => ((hp.adds ha).at_ hx).2.1)
    rw [hat]
    obtain rfl := hp.ptr
    by_cases h0 : x.lk.wr = 0
    · rw [whoW_zero h0]
      rw [show decide (x.lk.wr ≠ 0) = false by simp [h0]] at HW ⊢
      clear hi hin hx hn hat hp HC h0
      go_enter Try.func44, Try.ntmps44
      go_wp2_with (first
        | (go_at_call 50; refine HT.out.mono ?_; rintro e w1 ⟨rfl, ha⟩; have HA := Lib.hid ha.adds; clear ha)
        | (go_at_call 69; refine (HW.out _ HA.out).mono ?_; rintro e w2 ⟨rfl, rfl⟩))
      go_ret2
      exact ⟨rfl, HA.out⟩
    · rw [show decide (x.lk.wr ≠ 0) = true by simp [h0]] at HW ⊢
      generalize whoW x.lk.wr = q at *
      clear hi hin hx hn hat hp h0
      go_enter Try.func44, Try.ntmps44
      go_wp2_with (first
        | (go_at_call 50; refine HT.out.mono ?_; rintro e w1 ⟨rfl, ha⟩; have HA := Lib.hid ha.adds; have k1 := HC.out _ ha.adds; clear ha)
        | (go_at_call 69; refine (HW.out _ HA.out).mono ?_; rintro e w2 ⟨rfl, rfl⟩))
      go_ret2
      exact ⟨rfl, HA.out⟩
  · have HT := Lib.hid (at_no i hp hi)
    have HR := Lib.hid (hasWriter_nil w)
    rw [atL_no hi]
    obtain rfl := hp.ptr
    clear hi hp
    go_enter Try.func44, Try.ntmps44
    go_wp2_with (first
      | (go_at_call 50; refine HT.out.mono ?_; rintro e w1 ⟨rfl, rfl⟩)
      | (go_at_call 69; refine HR.out.mono ?_; rintro e w1 ⟨rfl, rfl⟩))
    go_ret2
    exact ⟨rfl, Adds.refl w⟩
end
end Go.Proofs.Ytedllkahalfjgaa
