/- Merged: Z14, Z2. -/
import Derived.Test.YthhegcngkpfcoaaGreatY41
import Derived.Test.YthhegcngkpfcoaaGreatY21
import Derived.Test.YthhegcngkpfcoaaGreatY10
namespace Go.Proofs.YthhegcngkpfcoaaGreat
open Go Go.RowKit Go.Shelf

abbrev zPg : Pg := ([], 0, 0, 0)
theorem PileP.adds {t : TypeId} {n b : Nat} {w w' : World} {p : Pg} {L : List Fr} {res : UInt32} (h : PileP t n w b p L res) (ha : Adds w w') : PileP t n w' b p L res := by
  obtain ⟨fv, lv, R, h, hR⟩ := h
  exact ⟨fv, lv, R, h.adds ha, hR⟩
/-- A value of type *Stack: none, or a pile in a block of its own. -/
def StkO (n : Nat) (w : World) (v : Value) (p : Pg) (L : List Fr) (res : UInt32) : Prop := (v = .pointer none ∧ p = zPg ∧ L = [] ∧ res = 0) ∨ ∃ b, v = .pointer (some ⟨b, 0, none⟩) ∧ PileP 34 n w b p L res
theorem StkO.adds {n : Nat} {w w' : World} {v : Value} {p : Pg} {L : List Fr} {res : UInt32} (h : StkO n w v p L res) (ha : Adds w w') : StkO n w' v p L res := by
  rcases h with h | ⟨b, h, hp⟩
  · exact .inl h
  · exact .inr ⟨b, h, hp.adds ha⟩
theorem zeroPile {t : TypeId} (ht : t = 32 ∨ t = 34) {n b : Nat} {w : World} (hn : n ≤ b) (hb : BkS t w b [.slice none 0 0, .int .i64 0, .int .i64 0, .int .i64 0, .slice none 0 0, .int .u32 0]) : PileO t n w b zPg (.slice none 0 0) (.slice none 0 0) [] 0 :=
  ⟨ht, hb, ⟨[], World.ownsRow_nil _ _ _ _, rfl, fun _i hi => absurd hi (Nat.not_lt_zero _)⟩, FrsO.nil _ _, hn⟩
section
variable {n : Nat} {w : World} {v : Value} {p : Pg} {L : List Fr} {res : UInt32}
set_option maxRecDepth 100000 in
theorem inside_any (h : StkO n w v p L res) (hn : n ≤ w.heap.size) : Calls Tryz.prog 24 #[v] w fun e w' => ∃ t b, e = .returned (.pointer (some ⟨b, 0, none⟩)) ∧ PileP t n w' b p L res ∧ Adds w w' := by
  rcases h with ⟨rfl, rfl, rfl, rfl⟩ | ⟨b, rfl, hp⟩
  · obtain ⟨w1, hw1⟩ : ∃ w1, w.alloc (.cells #[.slice none 0 0, .int .i64 0, .int .i64 0, .int .i64 0, .slice none 0 0, .int .u32 0] 32) = w1 := ⟨_, rfl⟩
    have A1 := Lib.hid (show Adds w w1 by rw [← hw1]; exact Adds.new _ _)
    have B1 := Lib.hid (show BkS 32 w1 w.heap.size [.slice none 0 0, .int .i64 0, .int .i64 0, .int .i64 0, .slice none 0 0, .int .u32 0] by rw [← hw1]; exact BkS.new _ _ _)
    have HN := Lib.hid hn
    clear hn
    go_enter Tryz.func24, Tryz.ntmps24
    go_wp2
    go_ret
    exact ⟨_, _, rfl, ⟨_, _, _, zeroPile (.inl rfl) HN.out B1.out, rfl⟩, A1.out⟩
  · have HP := Lib.hid hp
    clear hp hn
    go_enter Tryz.func24, Tryz.ntmps24
    go_wp2
    go_ret
    exact ⟨_, _, rfl, HP.out, Adds.refl _⟩
theorem CopyO.form12 {fv : Value} {fs : List Fu} (h : CopyO n w fv fs) : ∃ ao cap, fv = .slice ao fs.length cap ∧ fs.length ≤ cap ∧ cap ≤ maxLen := by
  obtain ⟨r, hR, hl, _⟩ := h
  rcases hR.2 with ⟨rfl, h0⟩ | ⟨g, cap, cur, rfl, hb, hh, h3, h4, _⟩
  · exact ⟨none, 0, by rw [← hl, h0], by omega, by unfold maxLen; omega⟩
  · exact ⟨_, cap, by rw [hl], by omega, h4⟩
set_option maxRecDepth 100000 in
theorem isNoneS_any (h : StkO n w v p L res) (hn : n ≤ w.heap.size) : Calls Tryz.prog 35 #[v] w fun e w' => e = .returned (.bool (decide (p.1.length = 0))) ∧ Adds w w' := by
  have HI := Lib.hid (inside_any h hn)
  clear h hn
  by_cases h0 : p.1.length = 0
  · rw [decide_eq_true h0]
    go_enter Tryz.func35, Tryz.ntmps35
    go_wp2_with (go_at_call 24; refine HI.out.mono ?_; rintro e w2 ⟨t, b, rfl, ⟨fv, lv, R, hp, hR⟩, ha⟩; have A2 := Lib.hid ha; obtain ⟨ao, cap, rfl, _, _⟩ := hp.fo.form12; have c0 := hp.bx.cell 0; rw [h0] at c0; clear hp hR ha)
    go_ret
    exact ⟨rfl, A2.out⟩
  · rw [decide_eq_false h0]
    obtain ⟨k, hk⟩ : ∃ k, p.1.length = k := ⟨_, rfl⟩
    have hne : ((k : Int) == 0) = false := by rw [beq_eq_false_iff_ne]; omega
    go_enter Tryz.func35, Tryz.ntmps35
    go_wp2_with (go_at_call 24; refine HI.out.mono ?_; rintro e w2 ⟨t, b, rfl, ⟨fv, lv, R, hp, hR⟩, ha⟩; have A2 := Lib.hid ha; obtain ⟨ao, cap, rfl, _, _⟩ := hp.fo.form12; have c0 := hp.bx.cell 0; rw [hk] at c0; clear hp hR ha)
    go_ret
    exact ⟨rfl, A2.out⟩
set_option maxRecDepth 100000 in
theorem depthS_any (h : StkO n w v p L res) (hn : n ≤ w.heap.size) : Calls Tryz.prog 14 #[v] w fun e w' => e = .returned (.int .i64 (L.length : Int)) ∧ Adds w w' := by
  have HI := Lib.hid (inside_any h hn)
  clear h hn
  go_enter Tryz.func14, Tryz.ntmps14
  go_wp2_with (go_at_call 24; refine HI.out.mono ?_; rintro e w2 ⟨t, b, rfl, ⟨fv, lv, R, hp, hR⟩, ha⟩; have A2 := Lib.hid ha; obtain ⟨ao, cap, rfl, _, _⟩ := hp.lo.form; have c4 := hp.bx.cell 4; rw [show R.length = L.length by rw [← hR]; simp] at c4; clear hp hR ha)
  go_ret
  exact ⟨rfl, A2.out⟩
set_option maxRecDepth 100000 in
theorem resultS_any (h : StkO n w v p L res) (hn : n ≤ w.heap.size) : Calls Tryz.prog 15 #[v] w fun e w' => e = .returned (.int .u32 (res.toNat : Nat)) ∧ Adds w w' := by
  have HI := Lib.hid (inside_any h hn)
  clear h hn
  obtain ⟨u, hu⟩ : ∃ u, res.toNat = u := ⟨_, rfl⟩
  have HU := Lib.hid hu
  rw [hu]
  clear hu
  go_enter Tryz.func15, Tryz.ntmps15
  go_wp2_with (go_at_call 24; refine HI.out.mono ?_; rintro e w2 ⟨t, b, rfl, ⟨fv, lv, R, hp, hR⟩, ha⟩; have A2 := Lib.hid ha; have c5 := hp.bx.cell 5; simp only [HU.out] at c5; clear hp hR ha)
  go_ret
  exact ⟨rfl, A2.out⟩
/-- What Reg tells. -/
def regOf (L : List Fr) (i : Int) : UInt32 := match L.getLast? with
  | none => 0
  | some x => if 0 ≤ i ∧ i ≤ (x.2.2.2.length : Int) - 1 then x.2.2.2.getD i.toNat 0 else 0
set_option maxRecDepth 100000 in
set_option maxHeartbeats 1000000 in
theorem RegS_any (h : StkO n w v p L res) (hn : n ≤ w.heap.size) (i : Int) : Calls Tryz.prog 13 #[v, .int .i64 i] w fun e w' => e = .returned (.int .u32 ((regOf L i).toNat : Nat)) ∧ Adds w w' := by
  have HI := Lib.hid (inside_any h hn)
  clear h hn
  rcases List.eq_nil_or_concat L with rfl | ⟨L', x, rfl⟩
  · have hr : (regOf [] i).toNat = 0 := rfl
    rw [hr]
    go_enter Tryz.func13, Tryz.ntmps13
    go_wp2_with (first
      | (go_at_call 24; refine HI.out.mono ?_; rintro e w2 ⟨t, b, rfl, ⟨fv, lv, R, hp, hR⟩, ha⟩; have A2 := Lib.hid ha; rw [List.map_eq_nil_iff] at hR; subst hR; have HP := Lib.hid hp; clear hp ha)
      | (go_at_call 25; refine (endedS_any HP.out).mono ?_; rintro e w5 ⟨rfl, rfl⟩))
    go_ret
    exact ⟨rfl, A2.out⟩
  · rw [List.concat_eq_append] at HI ⊢
    have hin : ∀ R : List (Fr × Value), R.map Prod.fst = L' ++ [x] → ∃ R' y, R = R' ++ [y] ∧ y.1 = x := by
      intro R hR
      rcases List.eq_nil_or_concat R with rfl | ⟨R', y, rfl⟩
      · simp at hR
      · rw [List.concat_eq_append] at hR ⊢
        simp at hR
        exact ⟨R', y, rfl, hR.2⟩
    by_cases hb : 0 ≤ i ∧ i ≤ (x.2.2.2.length : Int) - 1
    · obtain ⟨j, rfl⟩ : ∃ j : Nat, i = j := ⟨i.toNat, by omega⟩
      obtain ⟨ru, hru⟩ : ∃ ru, (x.2.2.2.getD j 0).toNat = ru := ⟨_, rfl⟩
      have hr : (regOf (L' ++ [x]) (j : Int)).toNat = ru := by unfold regOf; simp only [List.getLast?_append, List.getLast?_singleton, Option.some_or]; rw [if_pos hb, Int.toNat_natCast, hru]
      rw [hr]
      have HB := Lib.hid (show inBd 0 ((x.2.2.2.length : Int) - 1) j = true by unfold inBd; exact decide_eq_true hb)
      have HJ := Lib.hid (show j < x.2.2.2.length by omega)
      have HRu := Lib.hid hru
      clear hb hr hru
      go_enter Tryz.func13, Tryz.ntmps13
      go_wp2_with (first
        | (go_at_call 24; refine HI.out.mono ?_; rintro e w2 ⟨t, b, rfl, ⟨fv, lv, R, hp, hR⟩, ha⟩; have A2 := Lib.hid ha; obtain ⟨R', y, rfl, rfl⟩ := hin R hR; obtain ⟨g, cap, rfl⟩ := hp.open; have HP := Lib.hid (show TopO t n w2 b p fv g cap R' y res from hp); have HE := Lib.hid (endedS_any hp); simp only [List.length_append, List.length_singleton, Nat.add_eq_zero_iff, Nat.one_ne_zero, and_false, decide_false] at HE; clear hp ha hR)
        | (go_at_call 25; refine HE.out.mono ?_; rintro e w5 ⟨rfl, rfl⟩)
        | (go_at_call 39; refine (regsS_any HP.out 0).mono ?_; rintro e w6 ⟨rfl, a6⟩; have A6 := Lib.hid a6; clear a6)
        | (go_at_call 40; refine (hold_bd _ _ _ _).mono ?_; rintro e w7 ⟨rfl, a7⟩; have A7 := Lib.hid (Adds.trans A6.out a7); have hbd := HB.out; simp only [hbd]; clear a7)
        | (go_at_call 41; refine (regS_any (PileO.adds HP.out A7.out) j HJ.out).mono ?_; rintro e w8 ⟨rfl, m, rfl⟩))
      go_ret
      rw [← HRu.out]
      exact ⟨by simp, Adds.trans A2.out (Adds.trans A7.out (Adds.drewN _ _))⟩
    · have hr : (regOf (L' ++ [x]) i).toNat = 0 := by unfold regOf; simp only [List.getLast?_append, List.getLast?_singleton, Option.some_or]; rw [if_neg hb]; rfl
      rw [hr]
      have HB := Lib.hid (show inBd 0 ((x.2.2.2.length : Int) - 1) i = false by unfold inBd; exact decide_eq_false hb)
      clear hb hr
      go_enter Tryz.func13, Tryz.ntmps13
      go_wp2_with (first
        | (go_at_call 24; refine HI.out.mono ?_; rintro e w2 ⟨t, b, rfl, ⟨fv, lv, R, hp, hR⟩, ha⟩; have A2 := Lib.hid ha; obtain ⟨R', y, rfl, rfl⟩ := hin R hR; obtain ⟨g, cap, rfl⟩ := hp.open; have HP := Lib.hid (show TopO t n w2 b p fv g cap R' y res from hp); have HE := Lib.hid (endedS_any hp); simp only [List.length_append, List.length_singleton, Nat.add_eq_zero_iff, Nat.one_ne_zero, and_false, decide_false] at HE; clear hp ha hR)
        | (go_at_call 25; refine HE.out.mono ?_; rintro e w5 ⟨rfl, rfl⟩)
        | (go_at_call 39; refine (regsS_any HP.out 0).mono ?_; rintro e w6 ⟨rfl, a6⟩; have A6 := Lib.hid a6; clear a6)
        | (go_at_call 40; refine (hold_bd _ _ _ _).mono ?_; rintro e w7 ⟨rfl, a7⟩; have A7 := Lib.hid (Adds.trans A6.out a7); have hbd := HB.out; simp only [hbd]; clear a7))
      go_ret
      exact ⟨rfl, Adds.trans A2.out A7.out⟩
end
end Go.Proofs.YthhegcngkpfcoaaGreat
namespace Go.Proofs.YthhegcngkpfcoaaGreat
open Go Go.RowKit Go.Shelf Go.Lib

set_option maxRecDepth 100000 in
theorem idle_new (p : Value) (w : World) :
    CallsD Tryz.prog 30 #[p] .returning w fun e u' w' => e = .returned (.tuple #[]) ∧ u' = .returning ∧ w' = w := by
  have hn := iface_none
  refine callsD_of_wpS Tryz.func30 rfl fun c₀ cs hu => ?_
  apply wpS_seq
  apply wpS_region
  simp [wpOpsS, go_sem, recoverD, hu, Tryz.ntmps30, Exit.thenS]
  refine wpS_of_wp ?_
  simp only [Array.replicate_succ, Array.replicate_zero, List.push_toArray, List.append_toArray, List.nil_append, List.cons_append, List.setIfInBounds_toArray, List.set_cons_zero, List.set_cons_succ]
  go_wp2_with fail
  cases c₀
  simp_all [bodyPostS, results, Tryz.results30]
set_option maxRecDepth 100000 in
theorem catch_step (b : Nat) (x v : Int) (older : List PanicEntry) (w : World) (hB : BkS 45 w b [.int .i64 x]) :
    CallsD Tryz.prog 33 #[.pointer (some ⟨b, 0, none⟩)] (.panicking ({ v := refuV v, recovered := false } :: older)) w fun e u' w' =>
      e = .returned (.tuple #[]) ∧ u' = .panicking ({ v := refuV v, recovered := true } :: older) ∧ w' = w.setCell ⟨b, 0, none⟩ (.int .i64 v) := by
  have c0 : w.cell? ⟨b, 0, none⟩ = some (.int .i64 x) := hB.cell 0
  have f0 := hB.free 0
  have hn := iface_some 104 (.int .i64 v)
  have HT := Lib.hid (told12 v w)
  clear hB
  refine callsD_of_wpS Tryz.func33 rfl fun c₀ cs hu => ?_
  apply wpS_seq
  apply wpS_region
  simp [wpOpsS, go_sem, recoverD, hu, Tryz.ntmps33, Exit.thenS]
  refine wpS_of_wp ?_
  simp only [Array.replicate_succ, Array.replicate_zero, List.push_toArray, List.append_toArray, List.nil_append, List.cons_append, List.setIfInBounds_toArray, List.set_cons_zero, List.set_cons_succ]
  go_wp2_with (go_at_call 31; refine HT.out.mono ?_; rintro e w2 ⟨rfl, rfl⟩)
  simp [bodyPostS, results, Tryz.results33]
set_option maxRecDepth 100000 in
theorem idle_step (p : Value) (w : World) :
    CallsD Tryz.prog 33 #[p] .returning w fun e u' w' => e = .returned (.tuple #[]) ∧ u' = .returning ∧ w' = w := by
  have hn := iface_none
  refine callsD_of_wpS Tryz.func33 rfl fun c₀ cs hu => ?_
  apply wpS_seq
  apply wpS_region
  simp [wpOpsS, go_sem, recoverD, hu, Tryz.ntmps33, Exit.thenS]
  refine wpS_of_wp ?_
  simp only [Array.replicate_succ, Array.replicate_zero, List.push_toArray, List.append_toArray, List.nil_append, List.cons_append, List.setIfInBounds_toArray, List.set_cons_zero, List.set_cons_succ]
  go_wp2_with fail
  cases c₀
  simp_all [bodyPostS, results, Tryz.results33]
set_option maxRecDepth 100000 in
theorem catch_pass (b : Nat) (x v : Int) (older : List PanicEntry) (w : World) (hB : BkS 45 w b [.int .i64 x]) :
    CallsD Tryz.prog 37 #[.pointer (some ⟨b, 0, none⟩)] (.panicking ({ v := refuV v, recovered := false } :: older)) w fun e u' w' =>
      e = .returned (.tuple #[]) ∧ u' = .panicking ({ v := refuV v, recovered := true } :: older) ∧ w' = w.setCell ⟨b, 0, none⟩ (.int .i64 v) := by
  have c0 : w.cell? ⟨b, 0, none⟩ = some (.int .i64 x) := hB.cell 0
  have f0 := hB.free 0
  have hn := iface_some 104 (.int .i64 v)
  have HT := Lib.hid (told12 v w)
  clear hB
  refine callsD_of_wpS Tryz.func37 rfl fun c₀ cs hu => ?_
  apply wpS_seq
  apply wpS_region
  simp [wpOpsS, go_sem, recoverD, hu, Tryz.ntmps37, Exit.thenS]
  refine wpS_of_wp ?_
  simp only [Array.replicate_succ, Array.replicate_zero, List.push_toArray, List.append_toArray, List.nil_append, List.cons_append, List.setIfInBounds_toArray, List.set_cons_zero, List.set_cons_succ]
  go_wp2_with (go_at_call 31; refine HT.out.mono ?_; rintro e w2 ⟨rfl, rfl⟩)
  simp [bodyPostS, results, Tryz.results37]
end Go.Proofs.YthhegcngkpfcoaaGreat
