/- Merged: Z14, Z25, Z26. -/
import Derived.Test.YtdkgehhlikaocaaGreatY22
import Derived.Test.YtdkgehhlikaocaaGreatY20
namespace Go.Proofs.YtdkgehhlikaocaaGreat
open Go Go.RowKit Go.Shelf

abbrev zPg : Pg := ([], 0, 0, 0)
theorem PileP.adds {t : TypeId} {n b : Nat} {w w' : World} {p : Pg} {L : List Fr} {res : UInt32} (h : PileP t n w b p L res) (ha : Adds w w') : PileP t n w' b p L res := by
  obtain ⟨fv, lv, R, h, hR⟩ := h
  exact ⟨fv, lv, R, h.adds ha, hR⟩
/-- A value of type *Stack: none, or a pile in a block of its own. -/
def StkO (n : Nat) (w : World) (v : Value) (p : Pg) (L : List Fr) (res : UInt32) : Prop := (v = .pointer none ∧ p = zPg ∧ L = [] ∧ res = 0) ∨ ∃ b, v = .pointer (some ⟨b, 0, none⟩) ∧ PileP 73 n w b p L res
theorem StkO.adds {n : Nat} {w w' : World} {v : Value} {p : Pg} {L : List Fr} {res : UInt32} (h : StkO n w v p L res) (ha : Adds w w') : StkO n w' v p L res := by
  rcases h with h | ⟨b, h, hp⟩
  · exact .inl h
  · exact .inr ⟨b, h, hp.adds ha⟩
theorem zeroPile {t : TypeId} (ht : t = 70 ∨ t = 73) {n b : Nat} {w : World} (hn : n ≤ b) (hb : BkS t w b [.slice none 0 0, .int .i64 0, .int .i64 0, .int .i64 0, .slice none 0 0, .int .u32 0]) : PileO t n w b zPg (.slice none 0 0) (.slice none 0 0) [] 0 :=
  ⟨ht, hb, ⟨[], World.ownsRow_nil _ _ _ _, rfl, fun _i hi => absurd hi (Nat.not_lt_zero _)⟩, FrsO.nil _ _, hn⟩
section
variable {n : Nat} {w : World} {v : Value} {p : Pg} {L : List Fr} {res : UInt32}
set_option maxRecDepth 100000 in
theorem inside_any (h : StkO n w v p L res) (hn : n ≤ w.heap.size) : Calls Tryz.prog 35 #[v] w fun e w' => ∃ t b, e = .returned (.pointer (some ⟨b, 0, none⟩)) ∧ PileP t n w' b p L res ∧ Adds w w' := by
  rcases h with ⟨rfl, rfl, rfl, rfl⟩ | ⟨b, rfl, hp⟩
  · obtain ⟨w1, hw1⟩ : ∃ w1, w.alloc (.cells #[.slice none 0 0, .int .i64 0, .int .i64 0, .int .i64 0, .slice none 0 0, .int .u32 0] 70) = w1 := ⟨_, rfl⟩
    have A1 := Lib.hid (show Adds w w1 by rw [← hw1]; exact Adds.new _ _)
    have B1 := Lib.hid (show BkS 70 w1 w.heap.size [.slice none 0 0, .int .i64 0, .int .i64 0, .int .i64 0, .slice none 0 0, .int .u32 0] by rw [← hw1]; exact BkS.new _ _ _)
    have HN := Lib.hid hn
    clear hn
    go_enter Tryz.func35, Tryz.ntmps35
    go_wp2
    go_ret
    exact ⟨_, _, rfl, ⟨_, _, _, zeroPile (.inl rfl) HN.out B1.out, rfl⟩, A1.out⟩
  · have HP := Lib.hid hp
    clear hp hn
    go_enter Tryz.func35, Tryz.ntmps35
    go_wp2
    go_ret
    exact ⟨_, _, rfl, HP.out, Adds.refl _⟩
theorem CopyO.form12 {fv : Value} {fs : List Fu} (h : CopyO n w fv fs) : ∃ ao cap, fv = .slice ao fs.length cap ∧ fs.length ≤ cap ∧ cap ≤ maxLen := by
  obtain ⟨r, hR, hl, _⟩ := h
  rcases hR.2 with ⟨rfl, h0⟩ | ⟨g, cap, cur, rfl, hb, hh, h3, h4, _⟩
  · exact ⟨none, 0, by rw [← hl, h0], by omega, by unfold maxLen; omega⟩
  · exact ⟨_, cap, by rw [hl], by omega, h4⟩
set_option maxRecDepth 100000 in
theorem isNoneS_any (h : StkO n w v p L res) (hn : n ≤ w.heap.size) : Calls Tryz.prog 33 #[v] w fun e w' => e = .returned (.bool (decide (p.1.length = 0))) ∧ Adds w w' := by
  have HI := Lib.hid (inside_any h hn)
  clear h hn
  by_cases h0 : p.1.length = 0
  · rw [decide_eq_true h0]
    go_enter Tryz.func33, Tryz.ntmps33
    go_wp2_with (go_at_call 35; refine HI.out.mono ?_; rintro e w2 ⟨t, b, rfl, ⟨fv, lv, R, hp, hR⟩, ha⟩; have A2 := Lib.hid ha; obtain ⟨ao, cap, rfl, _, _⟩ := hp.fo.form12; have c0 := hp.bx.cell 0; rw [h0] at c0; clear hp hR ha)
    go_ret
    exact ⟨rfl, A2.out⟩
  · rw [decide_eq_false h0]
    obtain ⟨k, hk⟩ : ∃ k, p.1.length = k := ⟨_, rfl⟩
    have hne : ((k : Int) == 0) = false := by rw [beq_eq_false_iff_ne]; omega
    go_enter Tryz.func33, Tryz.ntmps33
    go_wp2_with (go_at_call 35; refine HI.out.mono ?_; rintro e w2 ⟨t, b, rfl, ⟨fv, lv, R, hp, hR⟩, ha⟩; have A2 := Lib.hid ha; obtain ⟨ao, cap, rfl, _, _⟩ := hp.fo.form12; have c0 := hp.bx.cell 0; rw [hk] at c0; clear hp hR ha)
    go_ret
    exact ⟨rfl, A2.out⟩
set_option maxRecDepth 100000 in
theorem depthS_any (h : StkO n w v p L res) (hn : n ≤ w.heap.size) : Calls Tryz.prog 13 #[v] w fun e w' => e = .returned (.int .i64 (L.length : Int)) ∧ Adds w w' := by
  have HI := Lib.hid (inside_any h hn)
  clear h hn
  go_enter Tryz.func13, Tryz.ntmps13
  go_wp2_with (go_at_call 35; refine HI.out.mono ?_; rintro e w2 ⟨t, b, rfl, ⟨fv, lv, R, hp, hR⟩, ha⟩; have A2 := Lib.hid ha; obtain ⟨ao, cap, rfl, _, _⟩ := hp.lo.form; have c4 := hp.bx.cell 4; rw [show R.length = L.length by rw [← hR]; simp] at c4; clear hp hR ha)
  go_ret
  exact ⟨rfl, A2.out⟩
set_option maxRecDepth 100000 in
theorem resultS_any (h : StkO n w v p L res) (hn : n ≤ w.heap.size) : Calls Tryz.prog 22 #[v] w fun e w' => e = .returned (.int .u32 (res.toNat : Nat)) ∧ Adds w w' := by
  have HI := Lib.hid (inside_any h hn)
  clear h hn
  obtain ⟨u, hu⟩ : ∃ u, res.toNat = u := ⟨_, rfl⟩
  have HU := Lib.hid hu
  rw [hu]
  clear hu
  go_enter Tryz.func22, Tryz.ntmps22
  go_wp2_with (go_at_call 35; refine HI.out.mono ?_; rintro e w2 ⟨t, b, rfl, ⟨fv, lv, R, hp, hR⟩, ha⟩; have A2 := Lib.hid ha; have c5 := hp.bx.cell 5; simp only [HU.out] at c5; clear hp hR ha)
  go_ret
  exact ⟨rfl, A2.out⟩
/-- What Reg tells. -/
def regOf (L : List Fr) (i : Int) : UInt32 := match L.getLast? with
  | none => 0
  | some x => if 0 ≤ i ∧ i ≤ (x.2.2.2.length : Int) - 1 then x.2.2.2.getD i.toNat 0 else 0
set_option maxRecDepth 100000 in
set_option maxHeartbeats 1000000 in
theorem RegS_any (h : StkO n w v p L res) (hn : n ≤ w.heap.size) (i : Int) : Calls Tryz.prog 21 #[v, .int .i64 i] w fun e w' => e = .returned (.int .u32 ((regOf L i).toNat : Nat)) ∧ Adds w w' := by
  have HI := Lib.hid (inside_any h hn)
  clear h hn
  rcases List.eq_nil_or_concat L with rfl | ⟨L', x, rfl⟩
  · have hr : (regOf [] i).toNat = 0 := rfl
    rw [hr]
    go_enter Tryz.func21, Tryz.ntmps21
    go_wp2_with (first
      | (go_at_call 35; refine HI.out.mono ?_; rintro e w2 ⟨t, b, rfl, ⟨fv, lv, R, hp, hR⟩, ha⟩; have A2 := Lib.hid ha; rw [List.map_eq_nil_iff] at hR; subst hR; have HP := Lib.hid hp; clear hp ha)
      | (go_at_call 42; refine (endedS_any HP.out).mono ?_; rintro e w5 ⟨rfl, rfl⟩))
    go_ret
    exact ⟨rfl, A2.out⟩
  · rw [List.concat_eq_append] at HI ⊢
    have hin : ∀ R : List (Fr × Value), R.map Prod.fst = L' ++ [x] → ∃ R' y, R = R' ++ [y] ∧ y.1 = x := by
      intro R hR
      rcases List.eq_nil_or_concat R with rfl | ⟨R', y, rfl⟩
      · simp at hR
      · rw [List.concat_eq_append] at hR ⊢
        simp at hR
        exact ⟨R', y, rfl, hR.2⟩
    by_cases hb : 0 ≤ i ∧ i ≤ (x.2.2.2.length : Int) - 1
    · obtain ⟨j, rfl⟩ : ∃ j : Nat, i = j := ⟨i.toNat, by omega⟩
      obtain ⟨ru, hru⟩ : ∃ ru, (x.2.2.2.getD j 0).toNat = ru := ⟨_, rfl⟩
      have hr : (regOf (L' ++ [x]) (j : Int)).toNat = ru := by unfold regOf; simp only [List.getLast?_append, List.getLast?_singleton, Option.some_or]; rw [if_pos hb, Int.toNat_natCast, hru]
      rw [hr]
      have HB := Lib.hid (show inBd 0 ((x.2.2.2.length : Int) - 1) j = true by unfold inBd; exact decide_eq_true hb)
      have HJ := Lib.hid (show j < x.2.2.2.length by omega)
      have HRu := Lib.hid hru
      clear hb hr hru
      go_enter Tryz.func21, Tryz.ntmps21
      go_wp2_with (first
        | (go_at_call 35; refine HI.out.mono ?_; rintro e w2 ⟨t, b, rfl, ⟨fv, lv, R, hp, hR⟩, ha⟩; have A2 := Lib.hid ha; obtain ⟨R', y, rfl, rfl⟩ := hin R hR; obtain ⟨g, cap, rfl⟩ := hp.open; have HP := Lib.hid (show TopO t n w2 b p fv g cap R' y res from hp); have HE := Lib.hid (endedS_any hp); simp only [List.length_append, List.length_singleton, Nat.add_eq_zero_iff, Nat.one_ne_zero, and_false, decide_false] at HE; clear hp ha hR)
        | (go_at_call 42; refine HE.out.mono ?_; rintro e w5 ⟨rfl, rfl⟩)
        | (go_at_call 44; refine (regsS_any HP.out 0).mono ?_; rintro e w6 ⟨rfl, a6⟩; have A6 := Lib.hid a6; clear a6)
        | (go_at_call 45; refine (hold_bd _ _ _ _).mono ?_; rintro e w7 ⟨rfl, a7⟩; have A7 := Lib.hid (Adds.trans A6.out a7); have hbd := HB.out; simp only [hbd]; clear a7)
        | (go_at_call 46; refine (regS_any (PileO.adds HP.out A7.out) j HJ.out).mono ?_; rintro e w8 ⟨rfl, m, rfl⟩))
      go_ret
      rw [← HRu.out]
      exact ⟨by simp, Adds.trans A2.out (Adds.trans A7.out (Adds.drewN _ _))⟩
    · have hr : (regOf (L' ++ [x]) i).toNat = 0 := by unfold regOf; simp only [List.getLast?_append, List.getLast?_singleton, Option.some_or]; rw [if_neg hb]; rfl
      rw [hr]
      have HB := Lib.hid (show inBd 0 ((x.2.2.2.length : Int) - 1) i = false by unfold inBd; exact decide_eq_false hb)
      clear hb hr
      go_enter Tryz.func21, Tryz.ntmps21
      go_wp2_with (first
        | (go_at_call 35; refine HI.out.mono ?_; rintro e w2 ⟨t, b, rfl, ⟨fv, lv, R, hp, hR⟩, ha⟩; have A2 := Lib.hid ha; obtain ⟨R', y, rfl, rfl⟩ := hin R hR; obtain ⟨g, cap, rfl⟩ := hp.open; have HP := Lib.hid (show TopO t n w2 b p fv g cap R' y res from hp); have HE := Lib.hid (endedS_any hp); simp only [List.length_append, List.length_singleton, Nat.add_eq_zero_iff, Nat.one_ne_zero, and_false, decide_false] at HE; clear hp ha hR)
        | (go_at_call 42; refine HE.out.mono ?_; rintro e w5 ⟨rfl, rfl⟩)
        | (go_at_call 44; refine (regsS_any HP.out 0).mono ?_; rintro e w6 ⟨rfl, a6⟩; have A6 := Lib.hid a6; clear a6)
        | (go_at_call 45; refine (hold_bd _ _ _ _).mono ?_; rintro e w7 ⟨rfl, a7⟩; have A7 := Lib.hid (Adds.trans A6.out a7); have hbd := HB.out; simp only [hbd]; clear a7))
      go_ret
      exact ⟨rfl, Adds.trans A2.out A7.out⟩
end
end Go.Proofs.YtdkgehhlikaocaaGreat
namespace Go.Proofs.YtdkgehhlikaocaaGreat
open Go Go.RowKit Go.Shelf

theorem infoU4z : (Tryz.prog.info? 30).map (fun i => (i.zero, i.size, i.bytes)) = some (some (.int .u32 0), 1, 4) := by kernel_rfl
section
variable {n : Nat} {w : World} {v : Value}
set_option maxRecDepth 100000 in
set_option maxHeartbeats 1000000 in
theorem clone_regs {rs : List UInt32} (h : RegO n w v rs) (h0 : rs ≠ []) (hl : rs.length ≤ 65536) : Calls Tryz.prog 68 #[v] w fun e w' => ∃ v', e = .returned v' ∧ RegO w.heap.size w' v' rs ∧ Adds w w' := by
  obtain ⟨g, cap, rfl, hg, hc1, hc2, cur, hcur⟩ := h.form h0
  have HR := Lib.hid h
  obtain ⟨i0, hi, hz, hs, hb⟩ := info_parts infoU4z
  have hq : ∀ W, (binOp .eql 25 (.slice (some ⟨g, 0, none⟩) rs.length cap) (.slice none 0 0)).run Tryz.prog W = .ok (.bool false) W := fun W => Lib.run_eql_slice_nil W _ 30 (some ⟨g, 0, none⟩) _ _ _ _ (by kernel_rfl)
  have A1 := Lib.hid (Gr.new w (.cells #[] 30)).adds
  have HN := Lib.hid (show ∀ j u, (rs.map cellV)[j]? = some u → (w.alloc (.cells #[] 30)).cell? (Addr.add ⟨g, 0, none⟩ j) = some u from fun j u hu => by
    have h1 := ownsRow_cell (h.adds A1.out) j hu
    by_cases e : j = 0
    · subst e
      simpa [Addr.add] using h1
    · simpa [Addr.add, e] using h1)
  obtain ⟨l, hl'⟩ : ∃ l, rs.length = l := ⟨_, rfl⟩
  have HL := Lib.hid hl'
  have HB := Lib.hid hl
  simp only [hl'] at hq ⊢
  clear hl' hl h hc1 hc2 hcur h0
  go_enter Tryz.func68, Tryz.ntmps68
  go_wp2_with (at_builtin; refine wpList_append_own _ rfl _ _ 25 rfl w.heap.size 30 i0 _ 1 4 (by kernel_rfl) hi hz hs hb rfl (by decide) _ _ _ rfl (World.ownsRow_made w #[] 0 (Nat.le_refl _) (Nat.zero_le _) (by simp)) ⟨g, 0, none⟩ l cap (rs.map cellV) rfl (by simp [HL.out]) HN.out (by intro u hu; rw [List.mem_map] at hu; obtain ⟨x, _, rfl⟩ := hu; rfl) (by have := HB.out; have := HL.out; simp only [maxLen]; omega) (by have := HB.out; have := HL.out; omega) (by simp) ?_; intro v5 w5 o5 b5 _; have O5 := Lib.hid o5; clear o5; have A5 := Lib.hid (show Adds w w5 from TnS.own A1.out (Nat.le_refl _) b5); clear b5)
  go_ret
  refine ⟨_, rfl, ?_, A5.out⟩
  have h := O5.out
  rw [Nat.zero_add, List.nil_append] at h
  unfold RegO
  rw [HL.out]
  exact h
set_option maxRecDepth 100000 in
set_option maxHeartbeats 1000000 in
/-- One frame's copy. -/
theorem copied1 {x : Fr} (h : RegO n w v x.2.2.2) (h0 : x.2.2.2 ≠ []) (hl : x.2.2.2.length ≤ 65536) : Calls Tryz.prog 67 #[.agg #[.int .i64 (x.1 : Int), .int .i64 (x.2.1 : Int), .int .i64 x.2.2.1, v]] w fun e w' => ∃ v', e = .returned (.agg #[.int .i64 (x.1 : Int), .int .i64 (x.2.1 : Int), .int .i64 x.2.2.1, v']) ∧ RegO w.heap.size w' v' x.2.2.2 ∧ Adds w w' := by
  obtain ⟨f, pc, d, rs⟩ := x
  simp only at h h0 hl ⊢
  obtain ⟨g, cap, rfl, hg, hc1, hc2, cur, hcur⟩ := h.form h0
  obtain ⟨w1, hw1⟩ : ∃ w1, w.alloc (.cells #[.int .i64 (f : Int), .int .i64 (pc : Int), .int .i64 d, .slice (some ⟨g, 0, none⟩) rs.length cap] 76) = w1 := ⟨_, rfl⟩
  have A1 := Lib.hid (show Adds w w1 by rw [← hw1]; exact (Gr.new _ _).adds)
  have B1 := Lib.hid (show BkS 76 w1 w.heap.size [.int .i64 (f : Int), .int .i64 (pc : Int), .int .i64 d, .slice (some ⟨g, 0, none⟩) rs.length cap] by rw [← hw1]; exact BkS.new _ _ _)
  obtain ⟨w2, hw2⟩ : ∃ w2, w1.alloc (.cells #[.int .i64 0, .int .i64 0, .int .i64 0, .slice none 0 0] 76) = w2 := ⟨_, rfl⟩
  have A2 := Lib.hid (show Adds w1 w2 by rw [← hw2]; exact (Gr.new _ _).adds)
  have B2 := Lib.hid (show BkS 76 w2 w1.heap.size [.int .i64 0, .int .i64 0, .int .i64 0, .slice none 0 0] by rw [← hw2]; exact BkS.new _ _ _)
  have A12 := Lib.hid (Adds.trans A1.out A2.out)
  have C1 := Lib.hid (B1.out.adds A2.out)
  have c3 : w2.cell? ⟨w.heap.size, 3, none⟩ = some (.slice (some ⟨g, 0, none⟩) rs.length cap) := C1.out.cell 3
  have NE := Lib.hid (Nat.ne_of_lt B1.out.lt)
  have HCk := Lib.hid (fun W (hW : Adds w W) => clone_regs (h.adds hW) h0 hl)
  clear h h0 hl hg hc1 hc2 hcur
  obtain ⟨l, hl'⟩ : ∃ l, rs.length = l := ⟨_, rfl⟩
  have HL := Lib.hid hl'
  simp only [hl'] at HCk C1 c3 ⊢
  simp only [hl'] at B1 hw1
  clear hl'
  go_enter Tryz.func67, Tryz.ntmps67
  go_wp2_with (go_at_call 68; refine (HCk.out _ A12.out).mono ?_; clear HCk; rintro e w3 ⟨v', rfl, ho, a3⟩; go_loud (have A3 := Lib.hid a3; have HO := Lib.hid ho; obtain ⟨ao', cp', ev, _, _⟩ := ho.form0; rw [HL.out] at ev; subst ev; have D3 := C1.out.adds a3; have z3 : w3.cell? ⟨w.heap.size, 3, none⟩ = some (.slice (some ⟨g, 0, none⟩) l cap) := D3.cell 3; have zf := D3.free 3; have E3 := Lib.hid (D3.set 3 (.slice ao' l cp')); have F3 := Lib.hid ((B2.out.adds a3).other (c := w.heap.size) (i := 3) NE.out (.slice ao' l cp')); have e0 : (w3.setCell ⟨w.heap.size, 3, none⟩ (.slice ao' l cp')).cell? ⟨w.heap.size, 0, none⟩ = some (.int .i64 (f : Int)) := E3.out.cell 0; have e1 : (w3.setCell ⟨w.heap.size, 3, none⟩ (.slice ao' l cp')).cell? ⟨w.heap.size, 1, none⟩ = some (.int .i64 (pc : Int)) := E3.out.cell 1; have e2 : (w3.setCell ⟨w.heap.size, 3, none⟩ (.slice ao' l cp')).cell? ⟨w.heap.size, 2, none⟩ = some (.int .i64 d) := E3.out.cell 2; have e3 : (w3.setCell ⟨w.heap.size, 3, none⟩ (.slice ao' l cp')).cell? ⟨w.heap.size, 3, none⟩ = some (.slice ao' l cp') := E3.out.cell 3; have f0 := F3.out.cell 0; have f1 := F3.out.cell 1; have f2 := F3.out.cell 2; have f3 := F3.out.cell 3; have y0 := F3.out.free 0; have y1 := F3.out.free 1; have y2 := F3.out.free 2; have y3 := F3.out.free 3; clear ho a3 D3))
  have hE := ((((F3.out.set 0 (.int .i64 (f : Int))).set 1 (.int .i64 (pc : Int))).set 2 (.int .i64 d)).set 3 (.slice ao' l cp'))
  try simp only [Exit.jump]
  try simp only [Exit.inBlock, Exit.then]
  refine bodyPost_ret (res_box1 rfl _ _ _ _ _ _ _ rfl hE Tryz.underlying76 rfl (by kernel_rfl)) rfl ?_
  have q1 := C1.out.lt
  have q2 := B2.out.lt
  have R1 := HO.out.tn (TnS.setCell w.heap.size 3 w3 (.slice ao' l cp')) (fun e => by have := (World.ownsRow.lt HO.out _ e).1; omega)
  have R2 := R1.tn ((((TnS.setCell w1.heap.size 0 _ (.int .i64 (f : Int))).trans (TnS.setCell w1.heap.size 1 _ (.int .i64 (pc : Int)))).trans (TnS.setCell w1.heap.size 2 _ (.int .i64 d))).trans (TnS.setCell w1.heap.size 3 _ (.slice ao' l cp'))) (fun e => by have := (World.ownsRow.lt R1 _ e).1; omega)
  have a0 := Adds.set (Adds.trans A12.out A3.out) (b := w.heap.size) (Nat.le_refl _) 3 (.slice ao' l cp')
  have z := A1.out.size
  exact ⟨_, rfl, ownsRow_low R2 A12.out.size, Adds.set (Adds.set (Adds.set (Adds.set a0 z _ _) z _ _) z _ _) z _ _⟩
end
end Go.Proofs.YtdkgehhlikaocaaGreat
namespace Go.Proofs.YtdkgehhlikaocaaGreat
open Go Go.RowKit Go.Shelf

theorem madeFr (n : Nat) : madeCells #[.int .i64 0, .int .i64 0, .int .i64 0, .slice none 0 0] (n * 4) = ((List.replicate n zF0).flatMap frC).toArray := by
  apply Array.ext'
  apply List.ext_getElem?
  intro i
  simp only [madeCells]
  by_cases hi : i < n * 4
  · have h1 := flat_get frC 4 frC_len (List.replicate n zF0) (i / 4) (i % 4) (Nat.mod_lt _ (by decide))
    rw [Nat.div_add_mod'] at h1
    rw [h1]
    have h2 : i / 4 < n := by omega
    simp only [Array.toList_map, List.getElem?_map, Array.toList_range, List.getElem?_range hi, List.getElem?_replicate, if_pos h2, Option.bind_some, Option.map_some]
    have h3 : i % 4 < 4 := Nat.mod_lt _ (by decide)
    generalize i % 4 = j at h3
    rcases j with _ | _ | _ | _ | j <;> first | rfl | omega
  · rw [List.getElem?_eq_none (by simp; omega), List.getElem?_eq_none (by rw [flat_len frC 4 frC_len]; simp; omega)]
theorem run_mkFr (n : Nat) (hn : n ≤ 1000000) (w : World) :
    (Instr.makeSlice 35 (.int .i64 (n : Int)) (.int .i64 (n : Int))).run Tryz.prog w = .ok (.slice (some ⟨w.heap.size, 0, none⟩) n n) (w.alloc (.cells ((List.replicate n zF0).flatMap frC).toArray 76)) := by
  obtain ⟨i0, hi, hz, hs, hb⟩ := info_parts infoFr
  have h := run_make (P := Tryz.prog) w 35 76 i0 (.agg #[.int .i64 0, .int .i64 0, .int .i64 0, .slice none 0 0]) Tryz.underlying35 hi hz .i64 .i64 n n (by omega) (by omega) (by rw [hb]; omega) (by omega)
  rw [hs] at h
  rw [← madeFr]
  simpa [Value.cells] using h
/-- Frames in the making: these, and zero ones behind. -/
structure CpF (B : Nat) (w : World) (v : Value) (L : List Fr) (k : Nat) (C : List (Fr × Value)) : Prop where
  row : w.ownsRow B 76 4 v L.length ((C ++ List.replicate (L.length - k) zF0).flatMap frC)
  reg : ∀ x ∈ C, RegO B w x.2 x.1.2.2.2
  far : C.Pairwise Apart
  is : C.map Prod.fst = L.take k
section
variable {B k : Nat} {w w' : World} {v : Value} {L : List Fr} {C : List (Fr × Value)}
theorem CpF.adds (h : CpF B w v L k C) (ha : Adds w w') : CpF B w' v L k C := ⟨ownsRow_adds h.row ha, fun x hx => (h.reg x hx).adds ha, h.far, h.is⟩
theorem CpF.len (h : CpF B w v L k C) (hk : k ≤ L.length) : C.length = k := by
  have := congrArg List.length h.is
  simp at this
  omega
theorem CpF.done (h : CpF B w v L L.length C) : FrsO B w v C ∧ C.map Prod.fst = L := by
  have hl := h.len (Nat.le_refl _)
  have hr := h.row
  rw [Nat.sub_self, List.replicate_zero, List.append_nil, ← hl] at hr
  exact ⟨⟨hr, h.reg, h.far⟩, by rw [h.is, List.take_length]⟩
theorem CpF.start (ha : w.ownsRow B 76 4 v L.length ((List.replicate L.length zF0).flatMap frC)) : CpF B w v L 0 [] := ⟨by simpa using ha, fun x hx => (by cases hx), List.Pairwise.nil, by simp⟩
/-- A frame more. -/
theorem CpF.step {g cap : Nat} {x : Fr} {u : Value} (h : CpF B w (.slice (some ⟨g, 0, none⟩) L.length cap) L k C) (hk : k < L.length) (hx : L.getD k (0, 0, 0, []) = x) (hu : RegO B w u x.2.2.2) (hf : ∀ y ∈ C, Apart y (x, u)) :
    CpF B ((((w.setCell ⟨g, k * 4, none⟩ (.int .i64 (x.1 : Int))).setCell ⟨g, k * 4 + 1, none⟩ (.int .i64 (x.2.1 : Int))).setCell ⟨g, k * 4 + 2, none⟩ (.int .i64 x.2.2.1)).setCell ⟨g, k * 4 + 3, none⟩ u) (.slice (some ⟨g, 0, none⟩) L.length cap) L (k + 1) (C ++ [(x, u)]) := by
  have hC := h.len (Nat.le_of_lt hk)
  obtain ⟨cur, hg⟩ := ownB h.row (g := g) rfl
  have ht : TnS g w ((((w.setCell ⟨g, k * 4, none⟩ (.int .i64 (x.1 : Int))).setCell ⟨g, k * 4 + 1, none⟩ (.int .i64 (x.2.1 : Int))).setCell ⟨g, k * 4 + 2, none⟩ (.int .i64 x.2.2.1)).setCell ⟨g, k * 4 + 3, none⟩ u) := (((TnS.setCell _ _ _ _).trans (TnS.setCell _ _ _ _)).trans (TnS.setCell _ _ _ _)).trans (TnS.setCell _ _ _ _)
  obtain ⟨f, pc, d, rs⟩ := x
  refine ⟨?_, ?_, ?_, ?_⟩
  · have e0 := ownsRow_set (ownsRow_set (ownsRow_set (ownsRow_set h.row (k * 4 + 0) (.int .i64 (f : Int))) (k * 4 + 1) (.int .i64 (pc : Int))) (k * 4 + 2) (.int .i64 d)) (k * 4 + 3) u
    obtain ⟨m, hm⟩ : ∃ m, L.length - k = m + 1 := ⟨L.length - k - 1, by omega⟩
    have hm' : L.length - (k + 1) = m := by omega
    have hget : (C ++ List.replicate (L.length - k) zF0)[k]? = some zF0 := by
      rw [List.getElem?_append_right (by omega), hC, Nat.sub_self, hm]
      rfl
    have hlt : k < (C ++ List.replicate (L.length - k) zF0).length := by simp; omega
    have up : ∀ (y z : Fr × Value) (j : Nat) (u : Value), j < 4 → frC z = (frC y).set j u → (((C ++ List.replicate (L.length - k) zF0).set k y).flatMap frC).set (k * 4 + j) u = ((C ++ List.replicate (L.length - k) zF0).set k z).flatMap frC := by
      intro y z j u hj he
      rw [flat_set frC 4 frC_len _ k j hj u z (fun x hx => by
        rw [List.getElem?_set_self hlt] at hx
        obtain rfl := Option.some.inj hx
        exact he), List.set_set]
    have e1 : ((C ++ List.replicate (L.length - k) zF0).set k zF0) = C ++ List.replicate (L.length - k) zF0 := by
      apply List.ext_getElem?
      intro i
      rw [List.getElem?_set]
      split
      · rename_i h; subst h; rw [hget]
      · rfl
    rw [← e1, up zF0 ((f, 0, 0, []), .slice none 0 0) 0 (.int .i64 (f : Int)) (by decide) rfl, up ((f, 0, 0, []), .slice none 0 0) ((f, pc, 0, []), .slice none 0 0) 1 (.int .i64 (pc : Int)) (by decide) rfl, up ((f, pc, 0, []), .slice none 0 0) ((f, pc, d, []), .slice none 0 0) 2 (.int .i64 d) (by decide) rfl, up ((f, pc, d, []), .slice none 0 0) ((f, pc, d, rs), u) 3 u (by decide) rfl] at e0
    have e2 : (C ++ List.replicate (L.length - k) zF0).set k ((f, pc, d, rs), u) = (C ++ [((f, pc, d, rs), u)]) ++ List.replicate (L.length - (k + 1)) zF0 := by
      rw [List.set_append_right _ _ (by omega), hC, Nat.sub_self, hm, hm']
      simp [List.replicate_succ]
    rw [e2] at e0
    exact e0
  · intro y hy
    rcases List.mem_append.1 hy with hy | hy
    · exact (h.reg y hy).tn ht (own_neT (h.reg y hy) hg (by decide))
    · obtain rfl := List.mem_singleton.1 hy
      exact hu.tn ht (own_neT hu hg (by decide))
  · rw [List.pairwise_append]
    exact ⟨h.far, List.pairwise_singleton _ _, fun y hy z hz => by obtain rfl := List.mem_singleton.1 hz; exact hf y hy⟩
  · rw [List.map_append, h.is, List.take_add_one, List.getElem?_eq_getElem hk]
    rw [List.getD_eq_getElem?_getD, List.getElem?_eq_getElem hk] at hx
    simp at hx
    simp [hx]
/-- The next frame's place. -/
theorem CpF.here {g cap : Nat} (h : CpF B w (.slice (some ⟨g, 0, none⟩) L.length cap) L k C) (hk : k < L.length) : w.cell? ⟨g, k * 4, none⟩ = some (.int .i64 0) ∧ w.cell? ⟨g, k * 4 + 1, none⟩ = some (.int .i64 0) ∧ w.cell? ⟨g, k * 4 + 2, none⟩ = some (.int .i64 0) ∧ w.cell? ⟨g, k * 4 + 3, none⟩ = some (.slice none 0 0) ∧ ∀ i, w.frozen? ⟨g, i, none⟩ = false := by
  have hC := h.len (Nat.le_of_lt hk)
  have hget : (C ++ List.replicate (L.length - k) zF0)[k]? = some zF0 := by
    rw [List.getElem?_append_right (by omega), hC, Nat.sub_self, List.getElem?_replicate, if_pos (by omega)]
  have key : ∀ j, j < 4 → ∀ u, (frC zF0)[j]? = some u → w.cell? ⟨g, k * 4 + j, none⟩ = some u := by
    intro j hj u hu
    refine ownsRow_cell h.row (k * 4 + j) ?_
    rw [flat_get frC 4 frC_len _ _ j hj, hget]
    exact hu
  exact ⟨key 0 (by decide) _ rfl, key 1 (by decide) _ rfl, key 2 (by decide) _ rfl, key 3 (by decide) _ rfl, fun i => ownsRow_free h.row i⟩
theorem CpF.form (h : CpF B w v L k C) (h0 : L ≠ []) : ∃ g cap, v = .slice (some ⟨g, 0, none⟩) L.length cap ∧ B ≤ g := by
  rcases h.row.2 with ⟨_, e⟩ | ⟨g, cap, cur, rfl, hb, _⟩
  · exact absurd (List.length_eq_zero_iff.1 e) h0
  · exact ⟨g, cap, rfl, hb⟩
end
theorem FrsO.at {n g cap m : Nat} {w : World} {R : List (Fr × Value)} (h : FrsO n w (.slice (some ⟨g, 0, none⟩) m cap) R) {k : Nat} {x : Fr × Value} (hx : R[k]? = some x) : w.cell? ⟨g, k * 4, none⟩ = some (.int .i64 (x.1.1 : Int)) ∧ w.cell? ⟨g, k * 4 + 1, none⟩ = some (.int .i64 (x.1.2.1 : Int)) ∧ w.cell? ⟨g, k * 4 + 2, none⟩ = some (.int .i64 x.1.2.2.1) ∧ w.cell? ⟨g, k * 4 + 3, none⟩ = some x.2 := by
  obtain ⟨ao, cp, e, _, _⟩ := h.form
  simp only [Value.slice.injEq] at e
  obtain ⟨rfl, rfl, rfl⟩ := e
  have key : ∀ j, j < 4 → ∀ u, (frC x)[j]? = some u → w.cell? ⟨g, k * 4 + j, none⟩ = some u := by
    intro j hj u hu
    refine ownsRow_cell h.row (k * 4 + j) ?_
    rw [flat_get frC 4 frC_len _ _ j hj, hx]
    exact hu
  exact ⟨key 0 (by decide) _ rfl, key 1 (by decide) _ rfl, key 2 (by decide) _ rfl, key 3 (by decide) _ rfl⟩
end Go.Proofs.YtdkgehhlikaocaaGreat
