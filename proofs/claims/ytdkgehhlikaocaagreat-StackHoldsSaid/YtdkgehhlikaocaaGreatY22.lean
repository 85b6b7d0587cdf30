/- Merged: Z13. -/
import Derived.Test.YtdkgehhlikaocaaGreatY21
namespace Go.Proofs.YtdkgehhlikaocaaGreat
open Go Go.RowKit Go.Shelf

section
variable {t : TypeId} {n b g cap : Nat} {w : World} {p : Pg} {fv lv : Value} {R : List (Fr × Value)} {x : Fr} {rv : Value} {res : UInt32}
/-- Refused: nothing but new memory. -/
def RefE (w : World) (er : Int) (e : Ending) (w' : World) : Prop := e = .panicked [{ v := refuV er, recovered := false }] ∧ Adds w w'
set_option maxRecDepth 100000 in
set_option maxHeartbeats 4000000 in
theorem stepS_arg (most : Int) (hm : ¬ (1 ≤ most ∧ most ≤ 9223372036854775807)) (v : Value) : Calls Tryz.prog 38 #[v, .int .i64 most] w (RefE w 2) := by
  have HH := Lib.hid (fun (W : World) => hold_bd 1 9223372036854775807 most W)
  rw [show inBd 1 9223372036854775807 most = false by unfold inBd; exact decide_eq_false hm] at HH
  clear hm
  go_enter Tryz.func38, Tryz.ntmps38
  go_wp2_with (first
    | (go_at_call 45; refine (HH.out _).mono ?_; rintro e w1 ⟨rfl, a1⟩; have A1 := Lib.hid a1; clear a1)
    | (go_at_call 37; with_reducible refine (must_no _ _).mono ?_; rintro e w4 ⟨rfl, rfl⟩))
  exact ⟨rfl, rfl, A1.out⟩
set_option maxRecDepth 100000 in
set_option maxHeartbeats 4000000 in
theorem stepS_ended (h : PileO t n w b p fv lv [] res) (most : Int) (hm : 1 ≤ most ∧ most ≤ 9223372036854775807) : Calls Tryz.prog 38 #[.pointer (some ⟨b, 0, none⟩), .int .i64 most] w (RefE w 220) := by
  have HH := Lib.hid (fun (W : World) => hold_bd 1 9223372036854775807 most W)
  rw [show inBd 1 9223372036854775807 most = true by unfold inBd; exact decide_eq_true hm] at HH
  have HE := Lib.hid (fun (W : World) (ha : Adds w W) => endedS_any (h.adds ha))
  simp only [List.length_nil, decide_true] at HE
  clear hm h
  go_enter Tryz.func38, Tryz.ntmps38
  go_wp2_with (first
    | (go_at_call 45; refine (HH.out _).mono ?_; rintro e w1 ⟨rfl, a1⟩; have A1 := Lib.hid a1; clear a1)
    | (go_at_call 37; with_reducible refine (must_yes _ _).mono ?_; rintro e w4 ⟨rfl, rfl⟩)
    | (go_at_call 42; refine (HE.out _ A1.out).mono ?_; rintro e w5 ⟨rfl, rfl⟩)
    | (go_at_call 37; with_reducible refine (must_no _ _).mono ?_; rintro e w4 ⟨rfl, rfl⟩))
  exact ⟨rfl, rfl, A1.out⟩
theorem TopO.up {y : Fr × Value} (h : TopO t n w b p fv g cap R y res) {w' : World} (ha : Adds w w') : TopO t n w' b p fv g cap R y res := PileO.adds h ha
set_option maxRecDepth 100000 in
set_option maxHeartbeats 8000000 in
theorem stepS_shared (h : TopO t n w b p fv g cap R (x, rv) res) (hok : ∀ f ∈ p.1, ∀ i ∈ f.2, OkIn i) (hf : x.1 < p.1.length) (hpc : x.2.1 < (p.1.getD x.1 zF).2.length) (most : Int) (hm : 1 ≤ most ∧ most ≤ 9223372036854775807) (i : In) (hi : insT p x = i) (hwf : (Lit.int .i64 i.1).wf = true) (hl : localB i.1 = false) : Calls Tryz.prog 38 #[.pointer (some ⟨b, 0, none⟩), .int .i64 most] w (RefE w 221) := by
  have HH := Lib.hid (fun (W : World) => hold_bd 1 9223372036854775807 most W)
  rw [show inBd 1 9223372036854775807 most = true by unfold inBd; exact decide_eq_true hm] at HH
  have HE := Lib.hid (fun (W : World) (ha : Adds w W) => endedS_any (h.adds ha))
  simp only [List.length_append, List.length_singleton, Nat.add_eq_zero_iff, Nat.one_ne_zero, and_false, decide_false] at HE
  have HNx := Lib.hid (fun (W : World) (ha : Adds w W) => nextS_any (TopO.up h ha) hok hf hpc)
  simp only [hi] at HNx
  have HN := Lib.hid h.low
  have HL := Lib.hid (fun bm W h => look_nodeed i.1 hwf hl bm W h)
  obtain ⟨i0, i1, i2, i3, i4⟩ := i
  clear hl hwf
  obtain ⟨xf, hxf⟩ : ∃ xf, x.1 = xf := ⟨_, rfl⟩
  obtain ⟨xp, hxp⟩ : ∃ xp, x.2.1 = xp := ⟨_, rfl⟩
  simp only [hxf, hxp] at HNx
  unfold insV insC at HNx
  clear h hm hf hpc hxf hxp hi hok
  go_enter Tryz.func38, Tryz.ntmps38
  go_wp2_with (first
    | (go_at_call 45; refine (HH.out _).mono ?_; rintro e w1 ⟨rfl, a1⟩; have A1 := Lib.hid a1; clear a1)
    | (go_at_call 37; with_reducible refine (must_yes _ _).mono ?_; rintro e w4 ⟨rfl, rfl⟩)
    | (go_at_call 42; refine (HE.out _ A1.out).mono ?_; rintro e w5 ⟨rfl, rfl⟩)
    | (go_at_call 43; refine (HNx.out _ A1.out).mono ?_; rintro e w6 ⟨rfl, a6⟩; have A6 := Lib.hid (Adds.trans A1.out a6); clear a6))
  obtain ⟨w7, hw7⟩ : ∃ w7, (w6.alloc (Obj.cells #[Value.int IntKind.i64 i0, Value.int IntKind.i64 i1, Value.int IntKind.i64 i2, Value.int IntKind.i64 i3, Value.int IntKind.u32 i4] 56)).alloc (Obj.cells #[Value.int IntKind.i64 (xf : Int), Value.int IntKind.i64 (xp : Int)] 58) = w7 := ⟨_, rfl⟩
  rw [hw7]
  have A67 := Lib.hid (show Adds (w6.alloc (Obj.cells #[Value.int IntKind.i64 i0, Value.int IntKind.i64 i1, Value.int IntKind.i64 i2, Value.int IntKind.i64 i3, Value.int IntKind.u32 i4] 56)) w7 by rw [← hw7]; exact Adds.new _ _)
  have A7 := Lib.hid (show Adds w w7 from Adds.trans A6.out (Adds.trans (Adds.new _ _) A67.out))
  have HI := Lib.hid (fun (W : World) (ha : Adds w7 W) => insCell rfl (Adds.trans A67.out ha))
  clear hw7
  obtain ⟨c0, _, _, _, _⟩ := HI.out _ (Adds.drew w7)
  refine wp_calmC ?_
  go_region_with (go_at_call 54; refine (deeds_any _).mono ?_; rintro e w8 ⟨bm, rfl, _, own, a8⟩; have A8 := Lib.hid (Adds.trans A7.out (Adds.trans (Adds.drew _) a8)); obtain ⟨c0, c1, c2, c3, c4⟩ := HI.out _ (Adds.trans (Adds.drew _) a8); have hl := HL.out bm w8 own; clear a8 own)
  all_goals (
    go_wp2_with (go_at_call 37; with_reducible refine (must_no _ _).mono ?_; rintro e w4 ⟨rfl, rfl⟩)
    exact ⟨rfl, rfl, A8.out⟩)
set_option maxRecDepth 100000 in
set_option maxHeartbeats 8000000 in
theorem stepS_deep (h : TopO t n w b p fv g cap R (x, rv) res) (hok : ∀ f ∈ p.1, ∀ i ∈ f.2, OkIn i) (hf : x.1 < p.1.length) (hpc : x.2.1 < (p.1.getD x.1 zF).2.length) (most : Int) (hm : 1 ≤ most ∧ most ≤ 9223372036854775807) (i : In) (hi : insT p x = i) (hl : localB i.1 = true) (h8 : i.1 = 8) (hd : ¬ ((R.length : Int) + 1 < most)) : Calls Tryz.prog 38 #[.pointer (some ⟨b, 0, none⟩), .int .i64 most] w (RefE w 222) := by
  have HH := Lib.hid (fun (W : World) => hold_bd 1 9223372036854775807 most W)
  rw [show inBd 1 9223372036854775807 most = true by unfold inBd; exact decide_eq_true hm] at HH
  have HE := Lib.hid (fun (W : World) (ha : Adds w W) => endedS_any (h.adds ha))
  simp only [List.length_append, List.length_singleton, Nat.add_eq_zero_iff, Nat.one_ne_zero, and_false, decide_false] at HE
  have HNx := Lib.hid (fun (W : World) (ha : Adds w W) => nextS_any (TopO.up h ha) hok hf hpc)
  simp only [hi] at HNx
  have HN := Lib.hid h.low
  have hkm : i.1.toNat ∈ ([1, 2, 3, 4, 5, 8, 9, 19] : List Nat) := by unfold localB at hl; simp at hl ⊢; omega
  have hin : ((i.1.toNat : Nat) : Int) = i.1 := by unfold localB at hl; simp at hl; omega
  have HL := Lib.hid (fun bm W h => look_deed i.1.toNat hkm bm W h)
  rw [hin] at HL
  have ea := enter_deed i.1.toNat hkm
  have HC4 := Lib.hid (fun (W : World) (ha : Adds w W) => ha.cellAt h.cells.1.1)
  obtain ⟨z, hz⟩ : ∃ z, R.length = z := ⟨_, rfl⟩
  rw [hz] at HC4 hd
  generalize deedF i.1.toNat = fk at HL ea
  obtain ⟨i0, i1, i2, i3, i4⟩ := i
  simp only at h8
  have he8 : (i0 == 8) = true := by simp [h8]
  have he8b : (i0 != 8) = false := by simp [h8]
  have hdd : decide ((z : Int) + 1 < most) = false := decide_eq_false hd
  clear hl hkm hin hz h8 hd
  obtain ⟨xf, hxf⟩ : ∃ xf, x.1 = xf := ⟨_, rfl⟩
  obtain ⟨xp, hxp⟩ : ∃ xp, x.2.1 = xp := ⟨_, rfl⟩
  simp only [hxf, hxp] at HNx
  unfold insV insC at HNx
  clear h hm hf hpc hxf hxp hi hok
  go_enter Tryz.func38, Tryz.ntmps38
  go_wp2_with (first
    | (go_at_call 45; refine (HH.out _).mono ?_; rintro e w1 ⟨rfl, a1⟩; have A1 := Lib.hid a1; clear a1)
    | (go_at_call 37; with_reducible refine (must_yes _ _).mono ?_; rintro e w4 ⟨rfl, rfl⟩)
    | (go_at_call 42; refine (HE.out _ A1.out).mono ?_; rintro e w5 ⟨rfl, rfl⟩)
    | (go_at_call 43; refine (HNx.out _ A1.out).mono ?_; rintro e w6 ⟨rfl, a6⟩; have A6 := Lib.hid (Adds.trans A1.out a6); clear a6))
  obtain ⟨w7, hw7⟩ : ∃ w7, (w6.alloc (Obj.cells #[Value.int IntKind.i64 i0, Value.int IntKind.i64 i1, Value.int IntKind.i64 i2, Value.int IntKind.i64 i3, Value.int IntKind.u32 i4] 56)).alloc (Obj.cells #[Value.int IntKind.i64 (xf : Int), Value.int IntKind.i64 (xp : Int)] 58) = w7 := ⟨_, rfl⟩
  rw [hw7]
  have A67 := Lib.hid (show Adds (w6.alloc (Obj.cells #[Value.int IntKind.i64 i0, Value.int IntKind.i64 i1, Value.int IntKind.i64 i2, Value.int IntKind.i64 i3, Value.int IntKind.u32 i4] 56)) w7 by rw [← hw7]; exact Adds.new _ _)
  have A7 := Lib.hid (show Adds w w7 from Adds.trans A6.out (Adds.trans (Adds.new _ _) A67.out))
  have HI := Lib.hid (fun (W : World) (ha : Adds w7 W) => insCell rfl (Adds.trans A67.out ha))
  clear hw7
  obtain ⟨c0, _, _, _, _⟩ := HI.out _ (Adds.drew w7)
  refine wp_calmC ?_
  go_region_with (go_at_call 54; refine (deeds_any _).mono ?_; rintro e w8 ⟨bm, rfl, _, own, a8⟩; have A8 := Lib.hid (Adds.trans A7.out (Adds.trans (Adds.drew _) a8)); obtain ⟨c0, c1, c2, c3, c4⟩ := HI.out _ (Adds.trans (Adds.drew _) a8); have hl := HL.out bm w8 own; clear a8 own)
  all_goals (
    have c44 := HC4.out _ A8.out
    go_wp2_with (first
      | (go_at_call 37; with_reducible refine (must_yes _ _).mono ?_; rintro e w4 ⟨rfl, rfl⟩)
      | (go_at_call 37; with_reducible refine (must_no _ _).mono ?_; rintro e w4 ⟨rfl, rfl⟩))
    exact ⟨rfl, rfl, A8.out⟩)
set_option maxRecDepth 100000 in
set_option maxHeartbeats 8000000 in
theorem stepS_op (h : TopO t n w b p fv g cap R (x, rv) res) (hok : ∀ f ∈ p.1, ∀ i ∈ f.2, OkIn i) (hf : x.1 < p.1.length) (hpc : x.2.1 < (p.1.getD x.1 zF).2.length) (most : Int) (hm : 1 ≤ most ∧ most ≤ 9223372036854775807) (i : In) (hi : insT p x = i) (h8 : i.1 ≠ 8) (hD : DeedOk p (R.map Prod.fst) x i) : Calls Tryz.prog 38 #[.pointer (some ⟨b, 0, none⟩), .int .i64 most] w (DeedE t n w b p (deedP p (R.map Prod.fst) x i res)) := by
  have HH := Lib.hid (fun (W : World) => hold_bd 1 9223372036854775807 most W)
  rw [show inBd 1 9223372036854775807 most = true by unfold inBd; exact decide_eq_true hm] at HH
  have HE := Lib.hid (fun (W : World) (ha : Adds w W) => endedS_any (h.adds ha))
  simp only [List.length_append, List.length_singleton, Nat.add_eq_zero_iff, Nat.one_ne_zero, and_false, decide_false] at HE
  have HNx := Lib.hid (fun (W : World) (ha : Adds w W) => nextS_any (TopO.up h ha) hok hf hpc)
  simp only [hi] at HNx
  have HN := Lib.hid h.low
  have hl := hD.loc
  have hkm : i.1.toNat ∈ ([1, 2, 3, 4, 5, 8, 9, 19] : List Nat) := by unfold localB at hl; simp at hl ⊢; omega
  have hin : ((i.1.toNat : Nat) : Int) = i.1 := by unfold localB at hl; simp at hl; omega
  have HL := Lib.hid (fun bm W h => look_deed i.1.toNat hkm bm W h)
  rw [hin] at HL
  have ea := enter_deed i.1.toNat hkm
  have HDd := Lib.hid (fun (W : World) (ha : Adds w W) => deed_any (TopO.up h ha) i hD)
  obtain ⟨q, hq⟩ : ∃ q, deedP p (R.map Prod.fst) x i res = q := ⟨_, rfl⟩
  simp only [hq] at HDd ⊢
  generalize deedF i.1.toNat = fk at HL ea HDd
  obtain ⟨i0, i1, i2, i3, i4⟩ := i
  unfold insV insC at HDd
  simp only at h8
  have hne8 : (i0 == 8) = false := by rw [beq_eq_false_iff_ne]; exact h8
  have hne8b : (i0 != 8) = true := by simp [h8]
  clear hl hkm hin h8 hD hq
  obtain ⟨xf, hxf⟩ : ∃ xf, x.1 = xf := ⟨_, rfl⟩
  obtain ⟨xp, hxp⟩ : ∃ xp, x.2.1 = xp := ⟨_, rfl⟩
  simp only [hxf, hxp] at HNx
  unfold insV insC at HNx
  clear h hm hf hpc hxf hxp hi hok
  go_enter Tryz.func38, Tryz.ntmps38
  go_wp2_with (first
    | (go_at_call 45; refine (HH.out _).mono ?_; rintro e w1 ⟨rfl, a1⟩; have A1 := Lib.hid a1; clear a1)
    | (go_at_call 37; with_reducible refine (must_yes _ _).mono ?_; rintro e w4 ⟨rfl, rfl⟩)
    | (go_at_call 42; refine (HE.out _ A1.out).mono ?_; rintro e w5 ⟨rfl, rfl⟩)
    | (go_at_call 43; refine (HNx.out _ A1.out).mono ?_; rintro e w6 ⟨rfl, a6⟩; have A6 := Lib.hid (Adds.trans A1.out a6); clear a6))
  obtain ⟨w7, hw7⟩ : ∃ w7, (w6.alloc (Obj.cells #[Value.int IntKind.i64 i0, Value.int IntKind.i64 i1, Value.int IntKind.i64 i2, Value.int IntKind.i64 i3, Value.int IntKind.u32 i4] 56)).alloc (Obj.cells #[Value.int IntKind.i64 (xf : Int), Value.int IntKind.i64 (xp : Int)] 58) = w7 := ⟨_, rfl⟩
  rw [hw7]
  have A67 := Lib.hid (show Adds (w6.alloc (Obj.cells #[Value.int IntKind.i64 i0, Value.int IntKind.i64 i1, Value.int IntKind.i64 i2, Value.int IntKind.i64 i3, Value.int IntKind.u32 i4] 56)) w7 by rw [← hw7]; exact Adds.new _ _)
  have A7 := Lib.hid (show Adds w w7 from Adds.trans A6.out (Adds.trans (Adds.new _ _) A67.out))
  have HI := Lib.hid (fun (W : World) (ha : Adds w7 W) => insCell rfl (Adds.trans A67.out ha))
  clear hw7
  obtain ⟨c0, _, _, _, _⟩ := HI.out _ (Adds.drew w7)
  refine wp_calmC ?_
  go_region_with (go_at_call 54; refine (deeds_any _).mono ?_; rintro e w8 ⟨bm, rfl, _, own, a8⟩; have A8 := Lib.hid (Adds.trans A7.out (Adds.trans (Adds.drew _) a8)); obtain ⟨c0, c1, c2, c3, c4⟩ := HI.out _ (Adds.trans (Adds.drew _) a8); have hl := HL.out bm w8 own; clear a8 own)
  all_goals (
    go_wp2_with (go_at_call 37; with_reducible refine (must_yes _ _).mono ?_; rintro e w4 ⟨rfl, rfl⟩)
    refine (HDd.out _ A8.out).mono ?_
    rintro e w9 hd9
    by_cases h0 : q.2.2 = 0
    · obtain ⟨rfl, hp, hb⟩ := hd9.1 h0
      have HP := Lib.hid hp
      have HB := Lib.hid (Low.trans (Low.mono A8.out HN.out) hb)
      have H0 := Lib.hid h0
      clear hp hb hd9 h0
      go_wp2
      go_end0
      exact DeedE.done H0.out ⟨by simp, HP.out, HB.out⟩
    · obtain ⟨rfl, ha⟩ := hd9.2 h0
      exact ⟨rfl, fun h => absurd h h0, fun _ => ⟨rfl, Adds.trans A8.out ha⟩⟩)
set_option maxRecDepth 100000 in
set_option maxHeartbeats 8000000 in
theorem stepS_call (h : TopO t n w b p fv g cap R (x, rv) res) (hok : ∀ f ∈ p.1, ∀ i ∈ f.2, OkIn i) (hf : x.1 < p.1.length) (hpc : x.2.1 < (p.1.getD x.1 zF).2.length) (most : Int) (hm : 1 ≤ most ∧ most ≤ 9223372036854775807) (i : In) (hi : insT p x = i) (h8 : i.1 = 8) (hd : (R.length : Int) + 1 < most) (hD : DeedOk p (R.map Prod.fst) x i) : Calls Tryz.prog 38 #[.pointer (some ⟨b, 0, none⟩), .int .i64 most] w (DeedE t n w b p (deedP p (R.map Prod.fst) x i res)) := by
  have HH := Lib.hid (fun (W : World) => hold_bd 1 9223372036854775807 most W)
  rw [show inBd 1 9223372036854775807 most = true by unfold inBd; exact decide_eq_true hm] at HH
  have HE := Lib.hid (fun (W : World) (ha : Adds w W) => endedS_any (h.adds ha))
  simp only [List.length_append, List.length_singleton, Nat.add_eq_zero_iff, Nat.one_ne_zero, and_false, decide_false] at HE
  have HNx := Lib.hid (fun (W : World) (ha : Adds w W) => nextS_any (TopO.up h ha) hok hf hpc)
  simp only [hi] at HNx
  have HN := Lib.hid h.low
  have hl := hD.loc
  have hkm : i.1.toNat ∈ ([1, 2, 3, 4, 5, 8, 9, 19] : List Nat) := by unfold localB at hl; simp at hl ⊢; omega
  have hin : ((i.1.toNat : Nat) : Int) = i.1 := by unfold localB at hl; simp at hl; omega
  have HL := Lib.hid (fun bm W h => look_deed i.1.toNat hkm bm W h)
  rw [hin] at HL
  have ea := enter_deed i.1.toNat hkm
  have HC4 := Lib.hid (fun (W : World) (ha : Adds w W) => ha.cellAt h.cells.1.1)
  obtain ⟨z, hz⟩ : ∃ z, R.length = z := ⟨_, rfl⟩
  rw [hz] at HC4 hd
  have HDd := Lib.hid (fun (W : World) (ha : Adds w W) => deed_any (TopO.up h ha) i hD)
  obtain ⟨q, hq⟩ : ∃ q, deedP p (R.map Prod.fst) x i res = q := ⟨_, rfl⟩
  simp only [hq] at HDd ⊢
  generalize deedF i.1.toNat = fk at HL ea HDd
  obtain ⟨i0, i1, i2, i3, i4⟩ := i
  unfold insV insC at HDd
  simp only at h8
  have he8 : (i0 == 8) = true := by simp [h8]
  have he8b : (i0 != 8) = false := by simp [h8]
  clear hl hkm hin hD hq hz h8
  obtain ⟨xf, hxf⟩ : ∃ xf, x.1 = xf := ⟨_, rfl⟩
  obtain ⟨xp, hxp⟩ : ∃ xp, x.2.1 = xp := ⟨_, rfl⟩
  simp only [hxf, hxp] at HNx
  unfold insV insC at HNx
  clear h hm hf hpc hxf hxp hi hok
  go_enter Tryz.func38, Tryz.ntmps38
  go_wp2_with (first
    | (go_at_call 45; refine (HH.out _).mono ?_; rintro e w1 ⟨rfl, a1⟩; have A1 := Lib.hid a1; clear a1)
    | (go_at_call 37; with_reducible refine (must_yes _ _).mono ?_; rintro e w4 ⟨rfl, rfl⟩)
    | (go_at_call 42; refine (HE.out _ A1.out).mono ?_; rintro e w5 ⟨rfl, rfl⟩)
    | (go_at_call 43; refine (HNx.out _ A1.out).mono ?_; rintro e w6 ⟨rfl, a6⟩; have A6 := Lib.hid (Adds.trans A1.out a6); clear a6))
  obtain ⟨w7, hw7⟩ : ∃ w7, (w6.alloc (Obj.cells #[Value.int IntKind.i64 i0, Value.int IntKind.i64 i1, Value.int IntKind.i64 i2, Value.int IntKind.i64 i3, Value.int IntKind.u32 i4] 56)).alloc (Obj.cells #[Value.int IntKind.i64 (xf : Int), Value.int IntKind.i64 (xp : Int)] 58) = w7 := ⟨_, rfl⟩
  rw [hw7]
  have A67 := Lib.hid (show Adds (w6.alloc (Obj.cells #[Value.int IntKind.i64 i0, Value.int IntKind.i64 i1, Value.int IntKind.i64 i2, Value.int IntKind.i64 i3, Value.int IntKind.u32 i4] 56)) w7 by rw [← hw7]; exact Adds.new _ _)
  have A7 := Lib.hid (show Adds w w7 from Adds.trans A6.out (Adds.trans (Adds.new _ _) A67.out))
  have HI := Lib.hid (fun (W : World) (ha : Adds w7 W) => insCell rfl (Adds.trans A67.out ha))
  clear hw7
  obtain ⟨c0, _, _, _, _⟩ := HI.out _ (Adds.drew w7)
  refine wp_calmC ?_
  go_region_with (go_at_call 54; refine (deeds_any _).mono ?_; rintro e w8 ⟨bm, rfl, _, own, a8⟩; have A8 := Lib.hid (Adds.trans A7.out (Adds.trans (Adds.drew _) a8)); obtain ⟨c0, c1, c2, c3, c4⟩ := HI.out _ (Adds.trans (Adds.drew _) a8); have hl := HL.out bm w8 own; clear a8 own)
  all_goals (
    have c44 := HC4.out _ A8.out
    go_wp2_with (go_at_call 37; with_reducible refine (must_yes _ _).mono ?_; rintro e w4 ⟨rfl, rfl⟩)
    refine (HDd.out _ A8.out).mono ?_
    rintro e w9 hd9
    by_cases h0 : q.2.2 = 0
    · obtain ⟨rfl, hp, hb⟩ := hd9.1 h0
      have HP := Lib.hid hp
      have HB := Lib.hid (Low.trans (Low.mono A8.out HN.out) hb)
      have H0 := Lib.hid h0
      clear hp hb hd9 h0
      go_wp2
      go_end0
      exact DeedE.done H0.out ⟨by simp, HP.out, HB.out⟩
    · obtain ⟨rfl, ha⟩ := hd9.2 h0
      exact ⟨rfl, fun h => absurd h h0, fun _ => ⟨rfl, Adds.trans A8.out ha⟩⟩)
end
end Go.Proofs.YtdkgehhlikaocaaGreat
