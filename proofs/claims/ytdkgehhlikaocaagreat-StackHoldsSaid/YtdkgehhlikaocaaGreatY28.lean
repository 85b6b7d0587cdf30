/- Merged: Z21. -/
import Derived.Test.YtdkgehhlikaocaaGreatY24
namespace Go.Proofs.YtdkgehhlikaocaaGreat
open Go Go.RowKit Go.Shelf

section
variable {t : TypeId} {n b g cap : Nat} {w : World} {p : Pg} {fv lv : Value} {R : List (Fr × Value)} {f pc : Nat} {d : Int} {rs : List UInt32} {rv : Value} {res : UInt32}
def putB (reg : Int) (u : UInt32) (rs : List UInt32) : List UInt32 := if reg = -1 then rs else rs.set reg.toNat u
theorem putR_B (reg : Int) (u : UInt32) : putR reg u ((f, pc, d, rs), rv) = ((f, pc, d, putB reg u rs), rv) := by unfold putR putB; split <;> rfl
set_option maxRecDepth 100000 in
set_option maxHeartbeats 4000000 in
theorem passS_ended (h : PileO t n w b p fv lv [] res) (reg u : Int) : Calls Tryz.prog 40 #[.pointer (some ⟨b, 0, none⟩), .int .i64 reg, .int .u32 u] w (RefE w 220) := by
  have HE := Lib.hid (endedS_any h)
  simp only [List.length_nil, decide_true] at HE
  clear h
  go_enter Tryz.func40, Tryz.ntmps40
  go_wp2_with (first
    | (go_at_call 42; refine HE.out.mono ?_; rintro e w5 ⟨rfl, rfl⟩)
    | (go_at_call 37; with_reducible refine (must_no _ _).mono ?_; rintro e w4 ⟨rfl, rfl⟩))
  exact ⟨rfl, rfl, Adds.refl _⟩
set_option maxRecDepth 100000 in
set_option maxHeartbeats 8000000 in
theorem passS_local (h : TopO t n w b p fv g cap R ((f, pc, d, rs), rv) res) (hok : ∀ f ∈ p.1, ∀ i ∈ f.2, OkIn i) (hf : f < p.1.length) (hpc : pc < (p.1.getD f zF).2.length) (reg : Int) (u : UInt32) (i : In) (hi : insT p (f, pc, d, rs) = i) (hl : localB i.1 = true) : Calls Tryz.prog 40 #[.pointer (some ⟨b, 0, none⟩), .int .i64 reg, .int .u32 (u.toNat : Nat)] w (RefE w 223) := by
  have HE := Lib.hid (endedS_any h)
  simp only [List.length_append, List.length_singleton, Nat.add_eq_zero_iff, Nat.one_ne_zero, and_false, decide_false] at HE
  have HNx := Lib.hid (nextS_any h hok hf hpc)
  simp only [hi] at HNx
  have HN := Lib.hid h.low
  have hkm : i.1.toNat ∈ ([1, 2, 3, 4, 5, 8, 9, 19] : List Nat) := by unfold localB at hl; simp at hl ⊢; omega
  have hin : ((i.1.toNat : Nat) : Int) = i.1 := by unfold localB at hl; simp at hl; omega
  have HL := Lib.hid (fun bm W h => look_deed i.1.toNat hkm bm W h)
  rw [hin] at HL
  generalize deedF i.1.toNat = fk at HL
  obtain ⟨i0, i1, i2, i3, i4⟩ := i
  clear hl hkm hin
  unfold insV insC at HNx
  clear h hf hpc hi hok
  go_enter Tryz.func40, Tryz.ntmps40
  go_wp2_with (first
    | (go_at_call 37; with_reducible refine (must_yes _ _).mono ?_; rintro e w4 ⟨rfl, rfl⟩)
    | (go_at_call 42; refine HE.out.mono ?_; rintro e w5 ⟨rfl, rfl⟩)
    | (go_at_call 43; refine HNx.out.mono ?_; rintro e w6 ⟨rfl, a6⟩; have A6 := Lib.hid a6; clear a6))
  obtain ⟨w7, hw7⟩ : ∃ w7, (w6.alloc (Obj.cells #[Value.int IntKind.i64 i0, Value.int IntKind.i64 i1, Value.int IntKind.i64 i2, Value.int IntKind.i64 i3, Value.int IntKind.u32 i4] 56)).alloc (Obj.cells #[Value.int IntKind.i64 (f : Int), Value.int IntKind.i64 (pc : Int)] 58) = w7 := ⟨_, rfl⟩
  rw [hw7]
  have A67 := Lib.hid (show Adds (w6.alloc (Obj.cells #[Value.int IntKind.i64 i0, Value.int IntKind.i64 i1, Value.int IntKind.i64 i2, Value.int IntKind.i64 i3, Value.int IntKind.u32 i4] 56)) w7 by rw [← hw7]; exact Adds.new _ _)
  have A7 := Lib.hid (show Adds w w7 from Adds.trans A6.out (Adds.trans (Adds.new _ _) A67.out))
  have HI := Lib.hid (fun (W : World) (ha : Adds w7 W) => insCell rfl (Adds.trans A67.out ha))
  clear hw7
  obtain ⟨c0, _, _, _, _⟩ := HI.out _ (Adds.drew w7)
  refine wp_calmC ?_
  go_region_with (go_at_call 54; refine (deeds_any _).mono ?_; rintro e w8 ⟨bm, rfl, _, own, a8⟩; have A8 := Lib.hid (Adds.trans A7.out (Adds.trans (Adds.drew _) a8)); obtain ⟨c0, c1, c2, c3, c4⟩ := HI.out _ (Adds.trans (Adds.drew _) a8); have hl := HL.out bm w8 own; clear a8 own)
  all_goals (
    go_wp2_with (go_at_call 37; with_reducible refine (must_no _ _).mono ?_; rintro e w4 ⟨rfl, rfl⟩)
    exact ⟨rfl, rfl, A8.out⟩)
set_option maxRecDepth 100000 in
set_option maxHeartbeats 8000000 in
theorem passS_arg (h : TopO t n w b p fv g cap R ((f, pc, d, rs), rv) res) (hok : ∀ f ∈ p.1, ∀ i ∈ f.2, OkIn i) (hf : f < p.1.length) (hpc : pc < (p.1.getD f zF).2.length) (reg : Int) (u : UInt32) (i : In) (hi : insT p (f, pc, d, rs) = i) (hwf : (Lit.int .i64 i.1).wf = true) (hl : localB i.1 = false) (hr : ¬ (-1 ≤ reg ∧ reg ≤ (rs.length : Int) - 1)) : Calls Tryz.prog 40 #[.pointer (some ⟨b, 0, none⟩), .int .i64 reg, .int .u32 (u.toNat : Nat)] w (RefE w 2) := by
  have HE := Lib.hid (endedS_any h)
  simp only [List.length_append, List.length_singleton, Nat.add_eq_zero_iff, Nat.one_ne_zero, and_false, decide_false] at HE
  have HNx := Lib.hid (nextS_any h hok hf hpc)
  simp only [hi] at HNx
  have HN := Lib.hid h.low
  have HRg := Lib.hid (fun (W : World) (ha : Adds w W) => regsS_any (TopO.up h ha) (-1))
  have HB := Lib.hid (fun (W : World) => hold_bd (-1) ((rs.length : Int) - 1) reg W)
  rw [show inBd (-1) ((rs.length : Int) - 1) reg = false by unfold inBd; exact decide_eq_false hr] at HB
  have HL := Lib.hid (fun bm W h => look_nodeed i.1 hwf hl bm W h)
  obtain ⟨i0, i1, i2, i3, i4⟩ := i
  clear hl hwf
  unfold insV insC at HNx
  clear h hf hpc hi hok
  go_enter Tryz.func40, Tryz.ntmps40
  go_wp2_with (first
    | (go_at_call 37; with_reducible refine (must_yes _ _).mono ?_; rintro e w4 ⟨rfl, rfl⟩)
    | (go_at_call 42; refine HE.out.mono ?_; rintro e w5 ⟨rfl, rfl⟩)
    | (go_at_call 43; refine HNx.out.mono ?_; rintro e w6 ⟨rfl, a6⟩; have A6 := Lib.hid a6; clear a6))
  obtain ⟨w7, hw7⟩ : ∃ w7, (w6.alloc (Obj.cells #[Value.int IntKind.i64 i0, Value.int IntKind.i64 i1, Value.int IntKind.i64 i2, Value.int IntKind.i64 i3, Value.int IntKind.u32 i4] 56)).alloc (Obj.cells #[Value.int IntKind.i64 (f : Int), Value.int IntKind.i64 (pc : Int)] 58) = w7 := ⟨_, rfl⟩
  rw [hw7]
  have A67 := Lib.hid (show Adds (w6.alloc (Obj.cells #[Value.int IntKind.i64 i0, Value.int IntKind.i64 i1, Value.int IntKind.i64 i2, Value.int IntKind.i64 i3, Value.int IntKind.u32 i4] 56)) w7 by rw [← hw7]; exact Adds.new _ _)
  have A7 := Lib.hid (show Adds w w7 from Adds.trans A6.out (Adds.trans (Adds.new _ _) A67.out))
  have HI := Lib.hid (fun (W : World) (ha : Adds w7 W) => insCell rfl (Adds.trans A67.out ha))
  clear hw7
  obtain ⟨c0, _, _, _, _⟩ := HI.out _ (Adds.drew w7)
  refine wp_calmC ?_
  go_region_with (go_at_call 54; refine (deeds_any _).mono ?_; rintro e w8 ⟨bm, rfl, _, own, a8⟩; have A8 := Lib.hid (Adds.trans A7.out (Adds.trans (Adds.drew _) a8)); obtain ⟨c0, c1, c2, c3, c4⟩ := HI.out _ (Adds.trans (Adds.drew _) a8); have hl := HL.out bm w8 own; clear a8 own)
  all_goals (
    go_wp2_with (first
      | (go_at_call 37; with_reducible refine (must_yes _ _).mono ?_; rintro e w4 ⟨rfl, rfl⟩)
      | (go_at_call 44; refine (HRg.out _ A8.out).mono ?_; rintro e w9 ⟨rfl, a9⟩; have A9 := Lib.hid (Adds.trans A8.out a9); clear a9)
      | (go_at_call 45; refine (HB.out _).mono ?_; rintro e wa ⟨rfl, aa⟩; have AA := Lib.hid (Adds.trans A9.out aa); clear aa)
      | (go_at_call 37; with_reducible refine (must_no _ _).mono ?_; rintro e w4 ⟨rfl, rfl⟩))
    exact ⟨rfl, rfl, AA.out⟩)
set_option maxRecDepth 100000 in
set_option maxHeartbeats 8000000 in
theorem passS_does (h : TopO t n w b p fv g cap R ((f, pc, d, rs), rv) res) (hok : ∀ f ∈ p.1, ∀ i ∈ f.2, OkIn i) (hf : f < p.1.length) (hpc : pc < (p.1.getD f zF).2.length) (reg : Int) (u : UInt32) (i : In) (hi : insT p (f, pc, d, rs) = i) (hwf : (Lit.int .i64 i.1).wf = true) (hl : localB i.1 = false) (hr : -1 ≤ reg ∧ reg ≤ (rs.length : Int) - 1) (hpm : pc < 9223372036854775807) : Calls Tryz.prog 40 #[.pointer (some ⟨b, 0, none⟩), .int .i64 reg, .int .u32 (u.toNat : Nat)] w (fun e w' => e = .returned (.tuple #[]) ∧ TopO t n w' b p fv g cap R ((f, pc + 1, d, putB reg u rs), rv) res ∧ Low n w w') := by
  have HE := Lib.hid (endedS_any h)
  simp only [List.length_append, List.length_singleton, Nat.add_eq_zero_iff, Nat.one_ne_zero, and_false, decide_false] at HE
  have HNx := Lib.hid (nextS_any h hok hf hpc)
  simp only [hi] at HNx
  have HN := Lib.hid h.low
  have HRg := Lib.hid (fun (W : World) (ha : Adds w W) => regsS_any (TopO.up h ha) (-1))
  have HB := Lib.hid (fun (W : World) => hold_bd (-1) ((rs.length : Int) - 1) reg W)
  rw [show inBd (-1) ((rs.length : Int) - 1) reg = true by unfold inBd; exact decide_eq_true hr] at HB
  have HP := Lib.hid (fun (W : World) (ha : Adds w W) => putS_any (TopO.up h ha) reg (by simp only; omega) u)
  rw [putR_B] at HP
  have HBh := Lib.hid (fun (W : World) (hW : TopO t n W b p fv g cap R ((f, pc, d, putB reg u rs), rv) res) => behindS_any hW hpm)
  obtain ⟨uu, huu⟩ : ∃ uu, u.toNat = uu := ⟨_, rfl⟩
  simp only [huu] at HP ⊢
  have HL := Lib.hid (fun bm W h => look_nodeed i.1 hwf hl bm W h)
  obtain ⟨i0, i1, i2, i3, i4⟩ := i
  clear hl hwf
  unfold insV insC at HNx
  clear h hf hpc hi hok
  go_enter Tryz.func40, Tryz.ntmps40
  go_wp2_with (first
    | (go_at_call 37; with_reducible refine (must_yes _ _).mono ?_; rintro e w4 ⟨rfl, rfl⟩)
    | (go_at_call 42; refine HE.out.mono ?_; rintro e w5 ⟨rfl, rfl⟩)
    | (go_at_call 43; refine HNx.out.mono ?_; rintro e w6 ⟨rfl, a6⟩; have A6 := Lib.hid a6; clear a6))
  obtain ⟨w7, hw7⟩ : ∃ w7, (w6.alloc (Obj.cells #[Value.int IntKind.i64 i0, Value.int IntKind.i64 i1, Value.int IntKind.i64 i2, Value.int IntKind.i64 i3, Value.int IntKind.u32 i4] 56)).alloc (Obj.cells #[Value.int IntKind.i64 (f : Int), Value.int IntKind.i64 (pc : Int)] 58) = w7 := ⟨_, rfl⟩
  rw [hw7]
  have A67 := Lib.hid (show Adds (w6.alloc (Obj.cells #[Value.int IntKind.i64 i0, Value.int IntKind.i64 i1, Value.int IntKind.i64 i2, Value.int IntKind.i64 i3, Value.int IntKind.u32 i4] 56)) w7 by rw [← hw7]; exact Adds.new _ _)
  have A7 := Lib.hid (show Adds w w7 from Adds.trans A6.out (Adds.trans (Adds.new _ _) A67.out))
  have HI := Lib.hid (fun (W : World) (ha : Adds w7 W) => insCell rfl (Adds.trans A67.out ha))
  clear hw7
  obtain ⟨c0, _, _, _, _⟩ := HI.out _ (Adds.drew w7)
  refine wp_calmC ?_
  go_region_with (go_at_call 54; refine (deeds_any _).mono ?_; rintro e w8 ⟨bm, rfl, _, own, a8⟩; have A8 := Lib.hid (Adds.trans A7.out (Adds.trans (Adds.drew _) a8)); obtain ⟨c0, c1, c2, c3, c4⟩ := HI.out _ (Adds.trans (Adds.drew _) a8); have hl := HL.out bm w8 own; clear a8 own)
  all_goals (
    go_wp2_with (first
      | (go_at_call 37; with_reducible refine (must_yes _ _).mono ?_; rintro e w4 ⟨rfl, rfl⟩)
      | (go_at_call 44; refine (HRg.out _ A8.out).mono ?_; rintro e w9 ⟨rfl, a9⟩; have A9 := Lib.hid (Adds.trans A8.out a9); clear a9)
      | (go_at_call 45; refine (HB.out _).mono ?_; rintro e wa ⟨rfl, aa⟩; have AA := Lib.hid (Adds.trans A9.out aa); clear aa)
      | (go_at_call 55; refine (HP.out _ AA.out).mono ?_; rintro e wb ⟨rfl, hp, hb⟩; have HQ := Lib.hid hp; have HLw := Lib.hid (Low.trans (Low.mono AA.out HN.out) hb); clear hp hb)
      | (go_at_call 56; refine (HBh.out _ HQ.out).mono ?_; rintro e wc ⟨rfl, hp, hb⟩; have HQ2 := Lib.hid hp; have HL2 := Lib.hid (Low.trans HLw.out hb); clear hp hb))
    go_end0
    exact ⟨by simp, HQ2.out, HL2.out⟩)
end
end Go.Proofs.YtdkgehhlikaocaaGreat
