/- Merged: Z9, Z7, Z8. -/
import Derived.Test.YtdkgehhlikaocaaGreatY19
import Derived.Lib.SliceRun
import Derived.Deep.RegionLaw
import Derived.Test.YtdkgehhlikaocaaGreatY9
namespace Go.Proofs.YtdkgehhlikaocaaGreat
open Go Go.RowKit Go.Shelf

abbrev zF0 : Fr × Value := ((0, 0, 0, []), .slice none 0 0)
abbrev frZ : List Value := [.int .i64 0, .int .i64 0, .int .i64 0, .slice none 0 0]
/-- clear of one frame. -/
theorem run_clearFr (w : World) (ty : TypeId) (g o c : Nat) (hc : ∀ j, j < 4 → (w.cell? ⟨g, o + j, none⟩).isSome = true) (hf : ∀ j, j < 4 → w.frozen? ⟨g, o + j, none⟩ = false) :
    (Builtin.clear_ #[68] ty #[.slice (some ⟨g, o, none⟩) 1 c]).run Tryz.prog w = .ok (.tuple #[]) (w.setCells g o frZ) := by
  have hst := run_storeCells_cells (P := Tryz.prog) g o frZ 0 w (by simpa using hc) (by simpa using hf) (by intro v hv; simp at hv; rcases hv with rfl | rfl | rfl <;> rfl)
  simp only [Nat.add_zero] at hst
  have hz : (Builtin.zeroCells (Value.cells (.agg #[.int .i64 0, .int .i64 0, .int .i64 0, .slice none 0 0])) 1).toList = frZ := by kernel_rfl
  simp [Builtin.clear_, run_underlying Tryz.underlying68, hz, hst]
section
variable {n g cap : Nat} {w : World} {R : List (Fr × Value)} {x : Fr × Value}
theorem FrsO.tnOwn {w' : World} (h : FrsO n w (.slice (some ⟨g, 0, none⟩) R.length cap) R) (hr : w'.ownsRow n 76 4 (.slice (some ⟨g, 0, none⟩) R.length cap) R.length (R.flatMap frC)) (ht : TnS g w w') : FrsO n w' (.slice (some ⟨g, 0, none⟩) R.length cap) R := by
  obtain ⟨cur, hg⟩ := ownB h.row (g := g) rfl
  exact ⟨hr, fun y hy => (h.reg y hy).tn ht (own_neT (h.reg y hy) hg (by decide)), h.far⟩
/-- A row's end is left out. -/
theorem ownsRow_less {e : TypeId} {size k : Nat} {xs ys : List Value} (hx : xs.length = k * size) (hr : w.ownsRow n e size (.slice (some ⟨g, 0, none⟩) (k + 1) cap) (k + 1) (xs ++ ys)) : w.ownsRow n e size (.slice (some ⟨g, 0, none⟩) k cap) k xs := by
  obtain ⟨h1, h2⟩ := hr
  rcases h2 with ⟨e1, _⟩ | ⟨g', cap', cur, e1, hb, hh, h3, h4, h5, h6⟩
  · cases e1
  · simp only [Value.slice.injEq, Option.some.injEq, Addr.mk.injEq, and_true, true_and] at e1
    obtain ⟨rfl, rfl⟩ := e1
    refine ⟨hx, .inr ⟨g, cap, cur, rfl, hb, hh, by omega, h4, h5, ?_⟩⟩
    have e2 := congrArg (List.take (k * size)) h6
    rw [List.take_take, Nat.min_eq_left (Nat.mul_le_mul_right _ (Nat.le_succ k)), List.take_left' hx] at e2
    exact e2
theorem FrsO.less (h : FrsO n w (.slice (some ⟨g, 0, none⟩) (R.length + 1) cap) (R ++ [x])) : FrsO n w (.slice (some ⟨g, 0, none⟩) R.length cap) R := by
  have hr := h.row
  have hf := h.far
  rw [List.flatMap_append, show (R ++ [x]).length = R.length + 1 by simp] at hr
  rw [List.pairwise_append] at hf
  exact ⟨ownsRow_less (flat_len frC 4 frC_len R) hr, fun y hy => h.reg y (List.mem_append_left _ hy), hf.1⟩
/-- What clear leaves of the list below. -/
theorem FrsO.cleared (h : FrsO n w (.slice (some ⟨g, 0, none⟩) (R.length + 1) cap) (R ++ [x])) : FrsO n (w.setCells g (R.length * 4) frZ) (.slice (some ⟨g, 0, none⟩) R.length cap) R ∧ w.grownBy (w.setCells g (R.length * 4) frZ) (some g) ∧ Below n w (w.setCells g (R.length * 4) frZ) := by
  have hng := (World.ownsRow.lt h.row g rfl).1
  have hw : w.setCells g (R.length * 4) frZ = (((w.setCell ⟨g, R.length * 4, none⟩ (.int .i64 0)).setCell ⟨g, R.length * 4 + 1, none⟩ (.int .i64 0)).setCell ⟨g, R.length * 4 + 2, none⟩ (.int .i64 0)).setCell ⟨g, R.length * 4 + 3, none⟩ (.slice none 0 0) := rfl
  have ht : TnS g w (w.setCells g (R.length * 4) frZ) := by
    rw [hw]
    exact (((TnS.setCell _ _ _ _).trans (TnS.setCell _ _ _ _)).trans (TnS.setCell _ _ _ _)).trans (TnS.setCell _ _ _ _)
  have hb : Below n w (w.setCells g (R.length * 4) frZ) := by
    rw [hw]
    exact ((((Below.refl n w).setCell (p := ⟨g, R.length * 4, none⟩) hng _).setCell (p := ⟨g, R.length * 4 + 1, none⟩) hng _).setCell (p := ⟨g, R.length * 4 + 2, none⟩) hng _).setCell (p := ⟨g, R.length * 4 + 3, none⟩) hng _
  refine ⟨?_, ⟨hb.os, hb.tape, hb.output, hb.size, fun k hk hne => ht.block k hk hne⟩, hb⟩
  refine h.less.tnOwn ?_ ht
  have hr := h.row
  rw [List.flatMap_append, show (R ++ [x]).length = R.length + 1 by simp] at hr
  rw [hw]
  have e0 := ownsRow_set (ownsRow_set (ownsRow_set (ownsRow_set hr (R.length * 4) (.int .i64 0)) (R.length * 4 + 1) (.int .i64 0)) (R.length * 4 + 2) (.int .i64 0)) (R.length * 4 + 3) (.slice none 0 0)
  have hl : (R.flatMap frC).length = R.length * 4 := flat_len frC 4 frC_len R
  have keep : ∀ (zs : List Value) (j : Nat) (u : Value), (R.flatMap frC ++ zs).set (R.length * 4 + j) u = R.flatMap frC ++ zs.set j u := by
    intro zs j u
    rw [List.set_append_right _ _ (by omega), hl, Nat.add_sub_cancel_left]
  have keep0 := fun zs u => keep zs 0 u
  simp only [Nat.add_zero] at keep0
  rw [keep0, keep, keep, keep] at e0
  exact ownsRow_less hl e0
set_option maxRecDepth 100000 in
set_option maxHeartbeats 4000000 in
theorem deleteS_any (h : FrsO n w (.slice (some ⟨g, 0, none⟩) (R.length + 1) cap) (R ++ [x])) : Calls Tryz.prog 94 #[.slice (some ⟨g, 0, none⟩) (R.length + 1) cap, .int .i64 (R.length : Int), .int .i64 ((R.length : Int) + 1)] w fun e w' =>
    e = .returned (.slice (some ⟨g, 0, none⟩) R.length cap) ∧ FrsO n w' (.slice (some ⟨g, 0, none⟩) R.length cap) R ∧ w.grownBy w' (some g) ∧ Below n w w' := by
  obtain ⟨g', cap', cur, e, hng, h2, h3, hbk, c0, c1, c2, c3, hfr⟩ := h.top
  simp only [Value.slice.injEq, Option.some.injEq, Addr.mk.injEq, and_true, true_and] at e
  obtain ⟨rfl, rfl⟩ := e
  unfold maxLen at h3
  obtain ⟨i0, hi0, hz0, hz1, hz2⟩ := info_parts infoFr
  have hD := h.adds (Adds.drew w)
  have HE := Lib.hid hD.cleared
  have HB := Lib.hid (show Below n w w.drew from drewN_below n w 1)
  have HGr := Lib.hid (show ∀ W, w.drew.grownBy W (some g) → w.grownBy W (some g) from fun W hg => ⟨hg.os.trans HB.out.os, hg.tape.trans HB.out.tape, hg.output.trans HB.out.output, Nat.le_trans HB.out.size hg.size, fun k hk hne => (hg.block k (Nat.lt_of_lt_of_le hk HB.out.size) hne).trans rfl⟩)
  have hc4 : ∀ j, j < 4 → (w.drew.cell? ⟨g, R.length * 4 + j, none⟩).isSome = true := by
    intro j hj
    show (w.cell? ⟨g, R.length * 4 + j, none⟩).isSome = true
    match j, hj with
    | 0, _ => simpa using congrArg Option.isSome c0
    | 1, _ => rw [c1]; rfl
    | 2, _ => rw [c2]; rfl
    | 3, _ => rw [c3]; rfl
  obtain ⟨W1, hW1⟩ : ∃ W1, W1 = w.drew.setCells g (0 + R.length * 4) [] := ⟨_, rfl⟩
  have hW1' : W1 = w.drew := hW1
  have hcl : ∀ ty, (Builtin.clear_ #[68] ty #[.slice (some ⟨g, R.length * 4, none⟩) 1 (cap - R.length)]).run Tryz.prog W1 = .ok (.tuple #[]) (W1.setCells g (R.length * 4) frZ) := fun ty => by rw [hW1']; exact run_clearFr w.drew ty g _ _ hc4 (fun j _ => hfr _)
  have X := Lib.hid hW1'
  have hW := Lib.hid hW1
  obtain ⟨A, hA⟩ : ∃ A : Addr, (if cap = R.length + 1 then (some ⟨g, 0, none⟩ : Option Addr) else some ⟨g, (R.length + 1) * 4, none⟩) = some A := by split <;> exact ⟨_, rfl⟩
  obtain ⟨k, hk⟩ : ∃ k, R.length = k := ⟨_, rfl⟩
  have HK := Lib.hid hk
  rw [hk] at h2 hcl hW hA ⊢
  have hkI : (k : Int) + 1 ≤ (cap : Int) := by omega
  have hcI : (cap : Int) ≤ 9223372036854775807 := by omega
  have hkN : k ≤ cap := by omega
  have hk0 : (0 : Int) ≤ (k : Int) + 1 := by omega
  have hmx : Tryz.prog.follows .mixedOrders = true := by kernel_rfl
  have hrs : ∀ j u, ([] : List Value)[j]? = some u → w.drew.cell? (A.add j) = some u := by intro j u hu; simp at hu
  clear h h3 hbk c0 c1 c2 c3 hfr hD hc4 hW1 hW1' hk hz0 hz2 hng
  go_enter Tryz.func94, Tryz.ntmps94
  go_wp2_with fail
  go_region_law_o (refine step_append_room rfl (.tmp 22) (.tmp 25) 68 rfl 76 i0 4 Tryz.underlying68 hi0 hz1 g 0 k cap (by simp [Act.eval, Act.put]) A 0 (cap - (k + 1)) [] (by simp [Act.eval, Act.put]) rfl hrs (by simp) (by omega) (by simp) ?_; rw [← hW.out])
  go_wp2
  go_ret
  rw [X.out, ← HK.out]
  exact ⟨rfl, HE.out.1, HGr.out _ HE.out.2.1, HB.out.trans HE.out.2.2⟩
end
end Go.Proofs.YtdkgehhlikaocaaGreat
namespace Go.Proofs.YtdkgehhlikaocaaGreat
open Go Go.RowKit Go.Shelf

section
variable {t : TypeId} {n b g cap : Nat} {w : World} {p : Pg} {fv lv : Value} {R : List (Fr × Value)} {f pc : Nat} {d : Int} {rs : List UInt32} {rv : Value} {res : UInt32}
theorem putR_yes {reg : Int} (h : 0 ≤ reg) (u : UInt32) : putR reg u ((f, pc, d, rs), rv) = ((f, pc, d, rs.set reg.toNat u), rv) := by
  unfold putR
  rw [if_neg (by omega)]
/-- The same register of an instruction's copy. -/
theorem insCell {w w1 w2 : World} {i0 i1 i2 i3 i4 : Int} (hw1 : w.alloc (.cells #[.int .i64 i0, .int .i64 i1, .int .i64 i2, .int .i64 i3, .int .u32 i4] 56) = w1) (ha : Adds w1 w2) :
    w2.cell? ⟨w.heap.size, 0, none⟩ = some (.int .i64 i0) ∧ w2.cell? ⟨w.heap.size, 1, none⟩ = some (.int .i64 i1) ∧ w2.cell? ⟨w.heap.size, 2, none⟩ = some (.int .i64 i2) ∧ w2.cell? ⟨w.heap.size, 3, none⟩ = some (.int .i64 i3) ∧ w2.cell? ⟨w.heap.size, 4, none⟩ = some (.int .u32 i4) := by
  have B := (show BkS 56 w1 w.heap.size [.int .i64 i0, .int .i64 i1, .int .i64 i2, .int .i64 i3, .int .u32 i4] by rw [← hw1]; exact BkS.new _ _ _).adds ha
  exact ⟨B.cell 0, B.cell 1, B.cell 2, B.cell 3, B.cell 4⟩
set_option maxRecDepth 100000 in
set_option maxHeartbeats 1000000 in
theorem constantS_any (h : TopO t n w b p fv g cap R ((f, pc, d, rs), rv) res) (hpc : pc < 9223372036854775807) (i0 i1 i2 i3 : Int) (h1 : 0 ≤ i1 ∧ i1 < rs.length) (u : UInt32) :
    Calls Tryz.prog 73 #[.pointer (some ⟨b, 0, none⟩), insV (i0, i1, i2, i3, (u.toNat : Nat))] w fun e w' => e = .returned (.tuple #[]) ∧ TopO t n w' b p fv g cap R ((f, pc + 1, d, rs.set i1.toNat u), rv) res ∧ Low n w w' := by
  have HN := Lib.hid h.low
  have HP := Lib.hid (fun (W : World) (ha : Adds w W) => putS_any (h.adds ha) i1 (.inr h1) u)
  rw [putR_yes h1.1] at HP
  have HPC := Lib.hid hpc
  obtain ⟨w1, hw1⟩ : ∃ w1, w.alloc (.cells #[.int .i64 i0, .int .i64 i1, .int .i64 i2, .int .i64 i3, .int .u32 (u.toNat : Nat)] 56) = w1 := ⟨_, rfl⟩
  have A1 := Lib.hid (show Adds w w1 by rw [← hw1]; exact Adds.new _ _)
  obtain ⟨c0, c1, c2, c3, c4⟩ := insCell hw1 (Adds.refl _)
  obtain ⟨uu, huu⟩ : ∃ uu, u.toNat = uu := ⟨_, rfl⟩
  rw [huu] at HP c4 hw1 ⊢
  clear h h1 hpc c0 c2 c3 huu
  unfold insV insC
  go_enter Tryz.func73, Tryz.ntmps73
  go_wp2_with (first
    | (go_at_call 55; refine (HP.out _ A1.out).mono ?_; rintro e w2 ⟨rfl, hp, hb⟩; have HQ := Lib.hid hp; have HB := Lib.hid (Low.trans (Low.mono A1.out HN.out) hb); clear hp hb)
    | (go_at_call 56; refine (behindS_any HQ.out HPC.out).mono ?_; rintro e w3 ⟨rfl, hp, hb⟩; have HQ3 := Lib.hid hp; have HB3 := Lib.hid (HB.out.trans hb); clear hp hb))
  go_end0
  exact ⟨by simp, HQ3.out, HB3.out⟩
set_option maxRecDepth 100000 in
set_option maxHeartbeats 1000000 in
theorem yieldS_any (h : TopO t n w b p fv g cap R ((f, pc, d, rs), rv) res) (hpc : pc < 9223372036854775807) (i0 i1 i2 i3 i4 : Int) :
    Calls Tryz.prog 80 #[.pointer (some ⟨b, 0, none⟩), insV (i0, i1, i2, i3, i4)] w fun e w' => e = .returned (.tuple #[]) ∧ TopO t n w' b p fv g cap R ((f, pc + 1, d, rs), rv) res ∧ Low n w w' := by
  have HN := Lib.hid h.low
  have HP := Lib.hid (fun (W : World) (ha : Adds w W) => behindS_any (h.adds ha) hpc)
  obtain ⟨w1, hw1⟩ : ∃ w1, w.alloc (.cells #[.int .i64 i0, .int .i64 i1, .int .i64 i2, .int .i64 i3, .int .u32 i4] 56) = w1 := ⟨_, rfl⟩
  have A1 := Lib.hid (show Adds w w1 by rw [← hw1]; exact Adds.new _ _)
  clear h hpc
  unfold insV insC
  go_enter Tryz.func80, Tryz.ntmps80
  go_wp2_with (go_at_call 56; refine (HP.out _ A1.out).mono ?_; rintro e w3 ⟨rfl, hp, hb⟩; have HQ3 := Lib.hid hp; have HB3 := Lib.hid (Low.trans (Low.mono A1.out HN.out) hb); clear hp hb)
  go_end0
  exact ⟨by simp, HQ3.out, HB3.out⟩
set_option maxRecDepth 100000 in
set_option maxHeartbeats 4000000 in
theorem moveS_any (h : TopO t n w b p fv g cap R ((f, pc, d, rs), rv) res) (hpc : pc < 9223372036854775807) (i0 i1 i2 i3 i4 : Int) (h1 : 0 ≤ i1 ∧ i1 < rs.length) (h2 : 0 ≤ i2 ∧ i2 < rs.length) :
    Calls Tryz.prog 74 #[.pointer (some ⟨b, 0, none⟩), insV (i0, i1, i2, i3, i4)] w fun e w' => e = .returned (.tuple #[]) ∧ TopO t n w' b p fv g cap R ((f, pc + 1, d, rs.set i1.toNat (rs.getD i2.toNat 0)), rv) res ∧ Low n w w' := by
  obtain ⟨j, rfl⟩ : ∃ j : Nat, i2 = j := ⟨i2.toNat, by omega⟩
  rw [Int.toNat_natCast]
  have HN := Lib.hid h.low
  have HG := Lib.hid (fun (W : World) (ha : Adds w W) => regS_any (h.adds ha) j (by have := h2.2; simp only; omega))
  have HP := Lib.hid (fun (W : World) (ha : Adds w W) => putS_any (h.adds ha) i1 (.inr h1) (rs.getD j 0))
  rw [putR_yes h1.1] at HP
  obtain ⟨ru, hru⟩ : ∃ ru, rs.getD j 0 = ru := ⟨_, rfl⟩
  simp only [hru] at HG HP ⊢
  obtain ⟨ri, hri⟩ : ∃ ri, ru.toNat = ri := ⟨_, rfl⟩
  rw [hri] at HG HP
  have HPC := Lib.hid hpc
  obtain ⟨w1, hw1⟩ : ∃ w1, w.alloc (.cells #[.int .i64 i0, .int .i64 i1, .int .i64 (j : Int), .int .i64 i3, .int .u32 i4] 56) = w1 := ⟨_, rfl⟩
  have A1 := Lib.hid (show Adds w w1 by rw [← hw1]; exact Adds.new _ _)
  have HC := Lib.hid (fun (W : World) (ha : Adds w1 W) => insCell hw1 ha)
  obtain ⟨c0, c1, c2, c3, c4⟩ := HC.out _ (Adds.refl _)
  clear h h1 h2 hpc c0 c3 c4 hru hri
  unfold insV insC
  go_enter Tryz.func74, Tryz.ntmps74
  go_wp2_with fail
  refine wp_calmC ?_
  go_region_with (first
    | (go_at_call 46; refine (HG.out _ (Adds.trans A1.out (Adds.drew _))).mono ?_; rintro e w2 ⟨rfl, m, rfl⟩; obtain ⟨c0, c1, c2, c3, c4⟩ := HC.out _ (Adds.trans (Adds.drew _) (Adds.drewN _ m)))
    | (go_at_call 55; refine (HP.out _ (Adds.trans A1.out (Adds.drewN _ _))).mono ?_; rintro e w3 ⟨rfl, hp, hb⟩; have HQ := Lib.hid hp; have HB := Lib.hid (Low.trans (Low.mono (Adds.trans A1.out (Adds.drewN _ _)) HN.out) hb); clear hp hb))
  go_wp2_with (go_at_call 56; refine (behindS_any HQ.out HPC.out).mono ?_; rintro e w3 ⟨rfl, hp, hb⟩; have HQ3 := Lib.hid hp; have HB3 := Lib.hid (HB.out.trans hb); clear hp hb)
  all_goals (go_end0; exact ⟨by simp, HQ3.out, HB3.out⟩)
end
end Go.Proofs.YtdkgehhlikaocaaGreat
namespace Go.Proofs.YtdkgehhlikaocaaGreat
open Go Go.RowKit Go.Shelf

section
variable {t : TypeId} {n b g cap : Nat} {w : World} {p : Pg} {fv lv : Value} {R : List (Fr × Value)} {f pc : Nat} {d : Int} {rs : List UInt32} {rv : Value} {res : UInt32}
set_option maxRecDepth 100000 in
set_option maxHeartbeats 4000000 in
theorem jumpS_any (h : TopO t n w b p fv g cap R ((f, pc, d, rs), rv) res) (i0 i1 i2 i3 : Int) (k : Nat) (hk : k < 4294967296) :
    Calls Tryz.prog 76 #[.pointer (some ⟨b, 0, none⟩), insV (i0, i1, i2, i3, (k : Int))] w fun e w' => e = .returned (.tuple #[]) ∧ TopO t n w' b p fv g cap R ((f, k, d, rs), rv) res ∧ Low n w w' := by
  have HN := Lib.hid h.low
  have hng := (World.ownsRow.lt h.lo.row g rfl).1
  have HT := Lib.hid (fun (W : World) (ha : Adds w W) => topS_any (h.adds ha))
  have hc := h.cells
  have HC := Lib.hid (fun (W : World) (ha : Adds w W) => And.intro (ha.cellAt hc.2.2.1) ((TopO.cells (h.adds ha)).2.2.2.2.2 (R.length * 4 + 1)))
  have HP := Lib.hid (fun (W : World) (ha : Adds w W) => And.intro (PileO.setPc (h.adds ha) k) (show Low n w (W.setCell ⟨g, R.length * 4 + 1, none⟩ (.int .i64 (k : Int))) from (Low.mono ha HN.out).set (ownB (h.adds ha).lo.row (g := g) rfl).choose_spec (.inr (.inr (.inl rfl))) hng _))
  obtain ⟨w1, hw1⟩ : ∃ w1, w.alloc (.cells #[.int .i64 i0, .int .i64 i1, .int .i64 i2, .int .i64 i3, .int .u32 (k : Int)] 56) = w1 := ⟨_, rfl⟩
  have A1 := Lib.hid (show Adds w w1 by rw [← hw1]; exact Adds.new _ _)
  have HI := Lib.hid (fun (W : World) (ha : Adds w1 W) => insCell hw1 ha)
  obtain ⟨q0, q1, q2, q3, q4⟩ := HI.out _ (Adds.refl _)
  obtain ⟨l, hl⟩ : ∃ l, R.length = l := ⟨_, rfl⟩
  have HL := Lib.hid hl
  simp only [hl] at HT HC HP
  have HWr := Lib.hid (show IntKind.i64.wrap (k : Int) = k by rw [IntKind.wrap_i64]; omega)
  clear h hc hng hl hk q0 q1 q2 q3
  unfold insV insC
  go_enter Tryz.func76, Tryz.ntmps76
  go_wp2_with fail
  refine wp_calmC ?_
  go_region_with (go_at_call 61; refine (HT.out _ (Adds.trans A1.out (Adds.drew _))).mono ?_; rintro e w2 ⟨rfl, m, rfl⟩; obtain ⟨c0, f0⟩ := HC.out _ (Adds.trans A1.out (Adds.drewN _ (1 + m))); obtain ⟨q0, q1, q2, q3, q4⟩ := HI.out _ (Adds.drewN _ (1 + m)); have HQ := Lib.hid (HP.out _ (Adds.trans A1.out (Adds.drewN _ (1 + m)))))
  all_goals (
    go_end0
    have hq := HQ.out
    rw [← HL.out] at hq ⊢
    rw [HWr.out]
    exact ⟨by simp, hq.1, hq.2⟩)
set_option maxRecDepth 100000 in
set_option maxHeartbeats 4000000 in
theorem branchS_any (h : TopO t n w b p fv g cap R ((f, pc, d, rs), rv) res) (hpc : pc < 9223372036854775807) (i0 i1 i2 i3 : Int) (k : Nat) (hk : k < 4294967296) (h1 : 0 ≤ i1 ∧ i1 < rs.length) :
    Calls Tryz.prog 77 #[.pointer (some ⟨b, 0, none⟩), insV (i0, i1, i2, i3, (k : Int))] w fun e w' => e = .returned (.tuple #[]) ∧ TopO t n w' b p fv g cap R ((f, if rs.getD i1.toNat 0 = 0 then pc + 1 else k, d, rs), rv) res ∧ Low n w w' := by
  obtain ⟨j, rfl⟩ : ∃ j : Nat, i1 = j := ⟨i1.toNat, by omega⟩
  rw [Int.toNat_natCast]
  have HN := Lib.hid h.low
  have HG := Lib.hid (fun (W : World) (ha : Adds w W) => regS_any (h.adds ha) j (by have := h1.2; simp only; omega))
  have HP := Lib.hid (fun (W : World) (ha : Adds w W) => behindS_any (h.adds ha) hpc)
  have HJ := Lib.hid (fun (W : World) (ha : Adds w W) => jumpS_any (h.adds ha) i0 j i2 i3 k hk)
  obtain ⟨ru, hru⟩ : ∃ ru, rs.getD j 0 = ru := ⟨_, rfl⟩
  simp only [hru] at HG ⊢
  obtain ⟨w1, hw1⟩ : ∃ w1, w.alloc (.cells #[.int .i64 i0, .int .i64 (j : Int), .int .i64 i2, .int .i64 i3, .int .u32 (k : Int)] 56) = w1 := ⟨_, rfl⟩
  have A1 := Lib.hid (show Adds w w1 by rw [← hw1]; exact Adds.new _ _)
  have HI := Lib.hid (fun (W : World) (ha : Adds w1 W) => insCell hw1 ha)
  obtain ⟨q0, q1, q2, q3, q4⟩ := HI.out _ (Adds.refl _)
  clear h h1 hpc hk hru q0 q2 q3 q4
  unfold insV insC
  unfold insV insC at HJ
  by_cases h0 : ru = 0
  · subst h0
    rw [if_pos rfl]
    go_enter Tryz.func77, Tryz.ntmps77
    go_wp2_with (first
      | (go_at_call 46; refine (HG.out _ A1.out).mono ?_; rintro e w2 ⟨rfl, m, rfl⟩)
      | (go_at_call 56; refine (HP.out _ (Adds.trans A1.out (Adds.drewN _ _))).mono ?_; rintro e w3 ⟨rfl, hp, hb⟩; have HQ3 := Lib.hid hp; have HB3 := Lib.hid (Low.trans (Low.mono (Adds.trans A1.out (Adds.drewN _ _)) HN.out) hb); clear hp hb))
    (try simp only [Exit.inBlock, Exit.then]); refine bodyPost_ret (results_none rfl _ _ _) rfl ?_
    exact ⟨by simp, HQ3.out, HB3.out⟩
  · rw [if_neg h0]
    have hne : (((ru.toNat : Nat) : Int) == 0) = false := by
      rw [beq_eq_false_iff_ne]
      intro e
      exact h0 (UInt32.toNat_inj.1 (by simp; omega))
    obtain ⟨ri, hri⟩ : ∃ ri, ru.toNat = ri := ⟨_, rfl⟩
    rw [hri] at hne HG
    clear h0 hri
    go_enter Tryz.func77, Tryz.ntmps77
    go_wp2_with (first
      | (go_at_call 46; refine (HG.out _ A1.out).mono ?_; rintro e w2 ⟨rfl, m, rfl⟩; obtain ⟨q0, q1, q2, q3, q4⟩ := HI.out _ (Adds.drewN w1 m))
      | (go_at_call 76; refine (HJ.out _ (Adds.trans A1.out (Adds.drewN _ _))).mono ?_; rintro e w3 ⟨rfl, hp, hb⟩; have HQ3 := Lib.hid hp; have HB3 := Lib.hid (Low.trans (Low.mono (Adds.trans A1.out (Adds.drewN _ _)) HN.out) hb); clear hp hb))
    go_end0
    exact ⟨by simp, HQ3.out, HB3.out⟩
/-- What a reckoning leaves. -/
theorem doX_lt {x : Int} {a c : Nat} (h12 : 1 ≤ x ∧ x ≤ 12) (ha : a < 4294967296) (hc : c < 4294967296) : (doX x a c).1 < 4294967296 := by
  unfold doX
  rw [if_pos h12]
  cases hz : byNone x.toNat c with
  | true => simp
  | false => simpa using doN_lt ha hc hz
set_option maxRecDepth 100000 in
set_option maxHeartbeats 4000000 in
theorem reckonS_any (h : TopO t n w b p fv g cap R ((f, pc, d, rs), rv) res) (hpc : pc < 9223372036854775807) (i0 i1 i2 i3 : Int) (k : Nat) (hk : 1 ≤ k ∧ k ≤ 12) (h1 : 0 ≤ i1 ∧ i1 < rs.length) (h2 : 0 ≤ i2 ∧ i2 < rs.length) (h3 : 0 ≤ i3 ∧ i3 < rs.length) (x : Nat × Int) (hx : doX k (rs.getD i2.toNat 0).toNat (rs.getD i3.toNat 0).toNat = x) :
    Calls Tryz.prog 75 #[.pointer (some ⟨b, 0, none⟩), insV (i0, i1, i2, i3, (k : Int))] w fun e w' => (x.2 = 0 → e = .returned (.tuple #[]) ∧ TopO t n w' b p fv g cap R ((f, pc + 1, d, rs.set i1.toNat (UInt32.ofNat x.1)), rv) res ∧ Low n w w') ∧ (x.2 ≠ 0 → e = .panicked [{ v := refuV x.2, recovered := false }] ∧ Adds w w') := by
  obtain ⟨j, rfl⟩ : ∃ j : Nat, i2 = j := ⟨i2.toNat, by omega⟩
  obtain ⟨l, rfl⟩ : ∃ l : Nat, i3 = l := ⟨i3.toNat, by omega⟩
  rw [Int.toNat_natCast, Int.toNat_natCast] at hx
  have HN := Lib.hid h.low
  have HG2 := Lib.hid (fun (W : World) (ha : Adds w W) => regS_any (h.adds ha) j (by have := h2.2; simp only; omega))
  have HG3 := Lib.hid (fun (W : World) (ha : Adds w W) => regS_any (h.adds ha) l (by have := h3.2; simp only; omega))
  have hlt : x.1 < 4294967296 := by rw [← hx]; exact doX_lt (by omega) (UInt32.toNat_lt _) (UInt32.toNat_lt _)
  have HD := Lib.hid (fun (W : World) => do_any (k : Int) (wf_kind k hk.1 hk.2) _ _ (rs.getD j 0).toNat_lt (rs.getD l 0).toNat_lt W)
  rw [hx] at HD
  have HP := Lib.hid (fun (W : World) (ha : Adds w W) => putS_any (h.adds ha) i1 (.inr h1) (UInt32.ofNat x.1))
  rw [putR_yes h1.1, show (UInt32.ofNat x.1).toNat = x.1 from by rw [UInt32.toNat_ofNat']; omega] at HP
  have HPC := Lib.hid hpc
  obtain ⟨r2, hr2⟩ : ∃ r2, (rs.getD j 0).toNat = r2 := ⟨_, rfl⟩
  obtain ⟨r3, hr3⟩ : ∃ r3, (rs.getD l 0).toNat = r3 := ⟨_, rfl⟩
  simp only [hr2, hr3] at HG2 HG3 HD
  obtain ⟨w1, hw1⟩ : ∃ w1, w.alloc (.cells #[.int .i64 i0, .int .i64 i1, .int .i64 (j : Int), .int .i64 (l : Int), .int .u32 (k : Int)] 56) = w1 := ⟨_, rfl⟩
  have A1 := Lib.hid (show Adds w w1 by rw [← hw1]; exact Adds.new _ _)
  have HI := Lib.hid (fun (W : World) (ha : Adds w1 W) => insCell hw1 ha)
  obtain ⟨q0, q1, q2, q3, q4⟩ := HI.out _ (Adds.refl _)
  have HWr := Lib.hid (show IntKind.i64.wrap (k : Int) = k by rw [IntKind.wrap_i64]; omega)
  obtain ⟨nw, er⟩ := x
  simp only at HP HD hlt ⊢
  clear h h1 h2 h3 hpc hk hr2 hr3 q0 q1 hx hlt
  unfold insV insC
  go_enter Tryz.func75, Tryz.ntmps75
  go_wp2_with fail
  refine wp_region_loose [] (fun _ _ _ => True) Adds (by kernel_rfl) (by kernel_rfl) (by simp) Adds.refl (fun _ _ _ h k => Adds.trans h k) (fun _ _ _ _ _ _ => trivial) ?_
  repeat (refine wpL_step (fun K hK => ?_); first
    | (refine stepL_ex (v := .int .i64 (k : Int)) rfl rfl rfl Adds.refl ?_ ?_; (· (intro w' hw'; clear hK; have hwr := HWr.out; go_simp)); go_simp; refine hK _ ?_; clear hK K)
    | (refine stepL_ex rfl rfl rfl Adds.refl (fun w' hw' => rfl) ?_; go_simp; refine hK _ ?_; clear hK K)
    | (refine stepL_ex (v := .int .u32 (k : Int)) rfl rfl rfl Adds.refl ?_ ?_; (· (intro w' hw'; clear hK; obtain ⟨q0, q1, q2, q3, q4⟩ := HI.out _ (Adds.trans (Adds.drew _) hw'); go_simp)); go_simp; refine hK _ ?_; clear hK K)
    | (refine stepL_ex (v := .int .i64 (j : Int)) rfl rfl rfl Adds.refl ?_ ?_; (· (intro w' hw'; clear hK; obtain ⟨q0, q1, q2, q3, q4⟩ := HI.out _ (Adds.trans (Adds.drew _) hw'); go_simp)); go_simp; refine hK _ ?_; clear hK K)
    | (refine stepL_ex (v := .int .i64 (l : Int)) rfl rfl rfl Adds.refl ?_ ?_; (· (intro w' hw'; clear hK; obtain ⟨q0, q1, q2, q3, q4⟩ := HI.out _ (Adds.trans (Adds.drew _) hw'); go_simp)); go_simp; refine hK _ ?_; clear hK K)
    | (refine stepL_call (v := .int .u32 (r2 : Int)) (f := 46) (args := #[.pointer (some ⟨b, 0, none⟩), .int .i64 (j : Int)]) rfl rfl rfl ?_ (fun w' hw' => (HG2.out w' (Adds.trans A1.out (Adds.trans (Adds.drew _) hw'))).mono (by rintro e w2 ⟨rfl, m, rfl⟩; exact ⟨rfl, Adds.drewN _ _⟩)) ?_; (· (intro w'; clear hK; go_simp)); go_simp; refine hK _ ?_; clear hK K)
    | (refine stepL_call (v := .int .u32 (r3 : Int)) (f := 46) (args := #[.pointer (some ⟨b, 0, none⟩), .int .i64 (l : Int)]) rfl rfl rfl ?_ (fun w' hw' => (HG3.out w' (Adds.trans A1.out (Adds.trans (Adds.drew _) hw'))).mono (by rintro e w2 ⟨rfl, m, rfl⟩; exact ⟨rfl, Adds.drewN _ _⟩)) ?_; (· (intro w'; clear hK; go_simp)); go_simp; refine hK _ ?_; clear hK K)
    | (refine stepL_call (v := .tuple #[.int .u32 (nw : Int), .int .i64 er]) (f := 93) (args := #[.int .i64 (k : Int), .int .u32 (r2 : Int), .int .u32 (r3 : Int)]) rfl rfl rfl ?_ (fun w' hw' => HD.out w') ?_; (· (intro w'; clear hK; go_simp)); go_simp; refine hK _ ?_; clear hK K))
  refine wpL_nil ?_
  intro w3 a3
  simp only [forL]
  have A3 := Lib.hid (Adds.trans A1.out (Adds.trans (Adds.drew _) a3))
  obtain ⟨q0, q1, q2, q3, q4⟩ := HI.out _ (Adds.trans (Adds.drew _) a3)
  clear a3 q0 q2 q3 q4
  by_cases h0 : er = 0
  · subst h0
    go_wp2_with (first
      | (go_at_call 37; refine (must_yes _ _).mono ?_; rintro e w4 ⟨rfl, rfl⟩)
      | (go_at_call 55; refine (HP.out _ A3.out).mono ?_; rintro e w5 ⟨rfl, hp, hb⟩; have HQ := Lib.hid hp; have HB := Lib.hid (Low.trans (Low.mono A3.out HN.out) hb); clear hp hb)
      | (go_at_call 56; refine (behindS_any HQ.out HPC.out).mono ?_; rintro e w6 ⟨rfl, hp, hb⟩; have HQ3 := Lib.hid hp; have HB3 := Lib.hid (HB.out.trans hb); clear hp hb))
    go_end0
    exact ⟨rfl, HQ3.out, HB3.out⟩
  · have hne : (er == 0) = false := by rw [beq_eq_false_iff_ne]; exact h0
    have H0 := Lib.hid h0
    clear h0
    go_wp2_with (go_at_call 37; refine (must_no _ _).mono ?_; rintro e w4 ⟨rfl, rfl⟩)
    exact ⟨rfl, fun h => absurd h H0.out, fun _ => ⟨rfl, A3.out⟩⟩
end
end Go.Proofs.YtdkgehhlikaocaaGreat
