/- Merged: Z9, Z7. -/
import Derived.Test.YthhegcngkpfcoaaGreatY35
import Derived.Lib.SliceRun
import Derived.Deep.RegionLaw
namespace Go.Proofs.YthhegcngkpfcoaaGreat
open Go Go.RowKit Go.Shelf

abbrev frZ : List Value := [.int .i64 0, .int .i64 0, .int .i64 0, .slice none 0 0]
/-- clear of one frame. -/
theorem run_clearFr (w : World) (ty : TypeId) (g o c : Nat) (hc : ∀ j, j < 4 → (w.cell? ⟨g, o + j, none⟩).isSome = true) (hf : ∀ j, j < 4 → w.frozen? ⟨g, o + j, none⟩ = false) :
    (Builtin.clear_ #[30] ty #[.slice (some ⟨g, o, none⟩) 1 c]).run Tryz.prog w = .ok (.tuple #[]) (w.setCells g o frZ) := by
  have hst := run_storeCells_cells (P := Tryz.prog) g o frZ 0 w (by simpa using hc) (by simpa using hf) (by intro v hv; simp at hv; rcases hv with rfl | rfl | rfl <;> rfl)
  simp only [Nat.add_zero] at hst
  have hz : (Builtin.zeroCells (Value.cells (.agg #[.int .i64 0, .int .i64 0, .int .i64 0, .slice none 0 0])) 1).toList = frZ := by kernel_rfl
  simp [Builtin.clear_, run_underlying Tryz.underlying30, hz, hst]
section
variable {n g cap : Nat} {w : World} {R : List (Fr × Value)} {x : Fr × Value}
theorem FrsO.tnOwn {w' : World} (h : FrsO n w (.slice (some ⟨g, 0, none⟩) R.length cap) R) (hr : w'.ownsRow n 83 4 (.slice (some ⟨g, 0, none⟩) R.length cap) R.length (R.flatMap frC)) (ht : TnS g w w') : FrsO n w' (.slice (some ⟨g, 0, none⟩) R.length cap) R := by
  obtain ⟨cur, hg⟩ := ownB h.row (g := g) rfl
  exact ⟨hr, fun y hy => (h.reg y hy).tn ht (own_neT (h.reg y hy) hg (by decide)), h.far⟩
/-- A row's end is left out. -/
theorem ownsRow_less {e : TypeId} {size k : Nat} {xs ys : List Value} (hx : xs.length = k * size) (hr : w.ownsRow n e size (.slice (some ⟨g, 0, none⟩) (k + 1) cap) (k + 1) (xs ++ ys)) : w.ownsRow n e size (.slice (some ⟨g, 0, none⟩) k cap) k xs := by
  obtain ⟨h1, h2⟩ := hr
  rcases h2 with ⟨e1, _⟩ | ⟨g', cap', cur, e1, hb, hh, h3, h4, h5, h6⟩
  · cases e1
  · simp only [Value.slice.injEq, Option.some.injEq, Addr.mk.injEq, and_true, true_and] at e1
    obtain ⟨rfl, rfl⟩ := e1
    refine ⟨hx, .inr ⟨g, cap, cur, rfl, hb, hh, by omega, h4, h5, ?_⟩⟩
    have e2 := congrArg (List.take (k * size)) h6
    rw [List.take_take, Nat.min_eq_left (Nat.mul_le_mul_right _ (Nat.le_succ k)), List.take_left' hx] at e2
    exact e2
theorem FrsO.less (h : FrsO n w (.slice (some ⟨g, 0, none⟩) (R.length + 1) cap) (R ++ [x])) : FrsO n w (.slice (some ⟨g, 0, none⟩) R.length cap) R := by
  have hr := h.row
  have hf := h.far
  rw [List.flatMap_append, show (R ++ [x]).length = R.length + 1 by simp] at hr
  rw [List.pairwise_append] at hf
  exact ⟨ownsRow_less (flat_len frC 4 frC_len R) hr, fun y hy => h.reg y (List.mem_append_left _ hy), hf.1⟩
/-- What clear leaves of the list below. -/
theorem FrsO.cleared (h : FrsO n w (.slice (some ⟨g, 0, none⟩) (R.length + 1) cap) (R ++ [x])) : FrsO n (w.setCells g (R.length * 4) frZ) (.slice (some ⟨g, 0, none⟩) R.length cap) R ∧ w.grownBy (w.setCells g (R.length * 4) frZ) (some g) ∧ Below n w (w.setCells g (R.length * 4) frZ) := by
  have hng := (World.ownsRow.lt h.row g rfl).1
  have hw : w.setCells g (R.length * 4) frZ = (((w.setCell ⟨g, R.length * 4, none⟩ (.int .i64 0)).setCell ⟨g, R.length * 4 + 1, none⟩ (.int .i64 0)).setCell ⟨g, R.length * 4 + 2, none⟩ (.int .i64 0)).setCell ⟨g, R.length * 4 + 3, none⟩ (.slice none 0 0) := rfl
  have ht : TnS g w (w.setCells g (R.length * 4) frZ) := by
    rw [hw]
    exact (((TnS.setCell _ _ _ _).trans (TnS.setCell _ _ _ _)).trans (TnS.setCell _ _ _ _)).trans (TnS.setCell _ _ _ _)
  have hb : Below n w (w.setCells g (R.length * 4) frZ) := by
    rw [hw]
    exact ((((Below.refl n w).setCell (p := ⟨g, R.length * 4, none⟩) hng _).setCell (p := ⟨g, R.length * 4 + 1, none⟩) hng _).setCell (p := ⟨g, R.length * 4 + 2, none⟩) hng _).setCell (p := ⟨g, R.length * 4 + 3, none⟩) hng _
  refine ⟨?_, ⟨hb.os, hb.tape, hb.output, hb.size, fun k hk hne => ht.block k hk hne⟩, hb⟩
  refine h.less.tnOwn ?_ ht
  have hr := h.row
  rw [List.flatMap_append, show (R ++ [x]).length = R.length + 1 by simp] at hr
  rw [hw]
  have e0 := ownsRow_set (ownsRow_set (ownsRow_set (ownsRow_set hr (R.length * 4) (.int .i64 0)) (R.length * 4 + 1) (.int .i64 0)) (R.length * 4 + 2) (.int .i64 0)) (R.length * 4 + 3) (.slice none 0 0)
  have hl : (R.flatMap frC).length = R.length * 4 := flat_len frC 4 frC_len R
  have keep : ∀ (zs : List Value) (j : Nat) (u : Value), (R.flatMap frC ++ zs).set (R.length * 4 + j) u = R.flatMap frC ++ zs.set j u := by
    intro zs j u
    rw [List.set_append_right _ _ (by omega), hl, Nat.add_sub_cancel_left]
  have keep0 := fun zs u => keep zs 0 u
  simp only [Nat.add_zero] at keep0
  rw [keep0, keep, keep, keep] at e0
  exact ownsRow_less hl e0
set_option maxRecDepth 100000 in
set_option maxHeartbeats 4000000 in
theorem deleteS_any (h : FrsO n w (.slice (some ⟨g, 0, none⟩) (R.length + 1) cap) (R ++ [x])) : Calls Tryz.prog 93 #[.slice (some ⟨g, 0, none⟩) (R.length + 1) cap, .int .i64 (R.length : Int), .int .i64 ((R.length : Int) + 1)] w fun e w' =>
    e = .returned (.slice (some ⟨g, 0, none⟩) R.length cap) ∧ FrsO n w' (.slice (some ⟨g, 0, none⟩) R.length cap) R ∧ w.grownBy w' (some g) ∧ Below n w w' := by
  obtain ⟨g', cap', cur, e, hng, h2, h3, hbk, c0, c1, c2, c3, hfr⟩ := h.top
  simp only [Value.slice.injEq, Option.some.injEq, Addr.mk.injEq, and_true, true_and] at e
  obtain ⟨rfl, rfl⟩ := e
  unfold maxLen at h3
  obtain ⟨i0, hi0, hz0, hz1, hz2⟩ := info_parts infoFr
  have hD := h.adds (Adds.drew w)
  have HE := Lib.hid hD.cleared
  have HB := Lib.hid (show Below n w w.drew from drewN_below n w 1)
  have HGr := Lib.hid (show ∀ W, w.drew.grownBy W (some g) → w.grownBy W (some g) from fun W hg => ⟨hg.os.trans HB.out.os, hg.tape.trans HB.out.tape, hg.output.trans HB.out.output, Nat.le_trans HB.out.size hg.size, fun k hk hne => (hg.block k (Nat.lt_of_lt_of_le hk HB.out.size) hne).trans rfl⟩)
  have hc4 : ∀ j, j < 4 → (w.drew.cell? ⟨g, R.length * 4 + j, none⟩).isSome = true := by
    intro j hj
    show (w.cell? ⟨g, R.length * 4 + j, none⟩).isSome = true
    match j, hj with
    | 0, _ => simpa using congrArg Option.isSome c0
    | 1, _ => rw [c1]; rfl
    | 2, _ => rw [c2]; rfl
    | 3, _ => rw [c3]; rfl
  obtain ⟨W1, hW1⟩ : ∃ W1, W1 = w.drew.setCells g (0 + R.length * 4) [] := ⟨_, rfl⟩
  have hW1' : W1 = w.drew := hW1
  have hcl : ∀ ty, (Builtin.clear_ #[30] ty #[.slice (some ⟨g, R.length * 4, none⟩) 1 (cap - R.length)]).run Tryz.prog W1 = .ok (.tuple #[]) (W1.setCells g (R.length * 4) frZ) := fun ty => by rw [hW1']; exact run_clearFr w.drew ty g _ _ hc4 (fun j _ => hfr _)
  have X := Lib.hid hW1'
  have hW := Lib.hid hW1
  obtain ⟨A, hA⟩ : ∃ A : Addr, (if cap = R.length + 1 then (some ⟨g, 0, none⟩ : Option Addr) else some ⟨g, (R.length + 1) * 4, none⟩) = some A := by split <;> exact ⟨_, rfl⟩
  obtain ⟨k, hk⟩ : ∃ k, R.length = k := ⟨_, rfl⟩
  have HK := Lib.hid hk
  rw [hk] at h2 hcl hW hA ⊢
  have hkI : (k : Int) + 1 ≤ (cap : Int) := by omega
  have hcI : (cap : Int) ≤ 9223372036854775807 := by omega
  have hkN : k ≤ cap := by omega
  have hk0 : (0 : Int) ≤ (k : Int) + 1 := by omega
  have hmx : Tryz.prog.follows .mixedOrders = true := by kernel_rfl
  have hrs : ∀ j u, ([] : List Value)[j]? = some u → w.drew.cell? (A.add j) = some u := by intro j u hu; simp at hu
  clear h h3 hbk c0 c1 c2 c3 hfr hD hc4 hW1 hW1' hk hz0 hz2 hng
  go_enter Tryz.func93, Tryz.ntmps93
  go_wp2_with fail
  go_region_law_o (refine step_append_room rfl (.tmp 22) (.tmp 25) 30 rfl 83 i0 4 Tryz.underlying30 hi0 hz1 g 0 k cap (by simp [Act.eval, Act.put]) A 0 (cap - (k + 1)) [] (by simp [Act.eval, Act.put]) rfl hrs (by simp) (by omega) (by simp) ?_; rw [← hW.out])
  go_wp2
  go_ret
  rw [X.out, ← HK.out]
  exact ⟨rfl, HE.out.1, HGr.out _ HE.out.2.1, HB.out.trans HE.out.2.2⟩
end
end Go.Proofs.YthhegcngkpfcoaaGreat
namespace Go.Proofs.YthhegcngkpfcoaaGreat
open Go Go.RowKit Go.Shelf

section
variable {t : TypeId} {n b g cap : Nat} {w : World} {p : Pg} {fv lv : Value} {R : List (Fr × Value)} {f pc : Nat} {d : Int} {rs : List UInt32} {rv : Value} {res : UInt32}
theorem putR_yes {reg : Int} (h : 0 ≤ reg) (u : UInt32) : putR reg u ((f, pc, d, rs), rv) = ((f, pc, d, rs.set reg.toNat u), rv) := by
  unfold putR
  rw [if_neg (by omega)]
/-- The same register of an instruction's copy. -/
theorem insCell {w w1 w2 : World} {i0 i1 i2 i3 i4 : Int} (hw1 : w.alloc (.cells #[.int .i64 i0, .int .i64 i1, .int .i64 i2, .int .i64 i3, .int .u32 i4] 37) = w1) (ha : Adds w1 w2) :
    w2.cell? ⟨w.heap.size, 0, none⟩ = some (.int .i64 i0) ∧ w2.cell? ⟨w.heap.size, 1, none⟩ = some (.int .i64 i1) ∧ w2.cell? ⟨w.heap.size, 2, none⟩ = some (.int .i64 i2) ∧ w2.cell? ⟨w.heap.size, 3, none⟩ = some (.int .i64 i3) ∧ w2.cell? ⟨w.heap.size, 4, none⟩ = some (.int .u32 i4) := by
  have B := (show BkS 37 w1 w.heap.size [.int .i64 i0, .int .i64 i1, .int .i64 i2, .int .i64 i3, .int .u32 i4] by rw [← hw1]; exact BkS.new _ _ _).adds ha
  exact ⟨B.cell 0, B.cell 1, B.cell 2, B.cell 3, B.cell 4⟩
set_option maxRecDepth 100000 in
set_option maxHeartbeats 1000000 in
theorem constantS_any (h : TopO t n w b p fv g cap R ((f, pc, d, rs), rv) res) (hpc : pc < 9223372036854775807) (i0 i1 i2 i3 : Int) (h1 : 0 ≤ i1 ∧ i1 < rs.length) (u : UInt32) :
    Calls Tryz.prog 71 #[.pointer (some ⟨b, 0, none⟩), insV (i0, i1, i2, i3, (u.toNat : Nat))] w fun e w' => e = .returned (.tuple #[]) ∧ TopO t n w' b p fv g cap R ((f, pc + 1, d, rs.set i1.toNat u), rv) res ∧ Low n w w' := by
  have HN := Lib.hid h.low
  have HP := Lib.hid (fun (W : World) (ha : Adds w W) => putS_any (h.adds ha) i1 (.inr h1) u)
  rw [putR_yes h1.1] at HP
  have HPC := Lib.hid hpc
  obtain ⟨w1, hw1⟩ : ∃ w1, w.alloc (.cells #[.int .i64 i0, .int .i64 i1, .int .i64 i2, .int .i64 i3, .int .u32 (u.toNat : Nat)] 37) = w1 := ⟨_, rfl⟩
  have A1 := Lib.hid (show Adds w w1 by rw [← hw1]; exact Adds.new _ _)
  obtain ⟨c0, c1, c2, c3, c4⟩ := insCell hw1 (Adds.refl _)
  obtain ⟨uu, huu⟩ : ∃ uu, u.toNat = uu := ⟨_, rfl⟩
  rw [huu] at HP c4 hw1 ⊢
  clear h h1 hpc c0 c2 c3 huu
  unfold insV insC
  go_enter Tryz.func71, Tryz.ntmps71
  go_wp2_with (first
    | (go_at_call 60; refine (HP.out _ A1.out).mono ?_; rintro e w2 ⟨rfl, hp, hb⟩; have HQ := Lib.hid hp; have HB := Lib.hid (Low.trans (Low.mono A1.out HN.out) hb); clear hp hb)
    | (go_at_call 61; refine (behindS_any HQ.out HPC.out).mono ?_; rintro e w3 ⟨rfl, hp, hb⟩; have HQ3 := Lib.hid hp; have HB3 := Lib.hid (HB.out.trans hb); clear hp hb))
  go_end0
  exact ⟨by simp, HQ3.out, HB3.out⟩
set_option maxRecDepth 100000 in
set_option maxHeartbeats 1000000 in
theorem yieldS_any (h : TopO t n w b p fv g cap R ((f, pc, d, rs), rv) res) (hpc : pc < 9223372036854775807) (i0 i1 i2 i3 i4 : Int) :
    Calls Tryz.prog 78 #[.pointer (some ⟨b, 0, none⟩), insV (i0, i1, i2, i3, i4)] w fun e w' => e = .returned (.tuple #[]) ∧ TopO t n w' b p fv g cap R ((f, pc + 1, d, rs), rv) res ∧ Low n w w' := by
  have HN := Lib.hid h.low
  have HP := Lib.hid (fun (W : World) (ha : Adds w W) => behindS_any (h.adds ha) hpc)
  obtain ⟨w1, hw1⟩ : ∃ w1, w.alloc (.cells #[.int .i64 i0, .int .i64 i1, .int .i64 i2, .int .i64 i3, .int .u32 i4] 37) = w1 := ⟨_, rfl⟩
  have A1 := Lib.hid (show Adds w w1 by rw [← hw1]; exact Adds.new _ _)
  clear h hpc
  unfold insV insC
  go_enter Tryz.func78, Tryz.ntmps78
  go_wp2_with (go_at_call 61; refine (HP.out _ A1.out).mono ?_; rintro e w3 ⟨rfl, hp, hb⟩; have HQ3 := Lib.hid hp; have HB3 := Lib.hid (Low.trans (Low.mono A1.out HN.out) hb); clear hp hb)
  go_end0
  exact ⟨by simp, HQ3.out, HB3.out⟩
set_option maxRecDepth 100000 in
set_option maxHeartbeats 4000000 in
theorem moveS_any (h : TopO t n w b p fv g cap R ((f, pc, d, rs), rv) res) (hpc : pc < 9223372036854775807) (i0 i1 i2 i3 i4 : Int) (h1 : 0 ≤ i1 ∧ i1 < rs.length) (h2 : 0 ≤ i2 ∧ i2 < rs.length) :
    Calls Tryz.prog 72 #[.pointer (some ⟨b, 0, none⟩), insV (i0, i1, i2, i3, i4)] w fun e w' => e = .returned (.tuple #[]) ∧ TopO t n w' b p fv g cap R ((f, pc + 1, d, rs.set i1.toNat (rs.getD i2.toNat 0)), rv) res ∧ Low n w w' := by
  obtain ⟨j, rfl⟩ : ∃ j : Nat, i2 = j := ⟨i2.toNat, by omega⟩
  rw [Int.toNat_natCast]
  have HN := Lib.hid h.low
  have HG := Lib.hid (fun (W : World) (ha : Adds w W) => regS_any (h.adds ha) j (by have := h2.2; simp only; omega))
  have HP := Lib.hid (fun (W : World) (ha : Adds w W) => putS_any (h.adds ha) i1 (.inr h1) (rs.getD j 0))
  rw [putR_yes h1.1] at HP
  obtain ⟨ru, hru⟩ : ∃ ru, rs.getD j 0 = ru := ⟨_, rfl⟩
  simp only [hru] at HG HP ⊢
  obtain ⟨ri, hri⟩ : ∃ ri, ru.toNat = ri := ⟨_, rfl⟩
  rw [hri] at HG HP
  have HPC := Lib.hid hpc
  obtain ⟨w1, hw1⟩ : ∃ w1, w.alloc (.cells #[.int .i64 i0, .int .i64 i1, .int .i64 (j : Int), .int .i64 i3, .int .u32 i4] 37) = w1 := ⟨_, rfl⟩
  have A1 := Lib.hid (show Adds w w1 by rw [← hw1]; exact Adds.new _ _)
  have HC := Lib.hid (fun (W : World) (ha : Adds w1 W) => insCell hw1 ha)
  obtain ⟨c0, c1, c2, c3, c4⟩ := HC.out _ (Adds.refl _)
  clear h h1 h2 hpc c0 c3 c4 hru hri
  unfold insV insC
  go_enter Tryz.func72, Tryz.ntmps72
  go_wp2_with fail
  refine wp_calmC ?_
  go_region_with (first
    | (go_at_call 41; refine (HG.out _ (Adds.trans A1.out (Adds.drew _))).mono ?_; rintro e w2 ⟨rfl, m, rfl⟩; obtain ⟨c0, c1, c2, c3, c4⟩ := HC.out _ (Adds.trans (Adds.drew _) (Adds.drewN _ m)))
    | (go_at_call 60; refine (HP.out _ (Adds.trans A1.out (Adds.drewN _ _))).mono ?_; rintro e w3 ⟨rfl, hp, hb⟩; have HQ := Lib.hid hp; have HB := Lib.hid (Low.trans (Low.mono (Adds.trans A1.out (Adds.drewN _ _)) HN.out) hb); clear hp hb))
  go_wp2_with (go_at_call 61; refine (behindS_any HQ.out HPC.out).mono ?_; rintro e w3 ⟨rfl, hp, hb⟩; have HQ3 := Lib.hid hp; have HB3 := Lib.hid (HB.out.trans hb); clear hp hb)
  all_goals (go_end0; exact ⟨by simp, HQ3.out, HB3.out⟩)
end
end Go.Proofs.YthhegcngkpfcoaaGreat
