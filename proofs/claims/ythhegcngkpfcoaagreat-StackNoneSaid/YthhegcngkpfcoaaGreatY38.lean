/- Merged: Z10. -/
import Derived.Test.YthhegcngkpfcoaaGreatY36
import Derived.Test.YthhegcngkpfcoaaGreatY37
namespace Go.Proofs.YthhegcngkpfcoaaGreat
open Go Go.RowKit Go.Shelf

section
variable {t : TypeId} {n b g cap : Nat} {w : World} {p : Pg} {fv lv : Value} {R : List (Fr × Value)} {f pc : Nat} {d : Int} {rs : List UInt32} {rv : Value} {res : UInt32}
theorem PileO.setRes (h : PileO t n w b p fv lv R res) (u : UInt32) : PileO t n (w.setCell ⟨b, 5, none⟩ (.int .u32 (u.toNat : Nat))) b p fv lv R u := by
  obtain ⟨t1, t2, t3, t4⟩ := h.tne
  have ht := TnS.setCell b 5 w (.int .u32 (u.toNat : Nat))
  exact ⟨h.ht, h.bx.set 5 _, h.fo.blk h.bx t3 t4 ht, h.lo.blk h.bx t1 t2 ht, h.hn⟩
set_option maxRecDepth 100000 in
set_option maxHeartbeats 4000000 in
theorem leaveS_end (h : TopO t n w b p fv g cap [] ((f, pc, d, rs), rv) res) (i0 i1 i2 i3 i4 : Int) (h1 : 0 ≤ i1 ∧ i1 < rs.length) :
    Calls Tryz.prog 77 #[.pointer (some ⟨b, 0, none⟩), insV (i0, i1, i2, i3, i4)] w fun e w' => e = .returned (.tuple #[]) ∧ PileO t n w' b p fv (.slice (some ⟨g, 0, none⟩) 0 cap) [] (rs.getD i1.toNat 0) ∧ Low n w w' := by
  obtain ⟨j, rfl⟩ : ∃ j : Nat, i1 = j := ⟨i1.toNat, by omega⟩
  rw [Int.toNat_natCast]
  have HN := Lib.hid h.low
  have HH := Lib.hid h
  have HG := Lib.hid (fun (W : World) (ha : Adds w W) => regS_any (h.adds ha) j (by have := h1.2; simp only; omega))
  have HT := Lib.hid (fun (W : World) (ha : Adds w W) => topS_any (h.adds ha))
  have HRw := Lib.hid (show ∀ W, Adds w W → n ≤ g ∧ ∃ u cur, BkS u W g cur ∧ pileT u from fun W ha => ⟨(World.ownsRow.lt (h.adds ha).lo.row g rfl).1, _, _, (ownB (h.adds ha).lo.row (g := g) rfl).choose_spec, .inr (.inr (.inl rfl))⟩)
  have hc := h.cells
  have HC := Lib.hid (fun (W : World) (ha : Adds w W) => And.intro (ha.cellAt hc.1.1) (ha.cellAt hc.2.2.2.1))
  have HDl := Lib.hid (fun (W : World) (ha : Adds w W) => deleteS_any (h.adds ha).lo)
  have HPu := Lib.hid (fun (W V : World) (ha : Adds w W) (hg : W.grownBy V (some g)) (ho : FrsO n V (.slice (some ⟨g, 0, none⟩) (([] : List (Fr × Value))).length cap) (([] : List (Fr × Value)))) => PileO.push (h.adds ha) hg ho)
  have HBx := Lib.hid (fun (W V : World) (ha : Adds w W) (hg : W.grownBy V (some g)) => BkS.grown (h.adds ha).bx hg (own_neT (h.adds ha).lo.row (h.adds ha).bx (h.adds ha).tne.1))
  obtain ⟨u, hu⟩ : ∃ u, rs.getD j 0 = u := ⟨_, rfl⟩
  simp only [hu] at HG ⊢
  obtain ⟨ri, hri⟩ : ∃ ri, u.toNat = ri := ⟨_, rfl⟩
  have HRi := Lib.hid hri
  simp only [hri] at HG 
  obtain ⟨w1, hw1⟩ : ∃ w1, w.alloc (.cells #[.int .i64 i0, .int .i64 (j : Int), .int .i64 i2, .int .i64 i3, .int .u32 i4] 37) = w1 := ⟨_, rfl⟩
  have A1 := Lib.hid (show Adds w w1 by rw [← hw1]; exact Adds.new _ _)
  have HI := Lib.hid (fun (W : World) (ha : Adds w1 W) => insCell hw1 ha)
  obtain ⟨k, hk⟩ : ∃ k, (([] : List (Fr × Value))).length = k := ⟨_, rfl⟩
  have HK := Lib.hid hk
  have hwr : wrap64 (k : Int) = (k : Int) := by have h3 := hc.1.2.1; have h4 := hc.1.2.2; rw [hk] at h3; unfold maxLen at h4; unfold wrap64; omega
  have hwr2 : wrap64 ((k : Int) + 1) = (k : Int) + 1 := by have h3 := hc.1.2.1; have h4 := hc.1.2.2; rw [hk] at h3; unfold maxLen at h4; unfold wrap64; omega
  simp only [hk] at HT HC HDl HPu 
  clear h h1 hc hk hu hri
  unfold insV insC
  go_enter Tryz.func77, Tryz.ntmps77
  go_wp2_with fail
  refine wp_region_loose [] (fun _ _ _ => True) Adds (by kernel_rfl) (by kernel_rfl) (by simp) Adds.refl (fun _ _ _ h k => Adds.trans h k) (fun _ _ _ _ _ _ => trivial) ?_
  repeat (refine wpL_step (fun K hK => ?_); first
    | (refine stepL_ex rfl rfl rfl Adds.refl (fun w' hw' => rfl) ?_; go_simp; refine hK _ ?_; clear hK K)
    | (refine stepL_ex (v := .int .i64 (j : Int)) rfl rfl rfl Adds.refl ?_ ?_; (· (intro w' hw'; clear hK; obtain ⟨q0, q1, q2, q3, q4⟩ := HI.out _ (Adds.trans (Adds.drew _) hw'); go_simp)); go_simp; refine hK _ ?_; clear hK K)
    | (refine stepL_ex (v := .int .i64 d) rfl rfl rfl Adds.refl ?_ ?_; (· (intro w' hw'; clear hK; obtain ⟨c0, c1⟩ := HC.out _ (Adds.trans A1.out (Adds.trans (Adds.drew _) hw')); go_simp)); go_simp; refine hK _ ?_; clear hK K)
    | (refine stepL_call (v := .int .u32 (ri : Int)) (f := 41) (args := #[.pointer (some ⟨b, 0, none⟩), .int .i64 (j : Int)]) rfl rfl rfl ?_ (fun w' hw' => (HG.out w' (Adds.trans A1.out (Adds.trans (Adds.drew _) hw'))).mono (by rintro e w2 ⟨rfl, m, rfl⟩; exact ⟨rfl, Adds.drewN _ _⟩)) ?_; (· (intro w'; clear hK; go_simp)); go_simp; refine hK _ ?_; clear hK K)
    | (refine stepL_call (v := .pointer (some ⟨g, k * 4, none⟩)) (f := 51) (args := #[.pointer (some ⟨b, 0, none⟩)]) rfl rfl rfl ?_ (fun w' hw' => (HT.out w' (Adds.trans A1.out (Adds.trans (Adds.drew _) hw'))).mono (by rintro e w2 ⟨rfl, m, rfl⟩; exact ⟨rfl, Adds.drewN _ _⟩)) ?_; (· (intro w'; clear hK; go_simp)); go_simp; refine hK _ ?_; clear hK K))
  refine wpL_nil ?_
  intro w3 a3
  simp only [forL]
  have A3 := Lib.hid (Adds.trans A1.out (Adds.trans (Adds.drew _) a3))
  clear a3
  obtain ⟨c0, _⟩ := HC.out _ A3.out
  go_wp2_with (first
    | (go_at_call 93; refine (HDl.out _ A3.out).mono ?_; rintro e w4 ⟨rfl, ho, hg, hb⟩; have HQ := Lib.hid (HPu.out _ _ A3.out hg ho); have BX := Lib.hid (HBx.out _ _ A3.out hg); have c4 := BX.out.cell 4; have f4 := BX.out.free 4; have c5 := BX.out.cell 5; have f5 := BX.out.free 5; have HB := Lib.hid (Low.set (i := 4) (Low.grown (Low.mono A3.out HN.out) hg (Nat.le_trans HN.out A3.out.size) (fun g' hg' => by cases hg'; exact HRw.out _ A3.out)) BX.out HH.out.myT HH.out.hn (.slice (some ⟨g, 0, none⟩) k cap)); clear ho hg hb)
    | (go_at_call 25; refine (endedS_any HQ.out).mono ?_; rintro e w5 ⟨rfl, rfl⟩))
  (try simp only [Exit.inBlock, Exit.then]); refine bodyPost_ret (results_none rfl _ _ _) rfl ?_
  have hq := HQ.out.setRes u
  have HQ0 := Lib.hid HQ.out.bx
  rw [HRi.out] at hq
  have hk0 : k = 0 := HK.out.symm
  rw [hk0] at hq ⊢
  exact ⟨by simp, hq, by have hb := HB.out; have hq0 := HQ0.out; rw [hk0] at hb hq0; exact Low.set hb hq0 HH.out.myT HH.out.hn _⟩
set_option maxRecDepth 100000 in
set_option maxHeartbeats 4000000 in
theorem leaveS_on {y : Fr × Value} (h : TopO t n w b p fv g cap (R ++ [y]) ((f, pc, d, rs), rv) res) (hd : d = -1 ∨ 0 ≤ d ∧ d < y.1.2.2.2.length) (i0 i1 i2 i3 i4 : Int) (h1 : 0 ≤ i1 ∧ i1 < rs.length) :
    Calls Tryz.prog 77 #[.pointer (some ⟨b, 0, none⟩), insV (i0, i1, i2, i3, i4)] w fun e w' => e = .returned (.tuple #[]) ∧ PileO t n w' b p fv (.slice (some ⟨g, 0, none⟩) (R.length + 1) cap) (R ++ [putR d (rs.getD i1.toNat 0) y]) res ∧ Low n w w' := by
  obtain ⟨j, rfl⟩ : ∃ j : Nat, i1 = j := ⟨i1.toNat, by omega⟩
  rw [Int.toNat_natCast]
  have HN := Lib.hid h.low
  have HH := Lib.hid h
  have HG := Lib.hid (fun (W : World) (ha : Adds w W) => regS_any (h.adds ha) j (by have := h1.2; simp only; omega))
  have HT := Lib.hid (fun (W : World) (ha : Adds w W) => topS_any (h.adds ha))
  have HRw := Lib.hid (show ∀ W, Adds w W → n ≤ g ∧ ∃ u cur, BkS u W g cur ∧ pileT u from fun W ha => ⟨(World.ownsRow.lt (h.adds ha).lo.row g rfl).1, _, _, (ownB (h.adds ha).lo.row (g := g) rfl).choose_spec, .inr (.inr (.inl rfl))⟩)
  have hc := h.cells
  have HC := Lib.hid (fun (W : World) (ha : Adds w W) => And.intro (ha.cellAt hc.1.1) (ha.cellAt hc.2.2.2.1))
  have HDl := Lib.hid (fun (W : World) (ha : Adds w W) => deleteS_any (h.adds ha).lo)
  have HPu := Lib.hid (fun (W V : World) (ha : Adds w W) (hg : W.grownBy V (some g)) (ho : FrsO n V (.slice (some ⟨g, 0, none⟩) (R ++ [y]).length cap) (R ++ [y])) => PileO.push (h.adds ha) hg ho)
  have HBx := Lib.hid (fun (W V : World) (ha : Adds w W) (hg : W.grownBy V (some g)) => BkS.grown (h.adds ha).bx hg (own_neT (h.adds ha).lo.row (h.adds ha).bx (h.adds ha).tne.1))
  have hL : (R ++ [y]).length = R.length + 1 := by simp
  have HP := Lib.hid (fun (W : World) (hW : PileO t n W b p fv (.slice (some ⟨g, 0, none⟩) (R ++ [y]).length cap) (R ++ [y]) res) => putS_any (show TopO t n W b p fv g cap R y res by rw [hL] at hW; exact hW) d hd (rs.getD j 0))
  obtain ⟨u, hu⟩ : ∃ u, rs.getD j 0 = u := ⟨_, rfl⟩
  simp only [hu] at HG HP ⊢
  obtain ⟨ri, hri⟩ : ∃ ri, u.toNat = ri := ⟨_, rfl⟩
  have HRi := Lib.hid hri
  simp only [hri] at HG HP 
  obtain ⟨w1, hw1⟩ : ∃ w1, w.alloc (.cells #[.int .i64 i0, .int .i64 (j : Int), .int .i64 i2, .int .i64 i3, .int .u32 i4] 37) = w1 := ⟨_, rfl⟩
  have A1 := Lib.hid (show Adds w w1 by rw [← hw1]; exact Adds.new _ _)
  have HI := Lib.hid (fun (W : World) (ha : Adds w1 W) => insCell hw1 ha)
  obtain ⟨k, hk⟩ : ∃ k, (R ++ [y]).length = k := ⟨_, rfl⟩
  have HK := Lib.hid hk
  have hwr : wrap64 (k : Int) = (k : Int) := by have h3 := hc.1.2.1; have h4 := hc.1.2.2; rw [hk] at h3; unfold maxLen at h4; unfold wrap64; omega
  have hwr2 : wrap64 ((k : Int) + 1) = (k : Int) + 1 := by have h3 := hc.1.2.1; have h4 := hc.1.2.2; rw [hk] at h3; unfold maxLen at h4; unfold wrap64; omega
  simp only [hk] at HT HC HDl HPu HP
  clear h h1 hc hk hu hri
  unfold insV insC
  go_enter Tryz.func77, Tryz.ntmps77
  go_wp2_with fail
  refine wp_region_loose [] (fun _ _ _ => True) Adds (by kernel_rfl) (by kernel_rfl) (by simp) Adds.refl (fun _ _ _ h k => Adds.trans h k) (fun _ _ _ _ _ _ => trivial) ?_
  repeat (refine wpL_step (fun K hK => ?_); first
    | (refine stepL_ex rfl rfl rfl Adds.refl (fun w' hw' => rfl) ?_; go_simp; refine hK _ ?_; clear hK K)
    | (refine stepL_ex (v := .int .i64 (j : Int)) rfl rfl rfl Adds.refl ?_ ?_; (· (intro w' hw'; clear hK; obtain ⟨q0, q1, q2, q3, q4⟩ := HI.out _ (Adds.trans (Adds.drew _) hw'); go_simp)); go_simp; refine hK _ ?_; clear hK K)
    | (refine stepL_ex (v := .int .i64 d) rfl rfl rfl Adds.refl ?_ ?_; (· (intro w' hw'; clear hK; obtain ⟨c0, c1⟩ := HC.out _ (Adds.trans A1.out (Adds.trans (Adds.drew _) hw')); go_simp)); go_simp; refine hK _ ?_; clear hK K)
    | (refine stepL_call (v := .int .u32 (ri : Int)) (f := 41) (args := #[.pointer (some ⟨b, 0, none⟩), .int .i64 (j : Int)]) rfl rfl rfl ?_ (fun w' hw' => (HG.out w' (Adds.trans A1.out (Adds.trans (Adds.drew _) hw'))).mono (by rintro e w2 ⟨rfl, m, rfl⟩; exact ⟨rfl, Adds.drewN _ _⟩)) ?_; (· (intro w'; clear hK; go_simp)); go_simp; refine hK _ ?_; clear hK K)
    | (refine stepL_call (v := .pointer (some ⟨g, k * 4, none⟩)) (f := 51) (args := #[.pointer (some ⟨b, 0, none⟩)]) rfl rfl rfl ?_ (fun w' hw' => (HT.out w' (Adds.trans A1.out (Adds.trans (Adds.drew _) hw'))).mono (by rintro e w2 ⟨rfl, m, rfl⟩; exact ⟨rfl, Adds.drewN _ _⟩)) ?_; (· (intro w'; clear hK; go_simp)); go_simp; refine hK _ ?_; clear hK K))
  refine wpL_nil ?_
  intro w3 a3
  simp only [forL]
  have A3 := Lib.hid (Adds.trans A1.out (Adds.trans (Adds.drew _) a3))
  clear a3
  obtain ⟨c0, _⟩ := HC.out _ A3.out
  go_wp2_with (first
    | (go_at_call 93; refine (HDl.out _ A3.out).mono ?_; rintro e w4 ⟨rfl, ho, hg, hb⟩; have HQ := Lib.hid (HPu.out _ _ A3.out hg ho); have BX := Lib.hid (HBx.out _ _ A3.out hg); have c4 := BX.out.cell 4; have f4 := BX.out.free 4; have c5 := BX.out.cell 5; have f5 := BX.out.free 5; have HB := Lib.hid (Low.set (i := 4) (Low.grown (Low.mono A3.out HN.out) hg (Nat.le_trans HN.out A3.out.size) (fun g' hg' => by cases hg'; exact HRw.out _ A3.out)) BX.out HH.out.myT HH.out.hn (.slice (some ⟨g, 0, none⟩) k cap)); clear ho hg hb)
    | (go_at_call 25; refine (endedS_any HQ.out).mono ?_; rintro e w5 ⟨rfl, rfl⟩)
    | (go_at_call 60; refine (HP.out _ HQ.out).mono ?_; rintro e w6 ⟨rfl, hp, hb⟩; have HQ2 := Lib.hid hp; have HB2 := Lib.hid (Low.trans HB.out hb); clear hp hb))
  go_end0
  exact ⟨by simp, HQ2.out, HB2.out⟩
end
end Go.Proofs.YthhegcngkpfcoaaGreat
