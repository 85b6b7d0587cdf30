/- Merged: Z10, Z11, ZPl, Z12. -/
import Derived.Test.YtdkgehhlikaocaaGreatY20
import Derived.Test.YtdkgehhlikaocaaGreatY19
import Derived.Test.YtdkgehhlikaocaaGreatY9
import Derived.Test.YtdkgehhlikaocaaGreatY13
namespace Go.Proofs.YtdkgehhlikaocaaGreat
open Go Go.RowKit Go.Shelf

section
variable {t : TypeId} {n b g cap : Nat} {w : World} {p : Pg} {fv lv : Value} {R : List (Fr × Value)} {f pc : Nat} {d : Int} {rs : List UInt32} {rv : Value} {res : UInt32}
theorem PileO.setRes (h : PileO t n w b p fv lv R res) (u : UInt32) : PileO t n (w.setCell ⟨b, 5, none⟩ (.int .u32 (u.toNat : Nat))) b p fv lv R u := by
  obtain ⟨t1, t2, t3, t4⟩ := h.tne
  have ht := TnS.setCell b 5 w (.int .u32 (u.toNat : Nat))
  exact ⟨h.ht, h.bx.set 5 _, h.fo.blk h.bx t3 t4 ht, h.lo.blk h.bx t1 t2 ht, h.hn⟩
set_option maxRecDepth 100000 in
set_option maxHeartbeats 4000000 in
theorem leaveS_end (h : TopO t n w b p fv g cap [] ((f, pc, d, rs), rv) res) (i0 i1 i2 i3 i4 : Int) (h1 : 0 ≤ i1 ∧ i1 < rs.length) :
    Calls Tryz.prog 79 #[.pointer (some ⟨b, 0, none⟩), insV (i0, i1, i2, i3, i4)] w fun e w' => e = .returned (.tuple #[]) ∧ PileO t n w' b p fv (.slice (some ⟨g, 0, none⟩) 0 cap) [] (rs.getD i1.toNat 0) ∧ Low n w w' := by
  obtain ⟨j, rfl⟩ : ∃ j : Nat, i1 = j := ⟨i1.toNat, by omega⟩
  rw [Int.toNat_natCast]
  have HN := Lib.hid h.low
  have HH := Lib.hid h
  have HG := Lib.hid (fun (W : World) (ha : Adds w W) => regS_any (h.adds ha) j (by have := h1.2; simp only; omega))
  have HT := Lib.hid (fun (W : World) (ha : Adds w W) => topS_any (h.adds ha))
  have HRw := Lib.hid (show ∀ W, Adds w W → n ≤ g ∧ ∃ u cur, BkS u W g cur ∧ pileT u from fun W ha => ⟨(World.ownsRow.lt (h.adds ha).lo.row g rfl).1, _, _, (ownB (h.adds ha).lo.row (g := g) rfl).choose_spec, .inr (.inr (.inl rfl))⟩)
  have hc := h.cells
  have HC := Lib.hid (fun (W : World) (ha : Adds w W) => And.intro (ha.cellAt hc.1.1) (ha.cellAt hc.2.2.2.1))
  have HDl := Lib.hid (fun (W : World) (ha : Adds w W) => deleteS_any (h.adds ha).lo)
  have HPu := Lib.hid (fun (W V : World) (ha : Adds w W) (hg : W.grownBy V (some g)) (ho : FrsO n V (.slice (some ⟨g, 0, none⟩) (([] : List (Fr × Value))).length cap) (([] : List (Fr × Value)))) => PileO.push (h.adds ha) hg ho)
  have HBx := Lib.hid (fun (W V : World) (ha : Adds w W) (hg : W.grownBy V (some g)) => BkS.grown (h.adds ha).bx hg (own_neT (h.adds ha).lo.row (h.adds ha).bx (h.adds ha).tne.1))
  obtain ⟨u, hu⟩ : ∃ u, rs.getD j 0 = u := ⟨_, rfl⟩
  simp only [hu] at HG ⊢
  obtain ⟨ri, hri⟩ : ∃ ri, u.toNat = ri := ⟨_, rfl⟩
  have HRi := Lib.hid hri
  simp only [hri] at HG 
  obtain ⟨w1, hw1⟩ : ∃ w1, w.alloc (.cells #[.int .i64 i0, .int .i64 (j : Int), .int .i64 i2, .int .i64 i3, .int .u32 i4] 56) = w1 := ⟨_, rfl⟩
  have A1 := Lib.hid (show Adds w w1 by rw [← hw1]; exact Adds.new _ _)
  have HI := Lib.hid (fun (W : World) (ha : Adds w1 W) => insCell hw1 ha)
  obtain ⟨k, hk⟩ : ∃ k, (([] : List (Fr × Value))).length = k := ⟨_, rfl⟩
  have HK := Lib.hid hk
  have hwr : wrap64 (k : Int) = (k : Int) := by have h3 := hc.1.2.1; have h4 := hc.1.2.2; rw [hk] at h3; unfold maxLen at h4; unfold wrap64; omega
  have hwr2 : wrap64 ((k : Int) + 1) = (k : Int) + 1 := by have h3 := hc.1.2.1; have h4 := hc.1.2.2; rw [hk] at h3; unfold maxLen at h4; unfold wrap64; omega
  simp only [hk] at HT HC HDl HPu 
  clear h h1 hc hk hu hri
  unfold insV insC
  go_enter Tryz.func79, Tryz.ntmps79
  go_wp2_with fail
  refine wp_region_loose [] (fun _ _ _ => True) Adds (by kernel_rfl) (by kernel_rfl) (by simp) Adds.refl (fun _ _ _ h k => Adds.trans h k) (fun _ _ _ _ _ _ => trivial) ?_
  repeat (refine wpL_step (fun K hK => ?_); first
    | (refine stepL_ex rfl rfl rfl Adds.refl (fun w' hw' => rfl) ?_; go_simp; refine hK _ ?_; clear hK K)
    | (refine stepL_ex (v := .int .i64 (j : Int)) rfl rfl rfl Adds.refl ?_ ?_; (· (intro w' hw'; clear hK; obtain ⟨q0, q1, q2, q3, q4⟩ := HI.out _ (Adds.trans (Adds.drew _) hw'); go_simp)); go_simp; refine hK _ ?_; clear hK K)
    | (refine stepL_ex (v := .int .i64 d) rfl rfl rfl Adds.refl ?_ ?_; (· (intro w' hw'; clear hK; obtain ⟨c0, c1⟩ := HC.out _ (Adds.trans A1.out (Adds.trans (Adds.drew _) hw')); go_simp)); go_simp; refine hK _ ?_; clear hK K)
    | (refine stepL_call (v := .int .u32 (ri : Int)) (f := 46) (args := #[.pointer (some ⟨b, 0, none⟩), .int .i64 (j : Int)]) rfl rfl rfl ?_ (fun w' hw' => (HG.out w' (Adds.trans A1.out (Adds.trans (Adds.drew _) hw'))).mono (by rintro e w2 ⟨rfl, m, rfl⟩; exact ⟨rfl, Adds.drewN _ _⟩)) ?_; (· (intro w'; clear hK; go_simp)); go_simp; refine hK _ ?_; clear hK K)
    | (refine stepL_call (v := .pointer (some ⟨g, k * 4, none⟩)) (f := 61) (args := #[.pointer (some ⟨b, 0, none⟩)]) rfl rfl rfl ?_ (fun w' hw' => (HT.out w' (Adds.trans A1.out (Adds.trans (Adds.drew _) hw'))).mono (by rintro e w2 ⟨rfl, m, rfl⟩; exact ⟨rfl, Adds.drewN _ _⟩)) ?_; (· (intro w'; clear hK; go_simp)); go_simp; refine hK _ ?_; clear hK K))
  refine wpL_nil ?_
  intro w3 a3
  simp only [forL]
  have A3 := Lib.hid (Adds.trans A1.out (Adds.trans (Adds.drew _) a3))
  clear a3
  obtain ⟨c0, _⟩ := HC.out _ A3.out
  go_wp2_with (first
    | (go_at_call 94; refine (HDl.out _ A3.out).mono ?_; rintro e w4 ⟨rfl, ho, hg, hb⟩; have HQ := Lib.hid (HPu.out _ _ A3.out hg ho); have BX := Lib.hid (HBx.out _ _ A3.out hg); have c4 := BX.out.cell 4; have f4 := BX.out.free 4; have c5 := BX.out.cell 5; have f5 := BX.out.free 5; have HB := Lib.hid (Low.set (i := 4) (Low.grown (Low.mono A3.out HN.out) hg (Nat.le_trans HN.out A3.out.size) (fun g' hg' => by cases hg'; exact HRw.out _ A3.out)) BX.out HH.out.myT HH.out.hn (.slice (some ⟨g, 0, none⟩) k cap)); clear ho hg hb)
    | (go_at_call 42; refine (endedS_any HQ.out).mono ?_; rintro e w5 ⟨rfl, rfl⟩))
  (try simp only [Exit.inBlock, Exit.then]); refine bodyPost_ret (results_none rfl _ _ _) rfl ?_
  have hq := HQ.out.setRes u
  have HQ0 := Lib.hid HQ.out.bx
  rw [HRi.out] at hq
  have hk0 : k = 0 := HK.out.symm
  rw [hk0] at hq ⊢
  exact ⟨by simp, hq, by have hb := HB.out; have hq0 := HQ0.out; rw [hk0] at hb hq0; exact Low.set hb hq0 HH.out.myT HH.out.hn _⟩
set_option maxRecDepth 100000 in
set_option maxHeartbeats 4000000 in
theorem leaveS_on {y : Fr × Value} (h : TopO t n w b p fv g cap (R ++ [y]) ((f, pc, d, rs), rv) res) (hd : d = -1 ∨ 0 ≤ d ∧ d < y.1.2.2.2.length) (i0 i1 i2 i3 i4 : Int) (h1 : 0 ≤ i1 ∧ i1 < rs.length) :
    Calls Tryz.prog 79 #[.pointer (some ⟨b, 0, none⟩), insV (i0, i1, i2, i3, i4)] w fun e w' => e = .returned (.tuple #[]) ∧ PileO t n w' b p fv (.slice (some ⟨g, 0, none⟩) (R.length + 1) cap) (R ++ [putR d (rs.getD i1.toNat 0) y]) res ∧ Low n w w' := by
  obtain ⟨j, rfl⟩ : ∃ j : Nat, i1 = j := ⟨i1.toNat, by omega⟩
  rw [Int.toNat_natCast]
  have HN := Lib.hid h.low
  have HH := Lib.hid h
  have HG := Lib.hid (fun (W : World) (ha : Adds w W) => regS_any (h.adds ha) j (by have := h1.2; simp only; omega))
  have HT := Lib.hid (fun (W : World) (ha : Adds w W) => topS_any (h.adds ha))
  have HRw := Lib.hid (show ∀ W, Adds w W → n ≤ g ∧ ∃ u cur, BkS u W g cur ∧ pileT u from fun W ha => ⟨(World.ownsRow.lt (h.adds ha).lo.row g rfl).1, _, _, (ownB (h.adds ha).lo.row (g := g) rfl).choose_spec, .inr (.inr (.inl rfl))⟩)
  have hc := h.cells
  have HC := Lib.hid (fun (W : World) (ha : Adds w W) => And.intro (ha.cellAt hc.1.1) (ha.cellAt hc.2.2.2.1))
  have HDl := Lib.hid (fun (W : World) (ha : Adds w W) => deleteS_any (h.adds ha).lo)
  have HPu := Lib.hid (fun (W V : World) (ha : Adds w W) (hg : W.grownBy V (some g)) (ho : FrsO n V (.slice (some ⟨g, 0, none⟩) (R ++ [y]).length cap) (R ++ [y])) => PileO.push (h.adds ha) hg ho)
  have HBx := Lib.hid (fun (W V : World) (ha : Adds w W) (hg : W.grownBy V (some g)) => BkS.grown (h.adds ha).bx hg (own_neT (h.adds ha).lo.row (h.adds ha).bx (h.adds ha).tne.1))
  have hL : (R ++ [y]).length = R.length + 1 := by simp
  have HP := Lib.hid (fun (W : World) (hW : PileO t n W b p fv (.slice (some ⟨g, 0, none⟩) (R ++ [y]).length cap) (R ++ [y]) res) => putS_any (show TopO t n W b p fv g cap R y res by rw [hL] at hW; exact hW) d hd (rs.getD j 0))
  obtain ⟨u, hu⟩ : ∃ u, rs.getD j 0 = u := ⟨_, rfl⟩
  simp only [hu] at HG HP ⊢
  obtain ⟨ri, hri⟩ : ∃ ri, u.toNat = ri := ⟨_, rfl⟩
  have HRi := Lib.hid hri
  simp only [hri] at HG HP 
  obtain ⟨w1, hw1⟩ : ∃ w1, w.alloc (.cells #[.int .i64 i0, .int .i64 (j : Int), .int .i64 i2, .int .i64 i3, .int .u32 i4] 56) = w1 := ⟨_, rfl⟩
  have A1 := Lib.hid (show Adds w w1 by rw [← hw1]; exact Adds.new _ _)
  have HI := Lib.hid (fun (W : World) (ha : Adds w1 W) => insCell hw1 ha)
  obtain ⟨k, hk⟩ : ∃ k, (R ++ [y]).length = k := ⟨_, rfl⟩
  have HK := Lib.hid hk
  have hwr : wrap64 (k : Int) = (k : Int) := by have h3 := hc.1.2.1; have h4 := hc.1.2.2; rw [hk] at h3; unfold maxLen at h4; unfold wrap64; omega
  have hwr2 : wrap64 ((k : Int) + 1) = (k : Int) + 1 := by have h3 := hc.1.2.1; have h4 := hc.1.2.2; rw [hk] at h3; unfold maxLen at h4; unfold wrap64; omega
  simp only [hk] at HT HC HDl HPu HP
  clear h h1 hc hk hu hri
  unfold insV insC
  go_enter Tryz.func79, Tryz.ntmps79
  go_wp2_with fail
  refine wp_region_loose [] (fun _ _ _ => True) Adds (by kernel_rfl) (by kernel_rfl) (by simp) Adds.refl (fun _ _ _ h k => Adds.trans h k) (fun _ _ _ _ _ _ => trivial) ?_
  repeat (refine wpL_step (fun K hK => ?_); first
    | (refine stepL_ex rfl rfl rfl Adds.refl (fun w' hw' => rfl) ?_; go_simp; refine hK _ ?_; clear hK K)
    | (refine stepL_ex (v := .int .i64 (j : Int)) rfl rfl rfl Adds.refl ?_ ?_; (· (intro w' hw'; clear hK; obtain ⟨q0, q1, q2, q3, q4⟩ := HI.out _ (Adds.trans (Adds.drew _) hw'); go_simp)); go_simp; refine hK _ ?_; clear hK K)
    | (refine stepL_ex (v := .int .i64 d) rfl rfl rfl Adds.refl ?_ ?_; (· (intro w' hw'; clear hK; obtain ⟨c0, c1⟩ := HC.out _ (Adds.trans A1.out (Adds.trans (Adds.drew _) hw')); go_simp)); go_simp; refine hK _ ?_; clear hK K)
    | (refine stepL_call (v := .int .u32 (ri : Int)) (f := 46) (args := #[.pointer (some ⟨b, 0, none⟩), .int .i64 (j : Int)]) rfl rfl rfl ?_ (fun w' hw' => (HG.out w' (Adds.trans A1.out (Adds.trans (Adds.drew _) hw'))).mono (by rintro e w2 ⟨rfl, m, rfl⟩; exact ⟨rfl, Adds.drewN _ _⟩)) ?_; (· (intro w'; clear hK; go_simp)); go_simp; refine hK _ ?_; clear hK K)
    | (refine stepL_call (v := .pointer (some ⟨g, k * 4, none⟩)) (f := 61) (args := #[.pointer (some ⟨b, 0, none⟩)]) rfl rfl rfl ?_ (fun w' hw' => (HT.out w' (Adds.trans A1.out (Adds.trans (Adds.drew _) hw'))).mono (by rintro e w2 ⟨rfl, m, rfl⟩; exact ⟨rfl, Adds.drewN _ _⟩)) ?_; (· (intro w'; clear hK; go_simp)); go_simp; refine hK _ ?_; clear hK K))
  refine wpL_nil ?_
  intro w3 a3
  simp only [forL]
  have A3 := Lib.hid (Adds.trans A1.out (Adds.trans (Adds.drew _) a3))
  clear a3
  obtain ⟨c0, _⟩ := HC.out _ A3.out
  go_wp2_with (first
    | (go_at_call 94; refine (HDl.out _ A3.out).mono ?_; rintro e w4 ⟨rfl, ho, hg, hb⟩; have HQ := Lib.hid (HPu.out _ _ A3.out hg ho); have BX := Lib.hid (HBx.out _ _ A3.out hg); have c4 := BX.out.cell 4; have f4 := BX.out.free 4; have c5 := BX.out.cell 5; have f5 := BX.out.free 5; have HB := Lib.hid (Low.set (i := 4) (Low.grown (Low.mono A3.out HN.out) hg (Nat.le_trans HN.out A3.out.size) (fun g' hg' => by cases hg'; exact HRw.out _ A3.out)) BX.out HH.out.myT HH.out.hn (.slice (some ⟨g, 0, none⟩) k cap)); clear ho hg hb)
    | (go_at_call 42; refine (endedS_any HQ.out).mono ?_; rintro e w5 ⟨rfl, rfl⟩)
    | (go_at_call 55; refine (HP.out _ HQ.out).mono ?_; rintro e w6 ⟨rfl, hp, hb⟩; have HQ2 := Lib.hid hp; have HB2 := Lib.hid (Low.trans HB.out hb); clear hp hb))
  go_end0
  exact ⟨by simp, HQ2.out, HB2.out⟩
end
end Go.Proofs.YtdkgehhlikaocaaGreat
namespace Go.Proofs.YtdkgehhlikaocaaGreat
open Go Go.RowKit Go.Shelf

section
variable {t : TypeId} {n b g cap : Nat} {w : World} {p : Pg} {fv lv : Value} {R : List (Fr × Value)} {f pc : Nat} {d : Int} {rs : List UInt32} {rv : Value} {res : UInt32}
theorem regs_words {q c : Nat} {W : World} (hr : RegO n W (.slice (some ⟨q, 0, none⟩) rs.length c) rs) {j l : Nat} (h2 : j + l ≤ rs.length) (hc : rs.length ≤ c) (hm : c ≤ maxLen) {A : Option Addr} (hA : A = if l = 0 then some ⟨q, 0, none⟩ else some ⟨q, j, none⟩) : Cells32 W.heap.size W (.slice A l l) ((rs.drop j).take l) := by
  have hl : ((rs.drop j).take l).length = l := by simp; omega
  refine ⟨A, l, by rw [hl], by omega, by omega, fun hne => ?_⟩
  have hl0 : l ≠ 0 := by rintro rfl; simp at hne
  rw [if_neg hl0] at hA
  refine ⟨q, j, hA, (World.ownsRow.lt hr q rfl).2, fun i hi => ?_⟩
  rw [hl] at hi
  rw [hr.cell (show j + i < rs.length by omega)]
  congr 2
  simp [List.getD_eq_getElem?_getD, List.getElem?_drop, hi]
set_option maxRecDepth 100000 in
set_option maxHeartbeats 1000000 in
theorem behindT_any (h : TopO t n w b p fv g cap R ((f, pc, d, rs), rv) res) (hpc : pc < 9223372036854775807) : Calls Tryz.prog 56 #[.pointer (some ⟨b, 0, none⟩)] w fun e w' => e = .returned (.tuple #[]) ∧ TopO t n w' b p fv g cap R ((f, pc + 1, d, rs), rv) res ∧ Low n w w' ∧ TnS g w w' := by
  have HT := Lib.hid (topS_any h)
  have hc := h.cells
  have hng := (World.ownsRow.lt h.lo.row g rfl).1
  have HC := Lib.hid (fun (m : Nat) => And.intro ((Adds.drewN w m).cellAt hc.2.2.1) (show (w.drewN m).frozen? ⟨g, R.length * 4 + 1, none⟩ = false from hc.2.2.2.2.2 _))
  obtain ⟨curq, hgq⟩ := ownB h.lo.row (g := g) rfl
  have HP := Lib.hid (fun (m : Nat) => And.intro (PileO.setPc (h.adds (Adds.drewN w m)) (pc + 1)) (show Low n w ((w.drewN m).setCell ⟨g, R.length * 4 + 1, none⟩ (.int .i64 ((pc + 1 : Nat) : Int))) ∧ TnS g w ((w.drewN m).setCell ⟨g, R.length * 4 + 1, none⟩ (.int .i64 ((pc + 1 : Nat) : Int))) from ⟨(Low.mono (Adds.drewN w m) h.low).set (hgq.adds (Adds.drewN w m)) (.inr (.inr (.inl rfl))) hng _, (TnS.of_adds g (Adds.drewN w m)).trans (TnS.setCell _ _ _ _)⟩))
  clear hgq
  obtain ⟨k, hk⟩ : ∃ k, R.length = k := ⟨_, rfl⟩
  have HK := Lib.hid hk
  simp only [hk] at HT HC HP
  have hpI : (pc : Int) < 9223372036854775807 := by omega
  clear h hc hng hpc hk
  go_enter Tryz.func56, Tryz.ntmps56
  go_wp2_with (go_at_call 61; refine HT.out.mono ?_; rintro e w2 ⟨rfl, m, rfl⟩; obtain ⟨c0, f0⟩ := HC.out m; have HQ := Lib.hid (HP.out m))
  go_end0
  have e1 : ((pc : Int) + 1) = ((pc + 1 : Nat) : Int) := by omega
  rw [e1]
  have hq := HQ.out
  rw [← HK.out] at hq ⊢
  exact ⟨by simp, hq.1, hq.2⟩
set_option maxRecDepth 100000 in
set_option maxHeartbeats 4000000 in
theorem callS_any (h : TopO t n w b p fv g cap R ((f, pc, d, rs), rv) res) (hok : ∀ f ∈ p.1, ∀ i ∈ f.2, OkIn i) (hpc : pc < 9223372036854775807) (hR : R.length < 1000000) (i0 i1 i2 i3 : Int) (k : Nat) (hrs : rs ≠ []) (h2 : 0 ≤ i2 ∧ 0 ≤ i3 ∧ i2 + i3 ≤ rs.length) (hk : k < p.1.length) (hk2 : k < 4294967296) (r : Nat) (hr : (p.1.getD k zF).1 = (r : Int)) (hr2 : r ≤ 65536) (hl : i3 ≤ r) :
    Calls Tryz.prog 78 #[.pointer (some ⟨b, 0, none⟩), insV (i0, i1, i2, i3, (k : Int))] w fun e w' => e = .returned (.tuple #[]) ∧ (∃ lv' rv', PileO t n w' b p fv lv' ((R ++ [((f, pc + 1, d, rs), rv)]) ++ [((k, 0, i1, newR ((rs.drop i2.toNat).take i3.toNat) r), rv')]) res) ∧ Low n w w' := by
  obtain ⟨j, rfl⟩ : ∃ j : Nat, i2 = j := ⟨i2.toNat, by omega⟩
  obtain ⟨l, rfl⟩ : ∃ l : Nat, i3 = l := ⟨i3.toNat, by omega⟩
  rw [Int.toNat_natCast, Int.toNat_natCast]
  have HN := Lib.hid h.low
  have HT := Lib.hid (fun (W : World) (ha : Adds w W) => topS_any (h.adds ha))
  obtain ⟨q, c, hrv, _, hr3, hr4, _⟩ := h.reg.form hrs
  simp only at hrv hr3
  subst hrv
  have hc := h.cells
  simp only at hc
  have HC := Lib.hid (fun (W : World) (ha : Adds w W) => ha.cellAt hc.2.2.2.2.1)
  obtain ⟨A, hA⟩ : ∃ A : Option Addr, A = if l = 0 then some ⟨q, 0, none⟩ else some ⟨q, j, none⟩ := ⟨_, rfl⟩
  have hlen : ((rs.drop j).take l).length = l := by simp; omega
  have HB := Lib.hid (fun (W : World) (ha : Adds w W) => behindT_any (h.adds ha) hpc)
  have HE := Lib.hid (fun (W : World) (hW : TopO t n W b p fv g cap R ((f, pc + 1, d, rs), .slice (some ⟨q, 0, none⟩) rs.length c) res) => enterS_any hW hok k hk r hr hr2 i1 (.slice A l l) ((rs.drop j).take l) (regs_words hW.reg (by omega) hr3 hr4 hA) (by omega) (by simp; omega) hW.low)
  obtain ⟨w1, hw1⟩ : ∃ w1, w.alloc (.cells #[.int .i64 i0, .int .i64 i1, .int .i64 (j : Int), .int .i64 (l : Int), .int .u32 (k : Int)] 56) = w1 := ⟨_, rfl⟩
  have A1 := Lib.hid (show Adds w w1 by rw [← hw1]; exact Adds.new _ _)
  have HI := Lib.hid (fun (W : World) (ha : Adds w1 W) => insCell hw1 ha)
  have hgw := (World.ownsRow.lt h.lo.row g rfl).2
  have HIt := Lib.hid (show ∀ W V : World, Adds w1 W → TnS g W V → V.cell? ⟨w.heap.size, 0, none⟩ = some (.int .i64 i0) ∧ V.cell? ⟨w.heap.size, 1, none⟩ = some (.int .i64 i1) ∧ V.cell? ⟨w.heap.size, 2, none⟩ = some (.int .i64 (j : Int)) ∧ V.cell? ⟨w.heap.size, 3, none⟩ = some (.int .i64 (l : Int)) ∧ V.cell? ⟨w.heap.size, 4, none⟩ = some (.int .u32 (k : Int)) from fun W V ha ht => by
    have B := ((show BkS 56 w1 w.heap.size [.int .i64 i0, .int .i64 i1, .int .i64 (j : Int), .int .i64 (l : Int), .int .u32 (k : Int)] by rw [← hw1]; exact BkS.new _ _ _).adds ha).tn ht (by omega)
    exact ⟨B.cell 0, B.cell 1, B.cell 2, B.cell 3, B.cell 4⟩)
  have HWr := Lib.hid (show IntKind.i64.wrap (k : Int) = k by rw [IntKind.wrap_i64]; omega)
  obtain ⟨z, hz⟩ : ∃ z, R.length = z := ⟨_, rfl⟩
  obtain ⟨rl, hrl⟩ : ∃ rl, rs.length = rl := ⟨_, rfl⟩
  rw [hz] at HT HC
  rw [hrl] at HC hr3 h2
  unfold maxLen at hr4
  obtain ⟨s, hs⟩ : ∃ s, j + l = s := ⟨_, rfl⟩
  have HA := Lib.hid (show (if s = j then some ⟨q, 0, none⟩ else some ⟨q, j, none⟩ : Option Addr) = A by rw [hA]; simp only [show (s = j) = (l = 0) from propext ⟨fun _ => by omega, fun _ => by omega⟩])
  have HNum := Lib.hid (show (s : Int) ≤ c ∧ (c : Int) ≤ 9223372036854775807 ∧ wrap64 ((j : Int) + l) = (s : Int) ∧ s ≤ c ∧ j ≤ s ∧ IntKind.i64.wrap ((j : Int) + l) = (s : Int) ∧ s - j = l by rw [IntKind.wrap_i64]; unfold wrap64; omega)
  clear h hgw hok hpc hR h2 hk hk2 hr hr2 hl hc hA hlen hr3 hr4 hz hrl hrs
  unfold insV insC
  go_enter Tryz.func78, Tryz.ntmps78
  go_wp2_with fail
  refine wp_region_loose [] (fun _ _ _ => True) Adds (by kernel_rfl) (by kernel_rfl) (by simp) Adds.refl (fun _ _ _ h k => Adds.trans h k) (fun _ _ _ _ _ _ => trivial) ?_
  repeat (refine wpL_step (fun K hK => ?_); first
    | (refine stepL_ex (v := .int .i64 (s : Int)) rfl rfl rfl Adds.refl ?_ ?_; (· (intro w' hw'; clear hK; have hwr := HNum.out.2.2.1; have hwr2 := HNum.out.2.2.2.2.2.1; go_simp)); go_simp; refine hK _ ?_; clear hK K)
    | (refine stepL_ex (v := .slice A l l) rfl rfl rfl Adds.refl ?_ ?_; (· (intro w' hw'; clear hK; obtain ⟨m1, m2, m3, m4, m5, m6, m7⟩ := HNum.out; have hA := HA.out; go_simp)); go_simp; refine hK _ ?_; clear hK K)
    | (refine stepL_ex rfl rfl rfl Adds.refl (fun w' hw' => rfl) ?_; go_simp; refine hK _ ?_; clear hK K)
    | (refine stepL_ex (v := .slice (some ⟨q, 0, none⟩) rl c) rfl rfl rfl Adds.refl ?_ ?_; (· (intro w' hw'; clear hK; have c0 := HC.out _ (Adds.trans A1.out (Adds.trans (Adds.drew _) hw')); go_simp)); go_simp; refine hK _ ?_; clear hK K)
    | (refine stepL_ex (v := .int .i64 (j : Int)) rfl rfl rfl Adds.refl ?_ ?_; (· (intro w' hw'; clear hK; obtain ⟨q0, q1, q2, q3, q4⟩ := HI.out _ (Adds.trans (Adds.drew _) hw'); go_simp)); go_simp; refine hK _ ?_; clear hK K)
    | (refine stepL_ex (v := .int .i64 (l : Int)) rfl rfl rfl Adds.refl ?_ ?_; (· (intro w' hw'; clear hK; obtain ⟨q0, q1, q2, q3, q4⟩ := HI.out _ (Adds.trans (Adds.drew _) hw'); go_simp)); go_simp; refine hK _ ?_; clear hK K)
    | (refine stepL_call (v := .pointer (some ⟨g, z * 4, none⟩)) (f := 61) (args := #[.pointer (some ⟨b, 0, none⟩)]) rfl rfl rfl ?_ (fun w' hw' => (HT.out w' (Adds.trans A1.out (Adds.trans (Adds.drew _) hw'))).mono (by rintro e w2 ⟨rfl, m, rfl⟩; exact ⟨rfl, Adds.drewN _ _⟩)) ?_; (· (intro w'; clear hK; go_simp)); go_simp; refine hK _ ?_; clear hK K))
  refine wpL_nil ?_
  intro w3 a3
  simp only [forL]
  have A3 := Lib.hid (Adds.trans A1.out (Adds.trans (Adds.drew _) a3))
  have A13 := Lib.hid (Adds.trans (Adds.drew _) a3)
  clear a3
  have hwk := HWr.out
  go_wp2_with (first
    | (go_at_call 56; refine (HB.out _ A3.out).mono ?_; rintro e w4 ⟨rfl, hp, hb, ht⟩; have HQ := Lib.hid hp; have HB4 := Lib.hid (Low.trans (Low.mono A3.out HN.out) hb); obtain ⟨q0, q1, q2, q3, q4⟩ := HIt.out _ _ A13.out ht; clear hp hb ht)
    | (go_at_call 49; refine (HE.out _ HQ.out).mono ?_; rintro e w5 ⟨rfl, hp, hb⟩; have HQ5 := Lib.hid hp; have HB5 := Lib.hid (Low.trans HB4.out hb); clear hp hb))
  go_end0
  exact ⟨by simp, HQ5.out, HB5.out⟩
end
end Go.Proofs.YtdkgehhlikaocaaGreat
namespace Go.Proofs.YtdkgehhlikaocaaGreat
open Go Go.RowKit

structure Fine (p : Pg) : Prop where
  n0 : 1 ≤ p.1.length ∧ p.1.length ≤ 32
  n1 : 0 ≤ p.2.1 ∧ p.2.1 ≤ 64
  n2 : 0 ≤ p.2.2.1 ∧ p.2.2.1 ≤ 64
  n3 : 0 ≤ p.2.2.2 ∧ p.2.2.2 ≤ 64
  fs : ∀ f ∈ p.1, (1 ≤ f.1 ∧ f.1 ≤ 16) ∧ (1 ≤ f.2.length ∧ f.2.length ≤ 512) ∧ ∀ x ∈ f.2, mayI x = true
theorem fine_of {p : Pg} (h : checkP p = 0) : Fine p := by
  unfold checkP at h
  split at h
  · rename_i hc
    rw [Bool.and_eq_true] at hc
    obtain ⟨hn, hw⟩ := hc
    unfold wrongP at hw
    rw [if_pos hn, Option.isNone_iff_eq_none, List.find?_eq_none] at hw
    unfold numsP sharedB at hn
    simp only [Bool.and_eq_true, List.all_eq_true, inB, decide_eq_true_eq, List.mem_cons, List.not_mem_nil, or_false, forall_eq_or_imp, forall_eq] at hn
    obtain ⟨h0, ⟨h1, h2, h3⟩, h4⟩ := hn
    refine ⟨by omega, by omega, by omega, by omega, fun f hf => ?_⟩
    have h5 := h4 f hf
    unfold numsF at h5
    simp only [Bool.and_eq_true, inB, decide_eq_true_eq] at h5
    refine ⟨by omega, by omega, fun x hx => ?_⟩
    obtain ⟨i, hi, rfl⟩ := List.mem_iff_getElem.1 hf
    obtain ⟨k, hk, rfl⟩ := List.mem_iff_getElem.1 hx
    have hg : p.1.getD i zF = p.1[i] := by rw [List.getD_eq_getElem?_getD, List.getElem?_eq_getElem hi]; rfl
    have hm : (i, k) ∈ plL p.1 p.1.length := by
      unfold plL rowP
      rw [List.mem_flatMap]
      refine ⟨i, List.mem_range.2 hi, ?_⟩
      rw [List.mem_map]
      exact ⟨k, List.mem_range.2 (by rw [hg]; exact hk), rfl⟩
    have hb := hw _ hm
    unfold badX fineB at hb
    simp only [hg] at hb
    have hgk : (p.1[i]).2.getD k zI = (p.1[i]).2[k] := by rw [List.getD_eq_getElem?_getD, List.getElem?_eq_getElem hk]; rfl
    rw [hgk] at hb
    simp only [Bool.not_eq_true, Bool.not_eq_false', Bool.and_eq_true] at hb
    exact hb.1
  · cases h

theorem fineAt {p : Pg} (h : checkP p = 0) {f pc : Nat} (hf : f < p.1.length) (hpc : pc < (p.1.getD f zF).2.length) : fineB p.1 (p.1.getD f zF) pc ((p.1.getD f zF).2.getD pc zI) = true := by
  unfold checkP at h
  split at h
  · rename_i hc
    rw [Bool.and_eq_true] at hc
    obtain ⟨hn, hw⟩ := hc
    unfold wrongP at hw
    rw [if_pos hn, Option.isNone_iff_eq_none, List.find?_eq_none] at hw
    have hm : (f, pc) ∈ plL p.1 p.1.length := by
      unfold plL rowP
      rw [List.mem_flatMap]
      refine ⟨f, List.mem_range.2 hf, ?_⟩
      rw [List.mem_map]
      exact ⟨pc, List.mem_range.2 hpc, rfl⟩
    have hb := hw _ hm
    unfold badX at hb
    simpa using hb
  · cases h
/-- What an Op's registers are, and its number. -/
structure OpF (x : In) (r : Int) : Prop where
  o1 : x.1 = 1 → 0 ≤ x.2.1 ∧ x.2.1 < r
  o2 : x.1 = 2 → (0 ≤ x.2.1 ∧ x.2.1 < r) ∧ 0 ≤ x.2.2.1 ∧ x.2.2.1 < r
  o3 : x.1 = 3 → (0 ≤ x.2.1 ∧ x.2.1 < r) ∧ (0 ≤ x.2.2.1 ∧ x.2.2.1 < r) ∧ (0 ≤ x.2.2.2.1 ∧ x.2.2.2.1 < r) ∧ 1 ≤ x.2.2.2.2 ∧ x.2.2.2.2 ≤ 12
  o5 : x.1 = 5 → 0 ≤ x.2.1 ∧ x.2.1 < r
  o8 : x.1 = 8 → (0 ≤ x.2.1 ∧ x.2.1 < r) ∧ 0 ≤ x.2.2.1 ∧ 0 ≤ x.2.2.2.1 ∧ x.2.2.1 + x.2.2.2.1 ≤ r
  o9 : x.1 = 9 → 0 ≤ x.2.1 ∧ x.2.1 < r
  op : 1 ≤ x.1 ∧ x.1 ≤ 19
  im : 0 ≤ x.2.2.2.2 ∧ x.2.2.2.2 < 4294967296
theorem op_facts {x : In} (h : mayI x = true) {r : Int} (hr : regsI x ≤ r) : OpF x r := by
  unfold regsI at hr
  rw [if_pos h] at hr
  unfold mayI at h
  rw [Bool.and_eq_true, decide_eq_true_eq] at h
  obtain ⟨⟨h1, h2⟩, hl⟩ := h
  obtain ⟨o, a, b, c, i⟩ := x
  simp only at h1 h2 hl hr ⊢
  obtain ⟨k, rfl⟩ : ∃ k : Nat, o = k := ⟨o.toNat, by omega⟩
  have hk1 : 1 ≤ k := by omega
  have hk2 : k ≤ 19 := by omega
  simp only [Int.toNat_natCast] at hl hr
  clear h1 h2
  match k, hk1, hk2 with
  | 1, _, _ | 2, _, _ | 3, _, _ | 4, _, _ | 5, _, _ | 6, _, _ | 7, _, _ | 8, _, _ | 9, _, _ | 10, _, _ | 11, _, _ | 12, _, _ | 13, _, _ | 14, _, _ | 15, _, _ | 16, _, _ | 17, _, _ | 18, _, _ | 19, _, _ =>
    simp [holdsL, partsN, holdsP, bare, putP, getP, loN, hiN] at hl
    simp [regP, partsN, getP, maxI] at hr
    constructor <;> (try simp) <;> (try intros) <;> (repeat' split at hr) <;> (try omega)
  | k + 20, _, h => exact absurd h (by omega)
end Go.Proofs.YtdkgehhlikaocaaGreat
namespace Go.Proofs.YtdkgehhlikaocaaGreat
open Go Go.RowKit Go.Shelf

/-- A pile whose frames, without where they lie, are these. -/
def PileP (t : TypeId) (n : Nat) (w : World) (b : Nat) (p : Pg) (L : List Fr) (res : UInt32) : Prop := ∃ fv lv R, PileO t n w b p fv lv R res ∧ R.map Prod.fst = L
def putW (d : Int) (u : UInt32) (x : Fr) : Fr := if d = -1 then x else (x.1, x.2.1, x.2.2.1, x.2.2.2.set d.toNat u)
theorem putR_fst (d : Int) (u : UInt32) (x : Fr × Value) : (putR d u x).1 = putW d u x.1 := by unfold putR putW; split <;> rfl
/-- What a local operation leaves: frames, the result, an error. -/
def deedP (p : Pg) (L : List Fr) (x : Fr) (i : In) (res : UInt32) : List Fr × UInt32 × Int :=
  if i.1 = 1 then (L ++ [(x.1, x.2.1 + 1, x.2.2.1, x.2.2.2.set i.2.1.toNat (UInt32.ofNat i.2.2.2.2.toNat))], res, 0)
  else if i.1 = 2 then (L ++ [(x.1, x.2.1 + 1, x.2.2.1, x.2.2.2.set i.2.1.toNat (x.2.2.2.getD i.2.2.1.toNat 0))], res, 0)
  else if i.1 = 3 then (if (doX i.2.2.2.2 (x.2.2.2.getD i.2.2.1.toNat 0).toNat (x.2.2.2.getD i.2.2.2.1.toNat 0).toNat).2 = 0 then (L ++ [(x.1, x.2.1 + 1, x.2.2.1, x.2.2.2.set i.2.1.toNat (UInt32.ofNat (doX i.2.2.2.2 (x.2.2.2.getD i.2.2.1.toNat 0).toNat (x.2.2.2.getD i.2.2.2.1.toNat 0).toNat).1))], res, 0)
    else (L ++ [x], res, (doX i.2.2.2.2 (x.2.2.2.getD i.2.2.1.toNat 0).toNat (x.2.2.2.getD i.2.2.2.1.toNat 0).toNat).2))
  else if i.1 = 4 then (L ++ [(x.1, i.2.2.2.2.toNat, x.2.2.1, x.2.2.2)], res, 0)
  else if i.1 = 5 then (L ++ [(x.1, if x.2.2.2.getD i.2.1.toNat 0 = 0 then x.2.1 + 1 else i.2.2.2.2.toNat, x.2.2.1, x.2.2.2)], res, 0)
  else if i.1 = 8 then ((L ++ [(x.1, x.2.1 + 1, x.2.2.1, x.2.2.2)]) ++ [(i.2.2.2.2.toNat, 0, i.2.1, newR ((x.2.2.2.drop i.2.2.1.toNat).take i.2.2.2.1.toNat) (p.1.getD i.2.2.2.2.toNat zF).1.toNat)], res, 0)
  else if i.1 = 9 then (match L.getLast? with
    | none => ([], x.2.2.2.getD i.2.1.toNat 0, 0)
    | some y => (L.dropLast ++ [putW x.2.2.1 (x.2.2.2.getD i.2.1.toNat 0) y], res, 0))
  else (L ++ [(x.1, x.2.1 + 1, x.2.2.1, x.2.2.2)], res, 0)
/-- What of the program and the frames an operation under way is told of. -/
structure DeedOk (p : Pg) (L : List Fr) (x : Fr) (i : In) : Prop where
  ok : ∀ f ∈ p.1, ∀ i ∈ f.2, OkIn i
  op : OpF i x.2.2.2.length
  rs : x.2.2.2 ≠ []
  pc : x.2.1 < 9223372036854775807
  deep : L.length < 1000000
  call : i.1 = 8 → i.2.2.2.2.toNat < p.1.length ∧ 0 ≤ (p.1.getD i.2.2.2.2.toNat zF).1 ∧ (p.1.getD i.2.2.2.2.toNat zF).1 ≤ 65536 ∧ i.2.2.2.1 ≤ (p.1.getD i.2.2.2.2.toNat zF).1
  dest : ∀ y, L.getLast? = some y → x.2.2.1 = -1 ∨ 0 ≤ x.2.2.1 ∧ x.2.2.1 < y.2.2.2.length
  loc : localB i.1 = true
section
variable {t : TypeId} {n b g cap : Nat} {w : World} {p : Pg} {fv lv : Value} {R : List (Fr × Value)} {x : Fr} {rv : Value} {res : UInt32}
def DeedE (t : TypeId) (n : Nat) (w : World) (b : Nat) (p : Pg) (q : List Fr × UInt32 × Int) (e : Ending) (w' : World) : Prop :=
  (q.2.2 = 0 → e = .returned (.tuple #[]) ∧ PileP t n w' b p q.1 q.2.1 ∧ Low n w w') ∧ (q.2.2 ≠ 0 → e = .panicked [{ v := refuV q.2.2, recovered := false }] ∧ Adds w w')
theorem DeedE.done {q : List Fr × UInt32 × Int} {e : Ending} {w' : World} (hq : q.2.2 = 0) (h : e = .returned (.tuple #[]) ∧ PileP t n w' b p q.1 q.2.1 ∧ Low n w w') : DeedE t n w b p q e w' := ⟨fun _ => h, fun h0 => absurd hq h0⟩
theorem deed_any (h : TopO t n w b p fv g cap R (x, rv) res) (i : In) (hD : DeedOk p (R.map Prod.fst) x i) :
    Calls Tryz.prog (deedF i.1.toNat) #[.pointer (some ⟨b, 0, none⟩), insV i] w (DeedE t n w b p (deedP p (R.map Prod.fst) x i res)) := by
  obtain ⟨f, pc, d, rs⟩ := x
  obtain ⟨i0, i1, i2, i3, i4⟩ := i
  obtain ⟨hok, hop, hrs, hpc, hdeep, hcall, hdest, hloc⟩ := hD
  simp only at hop hrs hpc hcall hdest hloc ⊢
  have him := hop.im
  simp only at him
  obtain ⟨k, rfl⟩ : ∃ k : Nat, i4 = k := ⟨i4.toNat, by omega⟩
  have hk : k < 4294967296 := by omega
  have hu : ((UInt32.ofNat k).toNat : Nat) = k := by rw [UInt32.toNat_ofNat']; omega
  unfold localB at hloc
  simp only [List.mem_cons, List.not_mem_nil, or_false, decide_eq_true_eq] at hloc
  have one : ∀ {W' : World} {y : Fr} {g' cap' : Nat} {rv' : Value}, TopO t n W' b p fv g' cap' R (y, rv') res → PileP t n W' b p (R.map Prod.fst ++ [y]) res := fun hT => ⟨_, _, _, hT, by simp⟩
  rcases hloc with rfl | rfl | rfl | rfl | rfl | rfl | rfl | rfl
  · have o := hop.o1 rfl
    simp only at o
    have hC := constantS_any h hpc 1 i1 i2 i3 o (UInt32.ofNat k)
    rw [hu] at hC
    refine hC.mono ?_
    rintro e w' ⟨rfl, hT, hb⟩
    exact DeedE.done (by simp [deedP]) ⟨rfl, by simpa [deedP] using one hT, hb⟩
  · have o := hop.o2 rfl
    simp only at o
    refine (moveS_any h hpc 2 i1 i2 i3 k o.1 o.2).mono ?_
    rintro e w' ⟨rfl, hT, hb⟩
    exact DeedE.done (by simp [deedP]) ⟨rfl, by simpa [deedP] using one hT, hb⟩
  · have o := hop.o3 rfl
    simp only at o
    refine (reckonS_any h hpc 3 i1 i2 i3 k (by omega) o.1 o.2.1 o.2.2.1 _ rfl).mono ?_
    rintro e w' ⟨hy, hn⟩
    by_cases h0 : (doX (k : Int) (rs.getD i2.toNat 0).toNat (rs.getD i3.toNat 0).toNat).2 = 0
    · obtain ⟨he, hT, hb⟩ := hy h0
      have e1 : deedP p (R.map Prod.fst) (f, pc, d, rs) (3, i1, i2, i3, (k : Int)) res = (R.map Prod.fst ++ [(f, pc + 1, d, rs.set i1.toNat (UInt32.ofNat (doX k (rs.getD i2.toNat 0).toNat (rs.getD i3.toNat 0).toNat).1))], res, 0) := by
        unfold deedP
        simp only
        rw [if_neg (by decide), if_neg (by decide), if_pos trivial, if_pos h0]
      rw [e1]
      exact DeedE.done rfl ⟨he, one hT, hb⟩
    · have e1 : deedP p (R.map Prod.fst) (f, pc, d, rs) (3, i1, i2, i3, (k : Int)) res = (R.map Prod.fst ++ [(f, pc, d, rs)], res, (doX k (rs.getD i2.toNat 0).toNat (rs.getD i3.toNat 0).toNat).2) := by
        unfold deedP
        simp only
        rw [if_neg (by decide), if_neg (by decide), if_pos trivial, if_neg h0]
      rw [e1]
      exact ⟨fun h => absurd h h0, fun _ => hn h0⟩
  · refine (jumpS_any h 4 i1 i2 i3 k hk).mono ?_
    rintro e w' ⟨rfl, hT, hb⟩
    exact DeedE.done (by simp [deedP]) ⟨rfl, by simpa [deedP] using one hT, hb⟩
  · have o := hop.o5 rfl
    simp only at o
    refine (branchS_any h hpc 5 i1 i2 i3 k hk o).mono ?_
    rintro e w' ⟨rfl, hT, hb⟩
    exact DeedE.done (by simp [deedP]) ⟨rfl, by simpa [deedP] using one hT, hb⟩
  · have o := hop.o8 rfl
    simp only at o
    obtain ⟨c1, c2, c3, c4⟩ := hcall rfl
    simp only [Int.toNat_natCast] at c1 c2 c3 c4
    obtain ⟨r, hr⟩ : ∃ r : Nat, (p.1.getD k zF).1 = r := ⟨(p.1.getD k zF).1.toNat, by omega⟩
    rw [hr] at c2 c3 c4
    refine (callS_any h hok hpc (by simpa using hdeep) 8 i1 i2 i3 k hrs ⟨o.2.1, o.2.2.1, o.2.2.2⟩ c1 hk r hr (by omega) c4).mono ?_
    rintro e w' ⟨rfl, ⟨lv', rv', hT⟩, hb⟩
    have e1 : deedP p (R.map Prod.fst) (f, pc, d, rs) (8, i1, i2, i3, (k : Int)) res = ((R.map Prod.fst ++ [(f, pc + 1, d, rs)]) ++ [(k, 0, i1, newR ((rs.drop i2.toNat).take i3.toNat) r)], res, 0) := by
      unfold deedP
      simp only [Int.toNat_natCast, hr]
      rfl
    rw [e1]
    exact DeedE.done rfl ⟨rfl, ⟨_, _, _, hT, by simp⟩, hb⟩
  · have o := hop.o9 rfl
    simp only at o
    rcases List.eq_nil_or_concat R with rfl | ⟨R', y, rfl⟩
    · refine (leaveS_end h 9 i1 i2 i3 k o).mono ?_
      rintro e w' ⟨rfl, hT, hb⟩
      exact DeedE.done (by simp [deedP]) ⟨rfl, ⟨_, _, _, by simpa [deedP] using hT, by simp [deedP]⟩, hb⟩
    · rw [List.concat_eq_append] at h hdest ⊢
      refine (leaveS_on h (hdest y.1 (by simp)) 9 i1 i2 i3 k o).mono ?_
      rintro e w' ⟨rfl, hT, hb⟩
      have e1 : deedP p ((R' ++ [y]).map Prod.fst) (f, pc, d, rs) (9, i1, i2, i3, (k : Int)) res = (R'.map Prod.fst ++ [putW d (rs.getD i1.toNat 0) y.1], res, 0) := by
        unfold deedP
        simp
      rw [e1]
      exact DeedE.done rfl ⟨rfl, ⟨_, _, _, hT, by simp [putR_fst]⟩, hb⟩
  · refine (yieldS_any h hpc 19 i1 i2 i3 k).mono ?_
    rintro e w' ⟨rfl, hT, hb⟩
    exact DeedE.done (by simp [deedP]) ⟨rfl, by simpa [deedP] using one hT, hb⟩
theorem enter_deed (k : Nat) (hk : k ∈ ([1, 2, 3, 4, 5, 8, 9, 19] : List Nat)) (u v : Value) (w : World) : (callFunc (deedF k) #[u, v]).run Tryz.prog w = .ok (.enter (deedF k) #[u, v]) w := by
  simp only [List.mem_cons, List.not_mem_nil, or_false] at hk
  rcases hk with rfl | rfl | rfl | rfl | rfl | rfl | rfl | rfl
  · exact enters_of Tryz.func73 (by kernel_rfl) rfl _ _
  · exact enters_of Tryz.func74 (by kernel_rfl) rfl _ _
  · exact enters_of Tryz.func75 (by kernel_rfl) rfl _ _
  · exact enters_of Tryz.func76 (by kernel_rfl) rfl _ _
  · exact enters_of Tryz.func77 (by kernel_rfl) rfl _ _
  · exact enters_of Tryz.func78 (by kernel_rfl) rfl _ _
  · exact enters_of Tryz.func79 (by kernel_rfl) rfl _ _
  · exact enters_of Tryz.func80 (by kernel_rfl) rfl _ _
end
end Go.Proofs.YtdkgehhlikaocaaGreat
