/- Merged: Z11. -/
import Derived.Test.YthhegcngkpfcoaaGreatY36
namespace Go.Proofs.YthhegcngkpfcoaaGreat
open Go Go.RowKit Go.Shelf

section
variable {t : TypeId} {n b g cap : Nat} {w : World} {p : Pg} {fv lv : Value} {R : List (Fr × Value)} {f pc : Nat} {d : Int} {rs : List UInt32} {rv : Value} {res : UInt32}
theorem regs_words {q c : Nat} {W : World} (hr : RegO n W (.slice (some ⟨q, 0, none⟩) rs.length c) rs) {j l : Nat} (h2 : j + l ≤ rs.length) (hc : rs.length ≤ c) (hm : c ≤ maxLen) {A : Option Addr} (hA : A = if l = 0 then some ⟨q, 0, none⟩ else some ⟨q, j, none⟩) : Cells32 W.heap.size W (.slice A l l) ((rs.drop j).take l) := by
  have hl : ((rs.drop j).take l).length = l := by simp; omega
  refine ⟨A, l, by rw [hl], by omega, by omega, fun hne => ?_⟩
  have hl0 : l ≠ 0 := by rintro rfl; simp at hne
  rw [if_neg hl0] at hA
  refine ⟨q, j, hA, (World.ownsRow.lt hr q rfl).2, fun i hi => ?_⟩
  rw [hl] at hi
  rw [hr.cell (show j + i < rs.length by omega)]
  congr 2
  simp [List.getD_eq_getElem?_getD, List.getElem?_drop, hi]
set_option maxRecDepth 100000 in
set_option maxHeartbeats 1000000 in
theorem behindT_any (h : TopO t n w b p fv g cap R ((f, pc, d, rs), rv) res) (hpc : pc < 9223372036854775807) : Calls Tryz.prog 61 #[.pointer (some ⟨b, 0, none⟩)] w fun e w' => e = .returned (.tuple #[]) ∧ TopO t n w' b p fv g cap R ((f, pc + 1, d, rs), rv) res ∧ Low n w w' ∧ TnS g w w' := by
  have HT := Lib.hid (topS_any h)
  have hc := h.cells
  have hng := (World.ownsRow.lt h.lo.row g rfl).1
  have HC := Lib.hid (fun (m : Nat) => And.intro ((Adds.drewN w m).cellAt hc.2.2.1) (show (w.drewN m).frozen? ⟨g, R.length * 4 + 1, none⟩ = false from hc.2.2.2.2.2 _))
  obtain ⟨curq, hgq⟩ := ownB h.lo.row (g := g) rfl
  have HP := Lib.hid (fun (m : Nat) => And.intro (PileO.setPc (h.adds (Adds.drewN w m)) (pc + 1)) (show Low n w ((w.drewN m).setCell ⟨g, R.length * 4 + 1, none⟩ (.int .i64 ((pc + 1 : Nat) : Int))) ∧ TnS g w ((w.drewN m).setCell ⟨g, R.length * 4 + 1, none⟩ (.int .i64 ((pc + 1 : Nat) : Int))) from ⟨(Low.mono (Adds.drewN w m) h.low).set (hgq.adds (Adds.drewN w m)) (.inr (.inr (.inl rfl))) hng _, (TnS.of_adds g (Adds.drewN w m)).trans (TnS.setCell _ _ _ _)⟩))
  clear hgq
  obtain ⟨k, hk⟩ : ∃ k, R.length = k := ⟨_, rfl⟩
  have HK := Lib.hid hk
  simp only [hk] at HT HC HP
  have hpI : (pc : Int) < 9223372036854775807 := by omega
  clear h hc hng hpc hk
  go_enter Tryz.func61, Tryz.ntmps61
  go_wp2_with (go_at_call 51; refine HT.out.mono ?_; rintro e w2 ⟨rfl, m, rfl⟩; obtain ⟨c0, f0⟩ := HC.out m; have HQ := Lib.hid (HP.out m))
  go_end0
  have e1 : ((pc : Int) + 1) = ((pc + 1 : Nat) : Int) := by omega
  rw [e1]
  have hq := HQ.out
  rw [← HK.out] at hq ⊢
  exact ⟨by simp, hq.1, hq.2⟩
set_option maxRecDepth 100000 in
set_option maxHeartbeats 4000000 in
theorem callS_any (h : TopO t n w b p fv g cap R ((f, pc, d, rs), rv) res) (hok : ∀ f ∈ p.1, ∀ i ∈ f.2, OkIn i) (hpc : pc < 9223372036854775807) (hR : R.length < 1000000) (i0 i1 i2 i3 : Int) (k : Nat) (hrs : rs ≠ []) (h2 : 0 ≤ i2 ∧ 0 ≤ i3 ∧ i2 + i3 ≤ rs.length) (hk : k < p.1.length) (hk2 : k < 4294967296) (r : Nat) (hr : (p.1.getD k zF).1 = (r : Int)) (hr2 : r ≤ 65536) (hl : i3 ≤ r) :
    Calls Tryz.prog 76 #[.pointer (some ⟨b, 0, none⟩), insV (i0, i1, i2, i3, (k : Int))] w fun e w' => e = .returned (.tuple #[]) ∧ (∃ lv' rv', PileO t n w' b p fv lv' ((R ++ [((f, pc + 1, d, rs), rv)]) ++ [((k, 0, i1, newR ((rs.drop i2.toNat).take i3.toNat) r), rv')]) res) ∧ Low n w w' := by
  obtain ⟨j, rfl⟩ : ∃ j : Nat, i2 = j := ⟨i2.toNat, by omega⟩
  obtain ⟨l, rfl⟩ : ∃ l : Nat, i3 = l := ⟨i3.toNat, by omega⟩
  rw [Int.toNat_natCast, Int.toNat_natCast]
  have HN := Lib.hid h.low
  have HT := Lib.hid (fun (W : World) (ha : Adds w W) => topS_any (h.adds ha))
  obtain ⟨q, c, hrv, _, hr3, hr4, _⟩ := h.reg.form hrs
  simp only at hrv hr3
  subst hrv
  have hc := h.cells
  simp only at hc
  have HC := Lib.hid (fun (W : World) (ha : Adds w W) => ha.cellAt hc.2.2.2.2.1)
  obtain ⟨A, hA⟩ : ∃ A : Option Addr, A = if l = 0 then some ⟨q, 0, none⟩ else some ⟨q, j, none⟩ := ⟨_, rfl⟩
  have hlen : ((rs.drop j).take l).length = l := by simp; omega
  have HB := Lib.hid (fun (W : World) (ha : Adds w W) => behindT_any (h.adds ha) hpc)
  have HE := Lib.hid (fun (W : World) (hW : TopO t n W b p fv g cap R ((f, pc + 1, d, rs), .slice (some ⟨q, 0, none⟩) rs.length c) res) => enterS_any hW hok k hk r hr hr2 i1 (.slice A l l) ((rs.drop j).take l) (regs_words hW.reg (by omega) hr3 hr4 hA) (by omega) (by simp; omega) hW.low)
  obtain ⟨w1, hw1⟩ : ∃ w1, w.alloc (.cells #[.int .i64 i0, .int .i64 i1, .int .i64 (j : Int), .int .i64 (l : Int), .int .u32 (k : Int)] 37) = w1 := ⟨_, rfl⟩
  have A1 := Lib.hid (show Adds w w1 by rw [← hw1]; exact Adds.new _ _)
  have HI := Lib.hid (fun (W : World) (ha : Adds w1 W) => insCell hw1 ha)
  have hgw := (World.ownsRow.lt h.lo.row g rfl).2
  have HIt := Lib.hid (show ∀ W V : World, Adds w1 W → TnS g W V → V.cell? ⟨w.heap.size, 0, none⟩ = some (.int .i64 i0) ∧ V.cell? ⟨w.heap.size, 1, none⟩ = some (.int .i64 i1) ∧ V.cell? ⟨w.heap.size, 2, none⟩ = some (.int .i64 (j : Int)) ∧ V.cell? ⟨w.heap.size, 3, none⟩ = some (.int .i64 (l : Int)) ∧ V.cell? ⟨w.heap.size, 4, none⟩ = some (.int .u32 (k : Int)) from fun W V ha ht => by
    have B := ((show BkS 37 w1 w.heap.size [.int .i64 i0, .int .i64 i1, .int .i64 (j : Int), .int .i64 (l : Int), .int .u32 (k : Int)] by rw [← hw1]; exact BkS.new _ _ _).adds ha).tn ht (by omega)
    exact ⟨B.cell 0, B.cell 1, B.cell 2, B.cell 3, B.cell 4⟩)
  have HWr := Lib.hid (show IntKind.i64.wrap (k : Int) = k by rw [IntKind.wrap_i64]; omega)
  obtain ⟨z, hz⟩ : ∃ z, R.length = z := ⟨_, rfl⟩
  obtain ⟨rl, hrl⟩ : ∃ rl, rs.length = rl := ⟨_, rfl⟩
  rw [hz] at HT HC
  rw [hrl] at HC hr3 h2
  unfold maxLen at hr4
  obtain ⟨s, hs⟩ : ∃ s, j + l = s := ⟨_, rfl⟩
  have HA := Lib.hid (show (if s = j then some ⟨q, 0, none⟩ else some ⟨q, j, none⟩ : Option Addr) = A by rw [hA]; simp only [show (s = j) = (l = 0) from propext ⟨fun _ => by omega, fun _ => by omega⟩])
  have HNum := Lib.hid (show (s : Int) ≤ c ∧ (c : Int) ≤ 9223372036854775807 ∧ wrap64 ((j : Int) + l) = (s : Int) ∧ s ≤ c ∧ j ≤ s ∧ IntKind.i64.wrap ((j : Int) + l) = (s : Int) ∧ s - j = l by rw [IntKind.wrap_i64]; unfold wrap64; omega)
  clear h hgw hok hpc hR h2 hk hk2 hr hr2 hl hc hA hlen hr3 hr4 hz hrl hrs
  unfold insV insC
  go_enter Tryz.func76, Tryz.ntmps76
  go_wp2_with fail
  refine wp_region_loose [] (fun _ _ _ => True) Adds (by kernel_rfl) (by kernel_rfl) (by simp) Adds.refl (fun _ _ _ h k => Adds.trans h k) (fun _ _ _ _ _ _ => trivial) ?_
  repeat (refine wpL_step (fun K hK => ?_); first
    | (refine stepL_ex (v := .int .i64 (s : Int)) rfl rfl rfl Adds.refl ?_ ?_; (· (intro w' hw'; clear hK; have hwr := HNum.out.2.2.1; have hwr2 := HNum.out.2.2.2.2.2.1; go_simp)); go_simp; refine hK _ ?_; clear hK K)
    | (refine stepL_ex (v := .slice A l l) rfl rfl rfl Adds.refl ?_ ?_; (· (intro w' hw'; clear hK; obtain ⟨m1, m2, m3, m4, m5, m6, m7⟩ := HNum.out; have hA := HA.out; go_simp)); go_simp; refine hK _ ?_; clear hK K)
    | (refine stepL_ex rfl rfl rfl Adds.refl (fun w' hw' => rfl) ?_; go_simp; refine hK _ ?_; clear hK K)
    | (refine stepL_ex (v := .slice (some ⟨q, 0, none⟩) rl c) rfl rfl rfl Adds.refl ?_ ?_; (· (intro w' hw'; clear hK; have c0 := HC.out _ (Adds.trans A1.out (Adds.trans (Adds.drew _) hw')); go_simp)); go_simp; refine hK _ ?_; clear hK K)
    | (refine stepL_ex (v := .int .i64 (j : Int)) rfl rfl rfl Adds.refl ?_ ?_; (· (intro w' hw'; clear hK; obtain ⟨q0, q1, q2, q3, q4⟩ := HI.out _ (Adds.trans (Adds.drew _) hw'); go_simp)); go_simp; refine hK _ ?_; clear hK K)
    | (refine stepL_ex (v := .int .i64 (l : Int)) rfl rfl rfl Adds.refl ?_ ?_; (· (intro w' hw'; clear hK; obtain ⟨q0, q1, q2, q3, q4⟩ := HI.out _ (Adds.trans (Adds.drew _) hw'); go_simp)); go_simp; refine hK _ ?_; clear hK K)
    | (refine stepL_call (v := .pointer (some ⟨g, z * 4, none⟩)) (f := 51) (args := #[.pointer (some ⟨b, 0, none⟩)]) rfl rfl rfl ?_ (fun w' hw' => (HT.out w' (Adds.trans A1.out (Adds.trans (Adds.drew _) hw'))).mono (by rintro e w2 ⟨rfl, m, rfl⟩; exact ⟨rfl, Adds.drewN _ _⟩)) ?_; (· (intro w'; clear hK; go_simp)); go_simp; refine hK _ ?_; clear hK K))
  refine wpL_nil ?_
  intro w3 a3
  simp only [forL]
  have A3 := Lib.hid (Adds.trans A1.out (Adds.trans (Adds.drew _) a3))
  have A13 := Lib.hid (Adds.trans (Adds.drew _) a3)
  clear a3
  have hwk := HWr.out
  go_wp2_with (first
    | (go_at_call 61; refine (HB.out _ A3.out).mono ?_; rintro e w4 ⟨rfl, hp, hb, ht⟩; have HQ := Lib.hid hp; have HB4 := Lib.hid (Low.trans (Low.mono A3.out HN.out) hb); obtain ⟨q0, q1, q2, q3, q4⟩ := HIt.out _ _ A13.out ht; clear hp hb ht)
    | (go_at_call 58; refine (HE.out _ HQ.out).mono ?_; rintro e w5 ⟨rfl, hp, hb⟩; have HQ5 := Lib.hid hp; have HB5 := Lib.hid (Low.trans HB4.out hb); clear hp hb))
  go_end0
  exact ⟨by simp, HQ5.out, HB5.out⟩
end
end Go.Proofs.YthhegcngkpfcoaaGreat
