/- Merged: Z8. -/
import Derived.Test.YthhegcngkpfcoaaGreatY36
import Derived.Test.YthhegcngkpfcoaaGreatY15
namespace Go.Proofs.YthhegcngkpfcoaaGreat
open Go Go.RowKit Go.Shelf

section
variable {t : TypeId} {n b g cap : Nat} {w : World} {p : Pg} {fv lv : Value} {R : List (Fr × Value)} {f pc : Nat} {d : Int} {rs : List UInt32} {rv : Value} {res : UInt32}
set_option maxRecDepth 100000 in
set_option maxHeartbeats 4000000 in
theorem jumpS_any (h : TopO t n w b p fv g cap R ((f, pc, d, rs), rv) res) (i0 i1 i2 i3 : Int) (k : Nat) (hk : k < 4294967296) :
    Calls Tryz.prog 74 #[.pointer (some ⟨b, 0, none⟩), insV (i0, i1, i2, i3, (k : Int))] w fun e w' => e = .returned (.tuple #[]) ∧ TopO t n w' b p fv g cap R ((f, k, d, rs), rv) res ∧ Low n w w' := by
  have HN := Lib.hid h.low
  have hng := (World.ownsRow.lt h.lo.row g rfl).1
  have HT := Lib.hid (fun (W : World) (ha : Adds w W) => topS_any (h.adds ha))
  have hc := h.cells
  have HC := Lib.hid (fun (W : World) (ha : Adds w W) => And.intro (ha.cellAt hc.2.2.1) ((TopO.cells (h.adds ha)).2.2.2.2.2 (R.length * 4 + 1)))
  have HP := Lib.hid (fun (W : World) (ha : Adds w W) => And.intro (PileO.setPc (h.adds ha) k) (show Low n w (W.setCell ⟨g, R.length * 4 + 1, none⟩ (.int .i64 (k : Int))) from (Low.mono ha HN.out).set (ownB (h.adds ha).lo.row (g := g) rfl).choose_spec (.inr (.inr (.inl rfl))) hng _))
  obtain ⟨w1, hw1⟩ : ∃ w1, w.alloc (.cells #[.int .i64 i0, .int .i64 i1, .int .i64 i2, .int .i64 i3, .int .u32 (k : Int)] 37) = w1 := ⟨_, rfl⟩
  have A1 := Lib.hid (show Adds w w1 by rw [← hw1]; exact Adds.new _ _)
  have HI := Lib.hid (fun (W : World) (ha : Adds w1 W) => insCell hw1 ha)
  obtain ⟨q0, q1, q2, q3, q4⟩ := HI.out _ (Adds.refl _)
  obtain ⟨l, hl⟩ : ∃ l, R.length = l := ⟨_, rfl⟩
  have HL := Lib.hid hl
  simp only [hl] at HT HC HP
  have HWr := Lib.hid (show IntKind.i64.wrap (k : Int) = k by rw [IntKind.wrap_i64]; omega)
  clear h hc hng hl hk q0 q1 q2 q3
  unfold insV insC
  go_enter Tryz.func74, Tryz.ntmps74
  go_wp2_with fail
  refine wp_calmC ?_
  go_region_with (go_at_call 51; refine (HT.out _ (Adds.trans A1.out (Adds.drew _))).mono ?_; rintro e w2 ⟨rfl, m, rfl⟩; obtain ⟨c0, f0⟩ := HC.out _ (Adds.trans A1.out (Adds.drewN _ (1 + m))); obtain ⟨q0, q1, q2, q3, q4⟩ := HI.out _ (Adds.drewN _ (1 + m)); have HQ := Lib.hid (HP.out _ (Adds.trans A1.out (Adds.drewN _ (1 + m)))))
  all_goals (
    go_end0
    have hq := HQ.out
    rw [← HL.out] at hq ⊢
    rw [HWr.out]
    exact ⟨by simp, hq.1, hq.2⟩)
set_option maxRecDepth 100000 in
set_option maxHeartbeats 4000000 in
theorem branchS_any (h : TopO t n w b p fv g cap R ((f, pc, d, rs), rv) res) (hpc : pc < 9223372036854775807) (i0 i1 i2 i3 : Int) (k : Nat) (hk : k < 4294967296) (h1 : 0 ≤ i1 ∧ i1 < rs.length) :
    Calls Tryz.prog 75 #[.pointer (some ⟨b, 0, none⟩), insV (i0, i1, i2, i3, (k : Int))] w fun e w' => e = .returned (.tuple #[]) ∧ TopO t n w' b p fv g cap R ((f, if rs.getD i1.toNat 0 = 0 then pc + 1 else k, d, rs), rv) res ∧ Low n w w' := by
  obtain ⟨j, rfl⟩ : ∃ j : Nat, i1 = j := ⟨i1.toNat, by omega⟩
  rw [Int.toNat_natCast]
  have HN := Lib.hid h.low
  have HG := Lib.hid (fun (W : World) (ha : Adds w W) => regS_any (h.adds ha) j (by have := h1.2; simp only; omega))
  have HP := Lib.hid (fun (W : World) (ha : Adds w W) => behindS_any (h.adds ha) hpc)
  have HJ := Lib.hid (fun (W : World) (ha : Adds w W) => jumpS_any (h.adds ha) i0 j i2 i3 k hk)
  obtain ⟨ru, hru⟩ : ∃ ru, rs.getD j 0 = ru := ⟨_, rfl⟩
  simp only [hru] at HG ⊢
  obtain ⟨w1, hw1⟩ : ∃ w1, w.alloc (.cells #[.int .i64 i0, .int .i64 (j : Int), .int .i64 i2, .int .i64 i3, .int .u32 (k : Int)] 37) = w1 := ⟨_, rfl⟩
  have A1 := Lib.hid (show Adds w w1 by rw [← hw1]; exact Adds.new _ _)
  have HI := Lib.hid (fun (W : World) (ha : Adds w1 W) => insCell hw1 ha)
  obtain ⟨q0, q1, q2, q3, q4⟩ := HI.out _ (Adds.refl _)
  clear h h1 hpc hk hru q0 q2 q3 q4
  unfold insV insC
  unfold insV insC at HJ
  by_cases h0 : ru = 0
  · subst h0
    rw [if_pos rfl]
    go_enter Tryz.func75, Tryz.ntmps75
    go_wp2_with (first
      | (go_at_call 41; refine (HG.out _ A1.out).mono ?_; rintro e w2 ⟨rfl, m, rfl⟩)
      | (go_at_call 61; refine (HP.out _ (Adds.trans A1.out (Adds.drewN _ _))).mono ?_; rintro e w3 ⟨rfl, hp, hb⟩; have HQ3 := Lib.hid hp; have HB3 := Lib.hid (Low.trans (Low.mono (Adds.trans A1.out (Adds.drewN _ _)) HN.out) hb); clear hp hb))
    (try simp only [Exit.inBlock, Exit.then]); refine bodyPost_ret (results_none rfl _ _ _) rfl ?_
    exact ⟨by simp, HQ3.out, HB3.out⟩
  · rw [if_neg h0]
    have hne : (((ru.toNat : Nat) : Int) == 0) = false := by
      rw [beq_eq_false_iff_ne]
      intro e
      exact h0 (UInt32.toNat_inj.1 (by simp; omega))
    obtain ⟨ri, hri⟩ : ∃ ri, ru.toNat = ri := ⟨_, rfl⟩
    rw [hri] at hne HG
    clear h0 hri
    go_enter Tryz.func75, Tryz.ntmps75
    go_wp2_with (first
      | (go_at_call 41; refine (HG.out _ A1.out).mono ?_; rintro e w2 ⟨rfl, m, rfl⟩; obtain ⟨q0, q1, q2, q3, q4⟩ := HI.out _ (Adds.drewN w1 m))
      | (go_at_call 74; refine (HJ.out _ (Adds.trans A1.out (Adds.drewN _ _))).mono ?_; rintro e w3 ⟨rfl, hp, hb⟩; have HQ3 := Lib.hid hp; have HB3 := Lib.hid (Low.trans (Low.mono (Adds.trans A1.out (Adds.drewN _ _)) HN.out) hb); clear hp hb))
    go_end0
    exact ⟨by simp, HQ3.out, HB3.out⟩
/-- What a reckoning leaves. -/
theorem doX_lt {x : Int} {a c : Nat} (h12 : 1 ≤ x ∧ x ≤ 12) (ha : a < 4294967296) (hc : c < 4294967296) : (doX x a c).1 < 4294967296 := by
  unfold doX
  rw [if_pos h12]
  cases hz : byNone x.toNat c with
  | true => simp
  | false => simpa using doN_lt ha hc hz
set_option maxRecDepth 100000 in
set_option maxHeartbeats 4000000 in
theorem reckonS_any (h : TopO t n w b p fv g cap R ((f, pc, d, rs), rv) res) (hpc : pc < 9223372036854775807) (i0 i1 i2 i3 : Int) (k : Nat) (hk : 1 ≤ k ∧ k ≤ 12) (h1 : 0 ≤ i1 ∧ i1 < rs.length) (h2 : 0 ≤ i2 ∧ i2 < rs.length) (h3 : 0 ≤ i3 ∧ i3 < rs.length) (x : Nat × Int) (hx : doX k (rs.getD i2.toNat 0).toNat (rs.getD i3.toNat 0).toNat = x) :
    Calls Tryz.prog 73 #[.pointer (some ⟨b, 0, none⟩), insV (i0, i1, i2, i3, (k : Int))] w fun e w' => (x.2 = 0 → e = .returned (.tuple #[]) ∧ TopO t n w' b p fv g cap R ((f, pc + 1, d, rs.set i1.toNat (UInt32.ofNat x.1)), rv) res ∧ Low n w w') ∧ (x.2 ≠ 0 → e = .panicked [{ v := refuV x.2, recovered := false }] ∧ Adds w w') := by
  obtain ⟨j, rfl⟩ : ∃ j : Nat, i2 = j := ⟨i2.toNat, by omega⟩
  obtain ⟨l, rfl⟩ : ∃ l : Nat, i3 = l := ⟨i3.toNat, by omega⟩
  rw [Int.toNat_natCast, Int.toNat_natCast] at hx
  have HN := Lib.hid h.low
  have HG2 := Lib.hid (fun (W : World) (ha : Adds w W) => regS_any (h.adds ha) j (by have := h2.2; simp only; omega))
  have HG3 := Lib.hid (fun (W : World) (ha : Adds w W) => regS_any (h.adds ha) l (by have := h3.2; simp only; omega))
  have hlt : x.1 < 4294967296 := by rw [← hx]; exact doX_lt (by omega) (UInt32.toNat_lt _) (UInt32.toNat_lt _)
  have HD := Lib.hid (fun (W : World) => do_any (k : Int) (wf_kind k hk.1 hk.2) _ _ (rs.getD j 0).toNat_lt (rs.getD l 0).toNat_lt W)
  rw [hx] at HD
  have HP := Lib.hid (fun (W : World) (ha : Adds w W) => putS_any (h.adds ha) i1 (.inr h1) (UInt32.ofNat x.1))
  rw [putR_yes h1.1, show (UInt32.ofNat x.1).toNat = x.1 from by rw [UInt32.toNat_ofNat']; omega] at HP
  have HPC := Lib.hid hpc
  obtain ⟨r2, hr2⟩ : ∃ r2, (rs.getD j 0).toNat = r2 := ⟨_, rfl⟩
  obtain ⟨r3, hr3⟩ : ∃ r3, (rs.getD l 0).toNat = r3 := ⟨_, rfl⟩
  simp only [hr2, hr3] at HG2 HG3 HD
  obtain ⟨w1, hw1⟩ : ∃ w1, w.alloc (.cells #[.int .i64 i0, .int .i64 i1, .int .i64 (j : Int), .int .i64 (l : Int), .int .u32 (k : Int)] 37) = w1 := ⟨_, rfl⟩
  have A1 := Lib.hid (show Adds w w1 by rw [← hw1]; exact Adds.new _ _)
  have HI := Lib.hid (fun (W : World) (ha : Adds w1 W) => insCell hw1 ha)
  obtain ⟨q0, q1, q2, q3, q4⟩ := HI.out _ (Adds.refl _)
  have HWr := Lib.hid (show IntKind.i64.wrap (k : Int) = k by rw [IntKind.wrap_i64]; omega)
  obtain ⟨nw, er⟩ := x
  simp only at HP HD hlt ⊢
  clear h h1 h2 h3 hpc hk hr2 hr3 q0 q1 hx hlt
  unfold insV insC
  go_enter Tryz.func73, Tryz.ntmps73
  go_wp2_with fail
  refine wp_region_loose [] (fun _ _ _ => True) Adds (by kernel_rfl) (by kernel_rfl) (by simp) Adds.refl (fun _ _ _ h k => Adds.trans h k) (fun _ _ _ _ _ _ => trivial) ?_
  repeat (refine wpL_step (fun K hK => ?_); first
    | (refine stepL_ex (v := .int .i64 (k : Int)) rfl rfl rfl Adds.refl ?_ ?_; (· (intro w' hw'; clear hK; have hwr := HWr.out; go_simp)); go_simp; refine hK _ ?_; clear hK K)
    | (refine stepL_ex rfl rfl rfl Adds.refl (fun w' hw' => rfl) ?_; go_simp; refine hK _ ?_; clear hK K)
    | (refine stepL_ex (v := .int .u32 (k : Int)) rfl rfl rfl Adds.refl ?_ ?_; (· (intro w' hw'; clear hK; obtain ⟨q0, q1, q2, q3, q4⟩ := HI.out _ (Adds.trans (Adds.drew _) hw'); go_simp)); go_simp; refine hK _ ?_; clear hK K)
    | (refine stepL_ex (v := .int .i64 (j : Int)) rfl rfl rfl Adds.refl ?_ ?_; (· (intro w' hw'; clear hK; obtain ⟨q0, q1, q2, q3, q4⟩ := HI.out _ (Adds.trans (Adds.drew _) hw'); go_simp)); go_simp; refine hK _ ?_; clear hK K)
    | (refine stepL_ex (v := .int .i64 (l : Int)) rfl rfl rfl Adds.refl ?_ ?_; (· (intro w' hw'; clear hK; obtain ⟨q0, q1, q2, q3, q4⟩ := HI.out _ (Adds.trans (Adds.drew _) hw'); go_simp)); go_simp; refine hK _ ?_; clear hK K)
    | (refine stepL_call (v := .int .u32 (r2 : Int)) (f := 41) (args := #[.pointer (some ⟨b, 0, none⟩), .int .i64 (j : Int)]) rfl rfl rfl ?_ (fun w' hw' => (HG2.out w' (Adds.trans A1.out (Adds.trans (Adds.drew _) hw'))).mono (by rintro e w2 ⟨rfl, m, rfl⟩; exact ⟨rfl, Adds.drewN _ _⟩)) ?_; (· (intro w'; clear hK; go_simp)); go_simp; refine hK _ ?_; clear hK K)
    | (refine stepL_call (v := .int .u32 (r3 : Int)) (f := 41) (args := #[.pointer (some ⟨b, 0, none⟩), .int .i64 (l : Int)]) rfl rfl rfl ?_ (fun w' hw' => (HG3.out w' (Adds.trans A1.out (Adds.trans (Adds.drew _) hw'))).mono (by rintro e w2 ⟨rfl, m, rfl⟩; exact ⟨rfl, Adds.drewN _ _⟩)) ?_; (· (intro w'; clear hK; go_simp)); go_simp; refine hK _ ?_; clear hK K)
    | (refine stepL_call (v := .tuple #[.int .u32 (nw : Int), .int .i64 er]) (f := 92) (args := #[.int .i64 (k : Int), .int .u32 (r2 : Int), .int .u32 (r3 : Int)]) rfl rfl rfl ?_ (fun w' hw' => HD.out w') ?_; (· (intro w'; clear hK; go_simp)); go_simp; refine hK _ ?_; clear hK K))
  refine wpL_nil ?_
  intro w3 a3
  simp only [forL]
  have A3 := Lib.hid (Adds.trans A1.out (Adds.trans (Adds.drew _) a3))
  obtain ⟨q0, q1, q2, q3, q4⟩ := HI.out _ (Adds.trans (Adds.drew _) a3)
  clear a3 q0 q2 q3 q4
  by_cases h0 : er = 0
  · subst h0
    go_wp2_with (first
      | (go_at_call 34; refine (must_yes _ _).mono ?_; rintro e w4 ⟨rfl, rfl⟩)
      | (go_at_call 60; refine (HP.out _ A3.out).mono ?_; rintro e w5 ⟨rfl, hp, hb⟩; have HQ := Lib.hid hp; have HB := Lib.hid (Low.trans (Low.mono A3.out HN.out) hb); clear hp hb)
      | (go_at_call 61; refine (behindS_any HQ.out HPC.out).mono ?_; rintro e w6 ⟨rfl, hp, hb⟩; have HQ3 := Lib.hid hp; have HB3 := Lib.hid (HB.out.trans hb); clear hp hb))
    go_end0
    exact ⟨rfl, HQ3.out, HB3.out⟩
  · have hne : (er == 0) = false := by rw [beq_eq_false_iff_ne]; exact h0
    have H0 := Lib.hid h0
    clear h0
    go_wp2_with (go_at_call 34; refine (must_no _ _).mono ?_; rintro e w4 ⟨rfl, rfl⟩)
    exact ⟨rfl, fun h => absurd h H0.out, fun _ => ⟨rfl, A3.out⟩⟩
end
end Go.Proofs.YthhegcngkpfcoaaGreat
