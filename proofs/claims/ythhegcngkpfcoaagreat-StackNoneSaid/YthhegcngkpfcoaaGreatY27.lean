/- Merged: G5. -/
import Derived.Test.YthhegcngkpfcoaaGreatY24
import Derived.Test.YthhegcngkpfcoaaGreatY26
namespace Go.Proofs.YthhegcngkpfcoaaGreat
open Go Go.RowKit Go.Shelf

abbrev plC (r : Int) (cv : Value) (pc : Int) (fv : Value) : List Value := [.int .i64 r, cv, .int .i64 pc, fv]
abbrev plV (r : Int) (cv : Value) (pc : Int) (fv : Value) : Value := .agg #[.int .i64 r, cv, .int .i64 pc, fv]
def jumpsB (c : List In) (i : In) : Bool := if i.1 = 4 ∨ i.1 = 5 then hasB c.length i.2.2.2.2 else true
def handsB (fs : List Fu) (i : In) : Bool := if i.1 = 8 ∨ i.1 = 10 then hasB fs.length i.2.2.2.2 && decide (i.2.2.2.1 ≤ (fs.getD i.2.2.2.2.toNat zF).1) else true
def leavesI (i : In) : Bool := mayI i && (decide (i.1 = 4) || decide (i.1 = 9))
def leavesB (c : List In) (pc : Nat) (i : In) : Bool := hasB c.length ((pc : Int) + 1) || leavesI i
set_option maxRecDepth 100000 in
set_option maxHeartbeats 2000000 in
theorem ins_any {n : Nat} (r : Int) (ac : Option Addr) (cc : Nat) (c : List In) (pc : Nat) (fv : Value) (w : World) (hc : CodeW n w (.slice ac c.length cc) c) (hp : pc < c.length) :
    Calls Tryz.prog 91 #[plV r (.slice ac c.length cc) pc fv] w fun e w' => e = .returned (insV (c.getD pc zI)) ∧ Adds w w' := by
  obtain ⟨g, off, rfl, hg, hat⟩ := hc.at hp
  obtain ⟨ac', cc', e, h1, h2, _⟩ := id hc
  unfold maxLen at h2
  simp only [Value.slice.injEq, true_and] at e
  obtain ⟨rfl, rfl⟩ := e
  obtain ⟨⟨x0, x1, x2, x3, x4⟩, hx⟩ : ∃ x, c.getD pc zI = x := ⟨_, rfl⟩
  rw [hx] at hat ⊢
  obtain ⟨k0, k1, k2, k3, k4⟩ := hat
  simp only at k0 k1 k2 k3 k4
  obtain ⟨w2, hw2⟩ : ∃ w2, (w.alloc (.cells #[.int .i64 r, .slice (some ⟨g, off, none⟩) c.length cc, .int .i64 pc, fv] 132)).alloc (.cells #[.int .i64 0, .int .i64 0, .int .i64 0, .int .i64 0, .int .u32 0] 37) = w2 := ⟨_, rfl⟩
  have HA2 := Lib.hid (show Adds w w2 by rw [← hw2]; exact ((Gr.new _ _).alloc _).adds)
  have HB1 := Lib.hid (show BkS 132 w2 w.heap.size [.int .i64 r, .slice (some ⟨g, off, none⟩) c.length cc, .int .i64 pc, fv] by rw [← hw2]; exact (BkS.new _ _ _).adds (Gr.new _ _).adds)
  have HB2 := Lib.hid (show BkS 37 w2 (w.heap.size + 1) (insC (0, 0, 0, 0, 0)) by rw [← hw2]; exact heap_new1 _ _ _)
  have j0 : w2.cell? ⟨g, off + pc * 5, none⟩ = _ := HA2.out.cellAt k0
  have j1 : w2.cell? ⟨g, off + pc * 5 + 1, none⟩ = _ := HA2.out.cellAt k1
  have j2 : w2.cell? ⟨g, off + pc * 5 + 2, none⟩ = _ := HA2.out.cellAt k2
  have j3 : w2.cell? ⟨g, off + pc * 5 + 3, none⟩ = _ := HA2.out.cellAt k3
  have j4 : w2.cell? ⟨g, off + pc * 5 + 4, none⟩ = _ := HA2.out.cellAt k4
  have b1 : w2.cell? ⟨w.heap.size, 1, none⟩ = some (.slice (some ⟨g, off, none⟩) c.length cc) := HB1.out.cell 1
  have b2 : w2.cell? ⟨w.heap.size, 2, none⟩ = some (.int .i64 pc) := HB1.out.cell 2
  have z0 : w2.cell? ⟨w.heap.size + 1, 0, none⟩ = some (.int .i64 0) := HB2.out.cell 0
  have z1 : w2.cell? ⟨w.heap.size + 1, 1, none⟩ = some (.int .i64 0) := HB2.out.cell 1
  have z2 : w2.cell? ⟨w.heap.size + 1, 2, none⟩ = some (.int .i64 0) := HB2.out.cell 2
  have z3 : w2.cell? ⟨w.heap.size + 1, 3, none⟩ = some (.int .i64 0) := HB2.out.cell 3
  have z4 : w2.cell? ⟨w.heap.size + 1, 4, none⟩ = some (.int .u32 0) := HB2.out.cell 4
  have y0 := HB2.out.free 0
  have y1 := HB2.out.free 1
  have y2 := HB2.out.free 2
  have y3 := HB2.out.free 3
  have y4 := HB2.out.free 4
  have hpI : (pc : Int) < (c.length : Int) := by omega
  have hlI : (c.length : Int) ≤ 9223372036854775807 := by omega
  clear k0 k1 k2 k3 k4 hx hc hg h1 h2 hp
  go_enter Tryz.func91, Tryz.ntmps91
  go_wp2_with fail
  have hb := ((((HB2.out.set 0 (.int .i64 x0)).set 1 (.int .i64 x1)).set 2 (.int .i64 x2)).set 3 (.int .i64 x3)).set 4 (.int .u32 x4)
  refine bodyPost_ret (res_box rfl _ _ _ (insC (x0, x1, x2, x3, x4)).toArray _ _ _ rfl hb Tryz.underlying37 rfl (by kernel_rfl)) rfl ?_
  exact ⟨rfl, Adds.set (Adds.set (Adds.set (Adds.set (Adds.set HA2.out (by omega) _ _) (by omega) _ _) (by omega) _ _) (by omega) _ _) (by omega) _ _⟩
set_option maxRecDepth 100000 in
set_option maxHeartbeats 2000000 in
theorem leaves_any (x : In) (hx : OkIn x) (w : World) : Calls Tryz.prog 113 #[insV x] w fun e w' => e = .returned (.bool (leavesI x)) ∧ Adds w w' := by
  obtain ⟨w1, hw1⟩ : ∃ w1, w.alloc (.cells (insC x).toArray 37) = w1 := ⟨_, rfl⟩
  have HA1 := Lib.hid (show Adds w w1 by rw [← hw1]; exact (Gr.new _ _).adds)
  have HB1 := Lib.hid (show BkS 37 w1 w.heap.size (insC x) by rw [← hw1]; exact BkS.new _ _ _)
  have hc := check8 x hx w1
  unfold errI at hc
  unfold leavesI
  obtain ⟨xo, xa, xb, xc, xi⟩ := x
  have i0 : w1.cell? ⟨w.heap.size, 0, none⟩ = some (.int .i64 xo) := HB1.out.cell 0
  have i1 : w1.cell? ⟨w.heap.size, 1, none⟩ = some (.int .i64 xa) := HB1.out.cell 1
  have i2 : w1.cell? ⟨w.heap.size, 2, none⟩ = some (.int .i64 xb) := HB1.out.cell 2
  have i3 : w1.cell? ⟨w.heap.size, 3, none⟩ = some (.int .i64 xc) := HB1.out.cell 3
  have i4 : w1.cell? ⟨w.heap.size, 4, none⟩ = some (.int .u32 xi) := HB1.out.cell 4
  cases hm : mayI (xo, xa, xb, xc, xi)
  · rw [hm] at hc
    have HC := Lib.hid hc
    clear hc hm
    go_enter Tryz.func113, Tryz.ntmps113
    go_wp2_with (go_at_call 98; refine HC.out.mono ?_; rintro e w2 ⟨rfl, q⟩; have HA2 := Lib.hid q; have c0 := (HB1.out.adds q).cell 0; clear q)
    go_ret
    exact ⟨rfl, Adds.trans HA1.out HA2.out⟩
  · rw [hm] at hc
    have HC := Lib.hid hc
    clear hc hm
    by_cases h4 : xo = 4
    · subst h4
      go_enter Tryz.func113, Tryz.ntmps113
      go_wp2_with (go_at_call 98; refine HC.out.mono ?_; rintro e w2 ⟨rfl, q⟩; have HA2 := Lib.hid q; have c0 : w2.cell? ⟨w.heap.size, 0, none⟩ = some (.int .i64 4) := (HB1.out.adds q).cell 0; clear q)
      go_ret
      exact ⟨rfl, Adds.trans HA1.out HA2.out⟩
    · by_cases h9 : xo = 9
      · subst h9
        go_enter Tryz.func113, Tryz.ntmps113
        go_wp2_with (go_at_call 98; refine HC.out.mono ?_; rintro e w2 ⟨rfl, q⟩; have HA2 := Lib.hid q; have c0 : w2.cell? ⟨w.heap.size, 0, none⟩ = some (.int .i64 9) := (HB1.out.adds q).cell 0; clear q)
        go_ret
        exact ⟨rfl, Adds.trans HA1.out HA2.out⟩
      · have n4 : (xo == 4) = false := beq_eq_false_iff_ne.2 h4
        have n9 : (xo == 9) = false := beq_eq_false_iff_ne.2 h9
        have HE := Lib.hid (show (true && (decide (xo = 4) || decide (xo = 9))) = false by simp [h4, h9])
        clear h4 h9
        go_enter Tryz.func113, Tryz.ntmps113
        go_wp2_with (go_at_call 98; refine HC.out.mono ?_; rintro e w2 ⟨rfl, q⟩; have HA2 := Lib.hid q; have c0 : w2.cell? ⟨w.heap.size, 0, none⟩ = some (.int .i64 xo) := (HB1.out.adds q).cell 0; clear q)
        go_ret
        exact ⟨(congrArg (fun z => Ending.returned (Value.bool z)) HE.out).symm, Adds.trans HA1.out HA2.out⟩
/-- A place and an instruction, each in a box of its own. -/
theorem two_boxes (w : World) (r : Int) (cv : Value) (pc : Int) (fv : Value) (x : In) :
    Adds w ((w.alloc (.cells #[.int .i64 r, cv, .int .i64 pc, fv] 132)).alloc (.cells (insC x).toArray 37)) ∧
    BkS 132 ((w.alloc (.cells #[.int .i64 r, cv, .int .i64 pc, fv] 132)).alloc (.cells (insC x).toArray 37)) w.heap.size (plC r cv pc fv) ∧
    BkS 37 ((w.alloc (.cells #[.int .i64 r, cv, .int .i64 pc, fv] 132)).alloc (.cells (insC x).toArray 37)) (w.heap.size + 1) (insC x) :=
  ⟨((Gr.new _ _).alloc _).adds, (BkS.new _ _ _).adds (Gr.new _ _).adds, heap_new1 _ _ _⟩
set_option maxRecDepth 100000 in
set_option maxHeartbeats 2000000 in
theorem names_any (r : Int) (ac : Option Addr) (cl cc : Nat) (pc : Int) (fo : Option Addr) (fl fc : Nat) (x : In) (hx : OkIn x) (w : World) :
    Calls Tryz.prog 99 #[plV r (.slice ac cl cc) pc (.slice fo fl fc), insV x] w fun e w' => e = .returned (.bool (decide (regsI x ≤ r))) ∧ Adds w w' := by
  have HR := Lib.hid (fun W => regs_any x hx W)
  have htb := two_boxes w r (.slice ac cl cc) pc (.slice fo fl fc) x
  obtain ⟨x0, x1, x2, x3, x4⟩ := x
  obtain ⟨w1, hw1⟩ : ∃ w1, (w.alloc (.cells #[.int .i64 r, .slice ac cl cc, .int .i64 pc, .slice fo fl fc] 132)).alloc (.cells #[.int .i64 x0, .int .i64 x1, .int .i64 x2, .int .i64 x3, .int .u32 x4] 37) = w1 := ⟨_, rfl⟩
  have e1 : (w.alloc (.cells #[.int .i64 r, .slice ac cl cc, .int .i64 pc, .slice fo fl fc] 132)).alloc (.cells (insC (x0, x1, x2, x3, x4)).toArray 37) = w1 := hw1
  rw [e1] at htb
  have HA1 := Lib.hid htb.1
  have HB1 := Lib.hid htb.2.1
  have HB2 := Lib.hid htb.2.2
  generalize regsI (x0, x1, x2, x3, x4) = k at HR ⊢
  obtain ⟨b, hb⟩ : ∃ b, decide (k ≤ r) = b := ⟨_, rfl⟩
  rw [hb]
  have HBb := Lib.hid hb
  have HD := Lib.hid (show ∀ w', Adds w1.drew w' → w'.cell? ⟨w.heap.size, 0, none⟩ = some (.int .i64 r) ∧ (w'.cell? ⟨w.heap.size + 1, 0, none⟩ = some (.int .i64 x0) ∧ w'.cell? ⟨w.heap.size + 1, 1, none⟩ = some (.int .i64 x1) ∧ w'.cell? ⟨w.heap.size + 1, 2, none⟩ = some (.int .i64 x2) ∧ w'.cell? ⟨w.heap.size + 1, 3, none⟩ = some (.int .i64 x3) ∧ w'.cell? ⟨w.heap.size + 1, 4, none⟩ = some (.int .u32 x4)) from fun w' h => by
    have h1 := HB1.out.adds (Adds.trans (Adds.drew _) h)
    have h2 := HB2.out.adds (Adds.trans (Adds.drew _) h)
    exact ⟨h1.cell 0, h2.cell 0, h2.cell 1, h2.cell 2, h2.cell 3, h2.cell 4⟩)
  clear hb hx htb e1
  go_enter Tryz.func99, Tryz.ntmps99
  go_wp2_with fail
  refine wp_region_loose [] (fun _ _ _ => True) Adds (by kernel_rfl) (by kernel_rfl) (by simp []) Adds.refl (fun _ _ _ h k => Adds.trans h k) (fun _ _ _ _ _ _ => trivial) ?_
  repeat (refine wpL_step (fun K hK => ?_); first
    | (refine stepL_ex (v := .bool b) rfl rfl rfl Adds.refl ?_ ?_; (· (intro w' hw'; clear hK; have hb := HBb.out; go_simp)); go_simp; refine hK _ ?_; clear hK K)
    | (refine stepL_ex rfl rfl rfl Adds.refl (fun w' hw' => rfl) ?_; go_simp; refine hK _ ?_; clear hK K)
    | (refine stepL_ex (v := .int .i64 r) rfl rfl rfl Adds.refl ?_ ?_; (· (intro w' hw'; clear hK; have hc := HD.out w' hw'; go_simp)); go_simp; refine hK _ ?_; clear hK K)
    | (refine stepL_ex (v := .agg #[.int .i64 x0, .int .i64 x1, .int .i64 x2, .int .i64 x3, .int .u32 x4]) rfl rfl rfl Adds.refl ?_ ?_; (· (intro w' hw'; clear hK; have hc := HD.out w' hw'; go_simp)); go_simp; refine hK _ ?_; clear hK K)
    | (refine stepL_call (v := .int .i64 k) (f := 110) (args := #[.agg #[.int .i64 x0, .int .i64 x1, .int .i64 x2, .int .i64 x3, .int .u32 x4]]) rfl rfl rfl ?_ (fun w' hw' => HR.out w') ?_; (· (intro w'; clear hK; go_simp)); go_simp; refine hK _ ?_; clear hK K))
  refine wpL_nil ?_
  intro w4 a4
  simp only [forL]
  have HA4 := Lib.hid (Adds.trans HA1.out (Adds.trans (Adds.drew w1) a4))
  clear a4
  go_wp2_with fail
  go_ret
  exact ⟨rfl, HA4.out⟩
set_option maxRecDepth 100000 in
set_option maxHeartbeats 2000000 in
theorem jumps_any (r : Int) (ac : Option Addr) (cc : Nat) (c : List In) (pc : Int) (fo : Option Addr) (fl fc : Nat) (x : In) (hx : OkIn x) (w : World) :
    Calls Tryz.prog 100 #[plV r (.slice ac c.length cc) pc (.slice fo fl fc), insV x] w fun e w' => e = .returned (.bool (jumpsB c x)) ∧ Adds w w' := by
  have htb := two_boxes w r (.slice ac c.length cc) pc (.slice fo fl fc) x
  have HH := Lib.hid (fun W => hasI ac c.length cc x.2.2.2.2 W)
  have hi1 := hx.imm.1
  have hi2 := hx.imm.2
  unfold jumpsB
  generalize c.length = cl at htb HH ⊢
  obtain ⟨x0, x1, x2, x3, x4⟩ := x
  obtain ⟨w1, hw1⟩ : ∃ w1, (w.alloc (.cells #[.int .i64 r, .slice ac cl cc, .int .i64 pc, .slice fo fl fc] 132)).alloc (.cells #[.int .i64 x0, .int .i64 x1, .int .i64 x2, .int .i64 x3, .int .u32 x4] 37) = w1 := ⟨_, rfl⟩
  have e1 : (w.alloc (.cells #[.int .i64 r, .slice ac cl cc, .int .i64 pc, .slice fo fl fc] 132)).alloc (.cells (insC (x0, x1, x2, x3, x4)).toArray 37) = w1 := hw1
  rw [e1] at htb
  have HA1 := Lib.hid htb.1
  have b1 : w1.cell? ⟨w.heap.size, 1, none⟩ = some (.slice ac cl cc) := htb.2.1.cell 1
  have j0 : w1.cell? ⟨w.heap.size + 1, 0, none⟩ = some (.int .i64 x0) := htb.2.2.cell 0
  have j4 : w1.cell? ⟨w.heap.size + 1, 4, none⟩ = some (.int .u32 x4) := htb.2.2.cell 4
  simp only at hi1 hi2 HH ⊢
  clear htb e1 hx
  by_cases h4 : x0 = 4
  · subst h4
    go_enter Tryz.func100, Tryz.ntmps100
    go_wp2_with (go_at_call 111; refine (HH.out _).mono ?_; rintro e w2 ⟨rfl, rfl⟩)
    go_ret
    exact ⟨rfl, HA1.out⟩
  · by_cases h5 : x0 = 5
    · subst h5
      go_enter Tryz.func100, Tryz.ntmps100
      go_wp2_with (go_at_call 111; refine (HH.out _).mono ?_; rintro e w2 ⟨rfl, rfl⟩)
      go_ret
      exact ⟨rfl, HA1.out⟩
    · have n4 : (x0 == 4) = false := beq_eq_false_iff_ne.2 h4
      have n5 : (x0 == 5) = false := beq_eq_false_iff_ne.2 h5
      have HN := Lib.hid (show ¬ (x0 = 4 ∨ x0 = 5) by omega)
      clear h4 h5
      go_enter Tryz.func100, Tryz.ntmps100
      go_wp2_with fail
      go_ret
      first | exact ⟨rfl, HA1.out⟩ | exact ⟨by rw [if_neg HN.out]; rfl, HA1.out⟩
set_option maxRecDepth 100000 in
set_option maxHeartbeats 2000000 in
theorem plleaves_any (r : Int) (ac : Option Addr) (cc : Nat) (c : List In) (pc : Nat) (hpc : pc < 9223372036854775807) (fo : Option Addr) (fl fc : Nat) (x : In) (hx : OkIn x) (w : World) :
    Calls Tryz.prog 102 #[plV r (.slice ac c.length cc) pc (.slice fo fl fc), insV x] w fun e w' => e = .returned (.bool (leavesB c pc x)) ∧ Adds w w' := by
  have htb := two_boxes w r (.slice ac c.length cc) pc (.slice fo fl fc) x
  have HH := Lib.hid (fun W => hasI ac c.length cc ((pc : Int) + 1) W)
  have HL := Lib.hid (fun W => leaves_any x hx W)
  unfold leavesB
  generalize hasB c.length ((pc : Int) + 1) = b at HH ⊢
  generalize leavesI x = b2 at HL ⊢
  generalize c.length = cl at htb HH ⊢
  obtain ⟨x0, x1, x2, x3, x4⟩ := x
  obtain ⟨w1, hw1⟩ : ∃ w1, (w.alloc (.cells #[.int .i64 r, .slice ac cl cc, .int .i64 pc, .slice fo fl fc] 132)).alloc (.cells #[.int .i64 x0, .int .i64 x1, .int .i64 x2, .int .i64 x3, .int .u32 x4] 37) = w1 := ⟨_, rfl⟩
  have e1 : (w.alloc (.cells #[.int .i64 r, .slice ac cl cc, .int .i64 pc, .slice fo fl fc] 132)).alloc (.cells (insC (x0, x1, x2, x3, x4)).toArray 37) = w1 := hw1
  rw [e1] at htb
  have HA1 := Lib.hid htb.1
  have b1 : w1.cell? ⟨w.heap.size, 1, none⟩ = some (.slice ac cl cc) := htb.2.1.cell 1
  have b2' : w1.cell? ⟨w.heap.size, 2, none⟩ = some (.int .i64 pc) := htb.2.1.cell 2
  have j0 : w1.cell? ⟨w.heap.size + 1, 0, none⟩ = some (.int .i64 x0) := htb.2.2.cell 0
  have j1 : w1.cell? ⟨w.heap.size + 1, 1, none⟩ = some (.int .i64 x1) := htb.2.2.cell 1
  have j2 : w1.cell? ⟨w.heap.size + 1, 2, none⟩ = some (.int .i64 x2) := htb.2.2.cell 2
  have j3 : w1.cell? ⟨w.heap.size + 1, 3, none⟩ = some (.int .i64 x3) := htb.2.2.cell 3
  have j4 : w1.cell? ⟨w.heap.size + 1, 4, none⟩ = some (.int .u32 x4) := htb.2.2.cell 4
  have hpI : (pc : Int) < 9223372036854775807 := by omega
  clear htb e1 hx hpc
  cases b
  · go_enter Tryz.func102, Tryz.ntmps102
    go_wp2_with (first
      | (go_at_call 111; refine (HH.out _).mono ?_; rintro e w2 ⟨rfl, rfl⟩)
      | (go_at_call 113; refine (HL.out _).mono ?_; rintro e w2 ⟨rfl, q⟩; have HA2 := Lib.hid q; clear q))
    go_ret
    exact ⟨rfl, Adds.trans HA1.out HA2.out⟩
  · go_enter Tryz.func102, Tryz.ntmps102
    go_wp2_with (first
      | (go_at_call 111; refine (HH.out _).mono ?_; rintro e w2 ⟨rfl, rfl⟩))
    go_ret
    exact ⟨rfl, HA1.out⟩
end Go.Proofs.YthhegcngkpfcoaaGreat
