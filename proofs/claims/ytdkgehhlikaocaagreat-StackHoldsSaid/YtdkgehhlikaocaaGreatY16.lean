/- Merged: G5, G6. -/
import Derived.Test.YtdkgehhlikaocaaGreatY14
import Derived.Test.YtdkgehhlikaocaaGreatY15
namespace Go.Proofs.YtdkgehhlikaocaaGreat
open Go Go.RowKit Go.Shelf

abbrev plC (r : Int) (cv : Value) (pc : Int) (fv : Value) : List Value := [.int .i64 r, cv, .int .i64 pc, fv]
abbrev plV (r : Int) (cv : Value) (pc : Int) (fv : Value) : Value := .agg #[.int .i64 r, cv, .int .i64 pc, fv]
def jumpsB (c : List In) (i : In) : Bool := if i.1 = 4 ∨ i.1 = 5 then hasB c.length i.2.2.2.2 else true
def handsB (fs : List Fu) (i : In) : Bool := if i.1 = 8 ∨ i.1 = 10 then hasB fs.length i.2.2.2.2 && decide (i.2.2.2.1 ≤ (fs.getD i.2.2.2.2.toNat zF).1) else true
def leavesI (i : In) : Bool := mayI i && (decide (i.1 = 4) || decide (i.1 = 9))
def leavesB (c : List In) (pc : Nat) (i : In) : Bool := hasB c.length ((pc : Int) + 1) || leavesI i
set_option maxRecDepth 100000 in
set_option maxHeartbeats 2000000 in
theorem ins_any {n : Nat} (r : Int) (ac : Option Addr) (cc : Nat) (c : List In) (pc : Nat) (fv : Value) (w : World) (hc : CodeW n w (.slice ac c.length cc) c) (hp : pc < c.length) :
    Calls Tryz.prog 90 #[plV r (.slice ac c.length cc) pc fv] w fun e w' => e = .returned (insV (c.getD pc zI)) ∧ Adds w w' := by
  obtain ⟨g, off, rfl, hg, hat⟩ := hc.at hp
  obtain ⟨ac', cc', e, h1, h2, _⟩ := id hc
  unfold maxLen at h2
  simp only [Value.slice.injEq, true_and] at e
  obtain ⟨rfl, rfl⟩ := e
  obtain ⟨⟨x0, x1, x2, x3, x4⟩, hx⟩ : ∃ x, c.getD pc zI = x := ⟨_, rfl⟩
  rw [hx] at hat ⊢
  obtain ⟨k0, k1, k2, k3, k4⟩ := hat
  simp only at k0 k1 k2 k3 k4
  obtain ⟨w2, hw2⟩ : ∃ w2, (w.alloc (.cells #[.int .i64 r, .slice (some ⟨g, off, none⟩) c.length cc, .int .i64 pc, fv] 131)).alloc (.cells #[.int .i64 0, .int .i64 0, .int .i64 0, .int .i64 0, .int .u32 0] 56) = w2 := ⟨_, rfl⟩
  have HA2 := Lib.hid (show Adds w w2 by rw [← hw2]; exact ((Gr.new _ _).alloc _).adds)
  have HB1 := Lib.hid (show BkS 131 w2 w.heap.size [.int .i64 r, .slice (some ⟨g, off, none⟩) c.length cc, .int .i64 pc, fv] by rw [← hw2]; exact (BkS.new _ _ _).adds (Gr.new _ _).adds)
  have HB2 := Lib.hid (show BkS 56 w2 (w.heap.size + 1) (insC (0, 0, 0, 0, 0)) by rw [← hw2]; exact heap_new1 _ _ _)
  have j0 : w2.cell? ⟨g, off + pc * 5, none⟩ = _ := HA2.out.cellAt k0
  have j1 : w2.cell? ⟨g, off + pc * 5 + 1, none⟩ = _ := HA2.out.cellAt k1
  have j2 : w2.cell? ⟨g, off + pc * 5 + 2, none⟩ = _ := HA2.out.cellAt k2
  have j3 : w2.cell? ⟨g, off + pc * 5 + 3, none⟩ = _ := HA2.out.cellAt k3
  have j4 : w2.cell? ⟨g, off + pc * 5 + 4, none⟩ = _ := HA2.out.cellAt k4
  have b1 : w2.cell? ⟨w.heap.size, 1, none⟩ = some (.slice (some ⟨g, off, none⟩) c.length cc) := HB1.out.cell 1
  have b2 : w2.cell? ⟨w.heap.size, 2, none⟩ = some (.int .i64 pc) := HB1.out.cell 2
  have z0 : w2.cell? ⟨w.heap.size + 1, 0, none⟩ = some (.int .i64 0) := HB2.out.cell 0
  have z1 : w2.cell? ⟨w.heap.size + 1, 1, none⟩ = some (.int .i64 0) := HB2.out.cell 1
  have z2 : w2.cell? ⟨w.heap.size + 1, 2, none⟩ = some (.int .i64 0) := HB2.out.cell 2
  have z3 : w2.cell? ⟨w.heap.size + 1, 3, none⟩ = some (.int .i64 0) := HB2.out.cell 3
  have z4 : w2.cell? ⟨w.heap.size + 1, 4, none⟩ = some (.int .u32 0) := HB2.out.cell 4
  have y0 := HB2.out.free 0
  have y1 := HB2.out.free 1
  have y2 := HB2.out.free 2
  have y3 := HB2.out.free 3
  have y4 := HB2.out.free 4
  have hpI : (pc : Int) < (c.length : Int) := by omega
  have hlI : (c.length : Int) ≤ 9223372036854775807 := by omega
  clear k0 k1 k2 k3 k4 hx hc hg h1 h2 hp
  go_enter Tryz.func90, Tryz.ntmps90
  go_wp2_with fail
  have hb := ((((HB2.out.set 0 (.int .i64 x0)).set 1 (.int .i64 x1)).set 2 (.int .i64 x2)).set 3 (.int .i64 x3)).set 4 (.int .u32 x4)
  refine bodyPost_ret (res_box rfl _ _ _ (insC (x0, x1, x2, x3, x4)).toArray _ _ _ rfl hb Tryz.underlying56 rfl (by kernel_rfl)) rfl ?_
  exact ⟨rfl, Adds.set (Adds.set (Adds.set (Adds.set (Adds.set HA2.out (by omega) _ _) (by omega) _ _) (by omega) _ _) (by omega) _ _) (by omega) _ _⟩
set_option maxRecDepth 100000 in
set_option maxHeartbeats 2000000 in
theorem leaves_any (x : In) (hx : OkIn x) (w : World) : Calls Tryz.prog 112 #[insV x] w fun e w' => e = .returned (.bool (leavesI x)) ∧ Adds w w' := by
  obtain ⟨w1, hw1⟩ : ∃ w1, w.alloc (.cells (insC x).toArray 56) = w1 := ⟨_, rfl⟩
  have HA1 := Lib.hid (show Adds w w1 by rw [← hw1]; exact (Gr.new _ _).adds)
  have HB1 := Lib.hid (show BkS 56 w1 w.heap.size (insC x) by rw [← hw1]; exact BkS.new _ _ _)
  have hc := check8 x hx w1
  unfold errI at hc
  unfold leavesI
  obtain ⟨xo, xa, xb, xc, xi⟩ := x
  have i0 : w1.cell? ⟨w.heap.size, 0, none⟩ = some (.int .i64 xo) := HB1.out.cell 0
  have i1 : w1.cell? ⟨w.heap.size, 1, none⟩ = some (.int .i64 xa) := HB1.out.cell 1
  have i2 : w1.cell? ⟨w.heap.size, 2, none⟩ = some (.int .i64 xb) := HB1.out.cell 2
  have i3 : w1.cell? ⟨w.heap.size, 3, none⟩ = some (.int .i64 xc) := HB1.out.cell 3
  have i4 : w1.cell? ⟨w.heap.size, 4, none⟩ = some (.int .u32 xi) := HB1.out.cell 4
  cases hm : mayI (xo, xa, xb, xc, xi)
  · rw [hm] at hc
    have HC := Lib.hid hc
    clear hc hm
    go_enter Tryz.func112, Tryz.ntmps112
    go_wp2_with (go_at_call 97; refine HC.out.mono ?_; rintro e w2 ⟨rfl, q⟩; have HA2 := Lib.hid q; have c0 := (HB1.out.adds q).cell 0; clear q)
    go_ret
    exact ⟨rfl, Adds.trans HA1.out HA2.out⟩
  · rw [hm] at hc
    have HC := Lib.hid hc
    clear hc hm
    by_cases h4 : xo = 4
    · subst h4
      go_enter Tryz.func112, Tryz.ntmps112
      go_wp2_with (go_at_call 97; refine HC.out.mono ?_; rintro e w2 ⟨rfl, q⟩; have HA2 := Lib.hid q; have c0 : w2.cell? ⟨w.heap.size, 0, none⟩ = some (.int .i64 4) := (HB1.out.adds q).cell 0; clear q)
      go_ret
      exact ⟨rfl, Adds.trans HA1.out HA2.out⟩
    · by_cases h9 : xo = 9
      · subst h9
        go_enter Tryz.func112, Tryz.ntmps112
        go_wp2_with (go_at_call 97; refine HC.out.mono ?_; rintro e w2 ⟨rfl, q⟩; have HA2 := Lib.hid q; have c0 : w2.cell? ⟨w.heap.size, 0, none⟩ = some (.int .i64 9) := (HB1.out.adds q).cell 0; clear q)
        go_ret
        exact ⟨rfl, Adds.trans HA1.out HA2.out⟩
      · have n4 : (xo == 4) = false := beq_eq_false_iff_ne.2 h4
        have n9 : (xo == 9) = false := beq_eq_false_iff_ne.2 h9
        have HE := Lib.hid (show (true && (decide (xo = 4) || decide (xo = 9))) = false by simp [h4, h9])
        clear h4 h9
        go_enter Tryz.func112, Tryz.ntmps112
        go_wp2_with (go_at_call 97; refine HC.out.mono ?_; rintro e w2 ⟨rfl, q⟩; have HA2 := Lib.hid q; have c0 : w2.cell? ⟨w.heap.size, 0, none⟩ = some (.int .i64 xo) := (HB1.out.adds q).cell 0; clear q)
        go_ret
        exact ⟨(congrArg (fun z => Ending.returned (Value.bool z)) HE.out).symm, Adds.trans HA1.out HA2.out⟩
/-- A place and an instruction, each in a box of its own. -/
theorem two_boxes (w : World) (r : Int) (cv : Value) (pc : Int) (fv : Value) (x : In) :
    Adds w ((w.alloc (.cells #[.int .i64 r, cv, .int .i64 pc, fv] 131)).alloc (.cells (insC x).toArray 56)) ∧
    BkS 131 ((w.alloc (.cells #[.int .i64 r, cv, .int .i64 pc, fv] 131)).alloc (.cells (insC x).toArray 56)) w.heap.size (plC r cv pc fv) ∧
    BkS 56 ((w.alloc (.cells #[.int .i64 r, cv, .int .i64 pc, fv] 131)).alloc (.cells (insC x).toArray 56)) (w.heap.size + 1) (insC x) :=
  ⟨((Gr.new _ _).alloc _).adds, (BkS.new _ _ _).adds (Gr.new _ _).adds, heap_new1 _ _ _⟩
set_option maxRecDepth 100000 in
set_option maxHeartbeats 2000000 in
theorem names_any (r : Int) (ac : Option Addr) (cl cc : Nat) (pc : Int) (fo : Option Addr) (fl fc : Nat) (x : In) (hx : OkIn x) (w : World) :
    Calls Tryz.prog 98 #[plV r (.slice ac cl cc) pc (.slice fo fl fc), insV x] w fun e w' => e = .returned (.bool (decide (regsI x ≤ r))) ∧ Adds w w' := by
  have HR := Lib.hid (fun W => regs_any x hx W)
  have htb := two_boxes w r (.slice ac cl cc) pc (.slice fo fl fc) x
  obtain ⟨x0, x1, x2, x3, x4⟩ := x
  obtain ⟨w1, hw1⟩ : ∃ w1, (w.alloc (.cells #[.int .i64 r, .slice ac cl cc, .int .i64 pc, .slice fo fl fc] 131)).alloc (.cells #[.int .i64 x0, .int .i64 x1, .int .i64 x2, .int .i64 x3, .int .u32 x4] 56) = w1 := ⟨_, rfl⟩
  have e1 : (w.alloc (.cells #[.int .i64 r, .slice ac cl cc, .int .i64 pc, .slice fo fl fc] 131)).alloc (.cells (insC (x0, x1, x2, x3, x4)).toArray 56) = w1 := hw1
  rw [e1] at htb
  have HA1 := Lib.hid htb.1
  have HB1 := Lib.hid htb.2.1
  have HB2 := Lib.hid htb.2.2
  generalize regsI (x0, x1, x2, x3, x4) = k at HR ⊢
  obtain ⟨b, hb⟩ : ∃ b, decide (k ≤ r) = b := ⟨_, rfl⟩
  rw [hb]
  have HBb := Lib.hid hb
  have HD := Lib.hid (show ∀ w', Adds w1.drew w' → w'.cell? ⟨w.heap.size, 0, none⟩ = some (.int .i64 r) ∧ (w'.cell? ⟨w.heap.size + 1, 0, none⟩ = some (.int .i64 x0) ∧ w'.cell? ⟨w.heap.size + 1, 1, none⟩ = some (.int .i64 x1) ∧ w'.cell? ⟨w.heap.size + 1, 2, none⟩ = some (.int .i64 x2) ∧ w'.cell? ⟨w.heap.size + 1, 3, none⟩ = some (.int .i64 x3) ∧ w'.cell? ⟨w.heap.size + 1, 4, none⟩ = some (.int .u32 x4)) from fun w' h => by
    have h1 := HB1.out.adds (Adds.trans (Adds.drew _) h)
    have h2 := HB2.out.adds (Adds.trans (Adds.drew _) h)
    exact ⟨h1.cell 0, h2.cell 0, h2.cell 1, h2.cell 2, h2.cell 3, h2.cell 4⟩)
  clear hb hx htb e1
  go_enter Tryz.func98, Tryz.ntmps98
  go_wp2_with fail
  refine wp_region_loose [] (fun _ _ _ => True) Adds (by kernel_rfl) (by kernel_rfl) (by simp []) Adds.refl (fun _ _ _ h k => Adds.trans h k) (fun _ _ _ _ _ _ => trivial) ?_
  repeat (refine wpL_step (fun K hK => ?_); first
    | (refine stepL_ex (v := .bool b) rfl rfl rfl Adds.refl ?_ ?_; (· (intro w' hw'; clear hK; have hb := HBb.out; go_simp)); go_simp; refine hK _ ?_; clear hK K)
    | (refine stepL_ex rfl rfl rfl Adds.refl (fun w' hw' => rfl) ?_; go_simp; refine hK _ ?_; clear hK K)
    | (refine stepL_ex (v := .int .i64 r) rfl rfl rfl Adds.refl ?_ ?_; (· (intro w' hw'; clear hK; have hc := HD.out w' hw'; go_simp)); go_simp; refine hK _ ?_; clear hK K)
    | (refine stepL_ex (v := .agg #[.int .i64 x0, .int .i64 x1, .int .i64 x2, .int .i64 x3, .int .u32 x4]) rfl rfl rfl Adds.refl ?_ ?_; (· (intro w' hw'; clear hK; have hc := HD.out w' hw'; go_simp)); go_simp; refine hK _ ?_; clear hK K)
    | (refine stepL_call (v := .int .i64 k) (f := 109) (args := #[.agg #[.int .i64 x0, .int .i64 x1, .int .i64 x2, .int .i64 x3, .int .u32 x4]]) rfl rfl rfl ?_ (fun w' hw' => HR.out w') ?_; (· (intro w'; clear hK; go_simp)); go_simp; refine hK _ ?_; clear hK K))
  refine wpL_nil ?_
  intro w4 a4
  simp only [forL]
  have HA4 := Lib.hid (Adds.trans HA1.out (Adds.trans (Adds.drew w1) a4))
  clear a4
  go_wp2_with fail
  go_ret
  exact ⟨rfl, HA4.out⟩
set_option maxRecDepth 100000 in
set_option maxHeartbeats 2000000 in
theorem jumps_any (r : Int) (ac : Option Addr) (cc : Nat) (c : List In) (pc : Int) (fo : Option Addr) (fl fc : Nat) (x : In) (hx : OkIn x) (w : World) :
    Calls Tryz.prog 99 #[plV r (.slice ac c.length cc) pc (.slice fo fl fc), insV x] w fun e w' => e = .returned (.bool (jumpsB c x)) ∧ Adds w w' := by
  have htb := two_boxes w r (.slice ac c.length cc) pc (.slice fo fl fc) x
  have HH := Lib.hid (fun W => hasI ac c.length cc x.2.2.2.2 W)
  have hi1 := hx.imm.1
  have hi2 := hx.imm.2
  unfold jumpsB
  generalize c.length = cl at htb HH ⊢
  obtain ⟨x0, x1, x2, x3, x4⟩ := x
  obtain ⟨w1, hw1⟩ : ∃ w1, (w.alloc (.cells #[.int .i64 r, .slice ac cl cc, .int .i64 pc, .slice fo fl fc] 131)).alloc (.cells #[.int .i64 x0, .int .i64 x1, .int .i64 x2, .int .i64 x3, .int .u32 x4] 56) = w1 := ⟨_, rfl⟩
  have e1 : (w.alloc (.cells #[.int .i64 r, .slice ac cl cc, .int .i64 pc, .slice fo fl fc] 131)).alloc (.cells (insC (x0, x1, x2, x3, x4)).toArray 56) = w1 := hw1
  rw [e1] at htb
  have HA1 := Lib.hid htb.1
  have b1 : w1.cell? ⟨w.heap.size, 1, none⟩ = some (.slice ac cl cc) := htb.2.1.cell 1
  have j0 : w1.cell? ⟨w.heap.size + 1, 0, none⟩ = some (.int .i64 x0) := htb.2.2.cell 0
  have j4 : w1.cell? ⟨w.heap.size + 1, 4, none⟩ = some (.int .u32 x4) := htb.2.2.cell 4
  simp only at hi1 hi2 HH ⊢
  clear htb e1 hx
  by_cases h4 : x0 = 4
  · subst h4
    go_enter Tryz.func99, Tryz.ntmps99
    go_wp2_with (go_at_call 110; refine (HH.out _).mono ?_; rintro e w2 ⟨rfl, rfl⟩)
    go_ret
    exact ⟨rfl, HA1.out⟩
  · by_cases h5 : x0 = 5
    · subst h5
      go_enter Tryz.func99, Tryz.ntmps99
      go_wp2_with (go_at_call 110; refine (HH.out _).mono ?_; rintro e w2 ⟨rfl, rfl⟩)
      go_ret
      exact ⟨rfl, HA1.out⟩
    · have n4 : (x0 == 4) = false := beq_eq_false_iff_ne.2 h4
      have n5 : (x0 == 5) = false := beq_eq_false_iff_ne.2 h5
      have HN := Lib.hid (show ¬ (x0 = 4 ∨ x0 = 5) by omega)
      clear h4 h5
      go_enter Tryz.func99, Tryz.ntmps99
      go_wp2_with fail
      go_ret
      first | exact ⟨rfl, HA1.out⟩ | exact ⟨by rw [if_neg HN.out]; rfl, HA1.out⟩
set_option maxRecDepth 100000 in
set_option maxHeartbeats 2000000 in
theorem plleaves_any (r : Int) (ac : Option Addr) (cc : Nat) (c : List In) (pc : Nat) (hpc : pc < 9223372036854775807) (fo : Option Addr) (fl fc : Nat) (x : In) (hx : OkIn x) (w : World) :
    Calls Tryz.prog 101 #[plV r (.slice ac c.length cc) pc (.slice fo fl fc), insV x] w fun e w' => e = .returned (.bool (leavesB c pc x)) ∧ Adds w w' := by
  have htb := two_boxes w r (.slice ac c.length cc) pc (.slice fo fl fc) x
  have HH := Lib.hid (fun W => hasI ac c.length cc ((pc : Int) + 1) W)
  have HL := Lib.hid (fun W => leaves_any x hx W)
  unfold leavesB
  generalize hasB c.length ((pc : Int) + 1) = b at HH ⊢
  generalize leavesI x = b2 at HL ⊢
  generalize c.length = cl at htb HH ⊢
  obtain ⟨x0, x1, x2, x3, x4⟩ := x
  obtain ⟨w1, hw1⟩ : ∃ w1, (w.alloc (.cells #[.int .i64 r, .slice ac cl cc, .int .i64 pc, .slice fo fl fc] 131)).alloc (.cells #[.int .i64 x0, .int .i64 x1, .int .i64 x2, .int .i64 x3, .int .u32 x4] 56) = w1 := ⟨_, rfl⟩
  have e1 : (w.alloc (.cells #[.int .i64 r, .slice ac cl cc, .int .i64 pc, .slice fo fl fc] 131)).alloc (.cells (insC (x0, x1, x2, x3, x4)).toArray 56) = w1 := hw1
  rw [e1] at htb
  have HA1 := Lib.hid htb.1
  have b1 : w1.cell? ⟨w.heap.size, 1, none⟩ = some (.slice ac cl cc) := htb.2.1.cell 1
  have b2' : w1.cell? ⟨w.heap.size, 2, none⟩ = some (.int .i64 pc) := htb.2.1.cell 2
  have j0 : w1.cell? ⟨w.heap.size + 1, 0, none⟩ = some (.int .i64 x0) := htb.2.2.cell 0
  have j1 : w1.cell? ⟨w.heap.size + 1, 1, none⟩ = some (.int .i64 x1) := htb.2.2.cell 1
  have j2 : w1.cell? ⟨w.heap.size + 1, 2, none⟩ = some (.int .i64 x2) := htb.2.2.cell 2
  have j3 : w1.cell? ⟨w.heap.size + 1, 3, none⟩ = some (.int .i64 x3) := htb.2.2.cell 3
  have j4 : w1.cell? ⟨w.heap.size + 1, 4, none⟩ = some (.int .u32 x4) := htb.2.2.cell 4
  have hpI : (pc : Int) < 9223372036854775807 := by omega
  clear htb e1 hx hpc
  cases b
  · go_enter Tryz.func101, Tryz.ntmps101
    go_wp2_with (first
      | (go_at_call 110; refine (HH.out _).mono ?_; rintro e w2 ⟨rfl, rfl⟩)
      | (go_at_call 112; refine (HL.out _).mono ?_; rintro e w2 ⟨rfl, q⟩; have HA2 := Lib.hid q; clear q))
    go_ret
    exact ⟨rfl, Adds.trans HA1.out HA2.out⟩
  · go_enter Tryz.func101, Tryz.ntmps101
    go_wp2_with (first
      | (go_at_call 110; refine (HH.out _).mono ?_; rintro e w2 ⟨rfl, rfl⟩))
    go_ret
    exact ⟨rfl, HA1.out⟩
end Go.Proofs.YtdkgehhlikaocaaGreat
namespace Go.Proofs.YtdkgehhlikaocaaGreat
open Go Go.RowKit Go.Shelf

set_option maxRecDepth 100000 in
set_option maxHeartbeats 4000000 in
theorem hands_any {n : Nat} (r : Int) (cv : Value) (pc : Int) (fo : Option Addr) (fc : Nat) (fs : List Fu) (x : In) (hx : OkIn x) (w : World) (hf : FuncsW n w (.slice fo fs.length fc) fs) :
    Calls Tryz.prog 100 #[plV r cv pc (.slice fo fs.length fc), insV x] w fun e w' => e = .returned (.bool (handsB fs x)) ∧ Adds w w' := by
  have htb := two_boxes w r cv pc (.slice fo fs.length fc) x
  have HH : Hid (∀ W, Calls Tryz.prog 111 #[.slice fo fs.length fc, .int .i64 x.2.2.2.2] W fun e w' => e = .returned (.bool (hasB fs.length x.2.2.2.2)) ∧ Adds W w') := Lib.hid (fun W => (hasF fo fs.length fc x.2.2.2.2 W).mono (fun e w' ⟨h1, h2⟩ => ⟨h1, h2 ▸ Adds.refl _⟩))
  have HF := Lib.hid hf
  have hi1 := hx.imm.1
  have hi2 := hx.imm.2
  obtain ⟨x0, x1, x2, x3, x4⟩ := x
  obtain ⟨w1, hw1⟩ : ∃ w1, (w.alloc (.cells #[.int .i64 r, cv, .int .i64 pc, .slice fo fs.length fc] 131)).alloc (.cells #[.int .i64 x0, .int .i64 x1, .int .i64 x2, .int .i64 x3, .int .u32 x4] 56) = w1 := ⟨_, rfl⟩
  have e1 : (w.alloc (.cells #[.int .i64 r, cv, .int .i64 pc, .slice fo fs.length fc] 131)).alloc (.cells (insC (x0, x1, x2, x3, x4)).toArray 56) = w1 := hw1
  rw [e1] at htb
  have HA1 := Lib.hid htb.1
  have HB1 := Lib.hid htb.2.1
  have HB2 := Lib.hid htb.2.2
  have j0 : w1.cell? ⟨w.heap.size + 1, 0, none⟩ = some (.int .i64 x0) := htb.2.2.cell 0
  have HD := Lib.hid (show ∀ w', Adds w1.drew w' → w'.cell? ⟨w.heap.size, 3, none⟩ = some (.slice fo fs.length fc) ∧ w'.cell? ⟨w.heap.size + 1, 3, none⟩ = some (.int .i64 x3) ∧ w'.cell? ⟨w.heap.size + 1, 4, none⟩ = some (.int .u32 x4) from fun w' h => by
    have h1 := HB1.out.adds (Adds.trans (Adds.drew _) h)
    have h2 := HB2.out.adds (Adds.trans (Adds.drew _) h)
    exact ⟨h1.cell 3, h2.cell 3, h2.cell 4⟩)
  simp only at hi1 hi2 HH
  have hhb : handsB fs (x0, x1, x2, x3, x4) = if x0 = 8 ∨ x0 = 10 then hasB fs.length x4 && decide (x3 ≤ (fs.getD x4.toNat zF).1) else true := rfl
  rw [hhb]
  clear htb e1 hx hf hhb
  by_cases h8 : x0 = 8 ∨ x0 = 10
  · rw [if_pos h8]
    cases hb : hasB fs.length x4
    · have HB := Lib.hid hb
      rw [hb] at HH
      obtain ⟨fl, hfl⟩ : ∃ fl, fs.length = fl := ⟨_, rfl⟩
      rw [hfl] at HD HH hw1
      simp only [hfl]
      have HWr := Lib.hid (show IntKind.i64.wrap x4 = x4 by rw [IntKind.wrap_i64]; omega)
      clear hfl hb HB HF
      rcases h8 with h8 | h8
      · have q8 : (x0 == 8) = true := by simp [h8]
        clear h8
        go_enter Tryz.func100, Tryz.ntmps100
        go_wp2_with fail
        refine wp_region_loose [] (fun _ _ _ => True) Adds (by kernel_rfl) (by kernel_rfl) (by simp []) Adds.refl (fun _ _ _ h k => Adds.trans h k) (fun _ _ _ _ _ _ => trivial) ?_
        repeat (refine wpL_step (fun K hK => ?_); first
          | (refine stepL_skip rfl rfl rfl ?_; go_simp; refine hK _ ?_; clear hK K)
          | (refine stepL_ex (v := .int .i64 x4) rfl rfl rfl Adds.refl ?_ ?_; (· (intro w' hw'; clear hK; have e := HWr.out; go_simp; done)); go_simp; refine hK _ ?_; clear hK K)
          | (refine stepL_ex rfl rfl rfl Adds.refl (fun w' hw' => rfl) ?_; go_simp; refine hK _ ?_; clear hK K)
          | (refine stepL_ex (v := .slice fo fl fc) rfl rfl rfl Adds.refl ?_ ?_; (· (intro w' hw'; clear hK; have hc := HD.out w' hw'; go_simp)); go_simp; refine hK _ ?_; clear hK K)
          | (refine stepL_ex (v := .int .u32 x4) rfl rfl rfl Adds.refl ?_ ?_; (· (intro w' hw'; clear hK; have hc := HD.out w' hw'; go_simp)); go_simp; refine hK _ ?_; clear hK K)
          | (refine stepL_ex (v := .bool false) rfl rfl rfl Adds.refl ?_ ?_; (· (intro w' hw'; clear hK; go_simp)); go_simp; refine hK _ ?_; clear hK K)
          | (refine stepL_call (v := .bool false) (f := 111) (args := #[.slice fo fl fc, .int .i64 x4]) rfl rfl rfl ?_ (fun w' hw' => HH.out w') ?_; (· (intro w'; clear hK; go_simp)); go_simp; refine hK _ ?_; clear hK K))
        refine wpL_nil ?_
        intro w4 a4
        simp only [forL]
        have HA4 := Lib.hid (Adds.trans HA1.out (Adds.trans (Adds.drew w1) a4))
        clear a4
        go_wp2_with fail
        go_ret
        exact ⟨rfl, HA4.out⟩
      · have q8 : (x0 == 8) = false := by simp [h8]
        have q10 : (x0 == 10) = true := by simp [h8]
        clear h8
        go_enter Tryz.func100, Tryz.ntmps100
        go_wp2_with fail
        refine wp_region_loose [] (fun _ _ _ => True) Adds (by kernel_rfl) (by kernel_rfl) (by simp []) Adds.refl (fun _ _ _ h k => Adds.trans h k) (fun _ _ _ _ _ _ => trivial) ?_
        repeat (refine wpL_step (fun K hK => ?_); first
          | (refine stepL_skip rfl rfl rfl ?_; go_simp; refine hK _ ?_; clear hK K)
          | (refine stepL_ex (v := .int .i64 x4) rfl rfl rfl Adds.refl ?_ ?_; (· (intro w' hw'; clear hK; have e := HWr.out; go_simp; done)); go_simp; refine hK _ ?_; clear hK K)
          | (refine stepL_ex rfl rfl rfl Adds.refl (fun w' hw' => rfl) ?_; go_simp; refine hK _ ?_; clear hK K)
          | (refine stepL_ex (v := .slice fo fl fc) rfl rfl rfl Adds.refl ?_ ?_; (· (intro w' hw'; clear hK; have hc := HD.out w' hw'; go_simp)); go_simp; refine hK _ ?_; clear hK K)
          | (refine stepL_ex (v := .int .u32 x4) rfl rfl rfl Adds.refl ?_ ?_; (· (intro w' hw'; clear hK; have hc := HD.out w' hw'; go_simp)); go_simp; refine hK _ ?_; clear hK K)
          | (refine stepL_ex (v := .bool false) rfl rfl rfl Adds.refl ?_ ?_; (· (intro w' hw'; clear hK; go_simp)); go_simp; refine hK _ ?_; clear hK K)
          | (refine stepL_call (v := .bool false) (f := 111) (args := #[.slice fo fl fc, .int .i64 x4]) rfl rfl rfl ?_ (fun w' hw' => HH.out w') ?_; (· (intro w'; clear hK; go_simp)); go_simp; refine hK _ ?_; clear hK K))
        refine wpL_nil ?_
        intro w4 a4
        simp only [forL]
        have HA4 := Lib.hid (Adds.trans HA1.out (Adds.trans (Adds.drew w1) a4))
        clear a4
        go_wp2_with fail
        go_ret
        exact ⟨rfl, HA4.out⟩
    · unfold hasB at hb
      rw [decide_eq_true_eq] at hb
      obtain ⟨k, rfl⟩ : ∃ k : Nat, x4 = k := ⟨x4.toNat, by omega⟩
      have hk : k < fs.length := by omega
      have hbt : hasB fs.length (k : Int) = true := by unfold hasB; rw [decide_eq_true_eq]; exact hb
      rw [hbt] at HH
      rw [show ((k : Nat) : Int).toNat = k by omega]
      obtain ⟨g, off, rfl, hg, hat⟩ := HF.out.at hk
      obtain ⟨k0, _⟩ := hat
      obtain ⟨rg, hrg⟩ : ∃ x, (fs.getD k zF).1 = x := ⟨_, rfl⟩
      rw [hrg] at k0 ⊢
      have HR := Lib.hid (show ∀ w', Adds w1.drew w' → w'.cell? ⟨g, off + k * 2, none⟩ = some (.int .i64 rg) from fun w' h => (Adds.trans HA1.out (Adds.trans (Adds.drew _) h)).cellAt k0)
      obtain ⟨b, hbb⟩ : ∃ b, decide (x3 ≤ rg) = b := ⟨_, rfl⟩
      rw [hbb]
      have HBb := Lib.hid hbb
      obtain ⟨ao', cap', e, h1, h2, _⟩ := id HF.out
      unfold maxLen at h2
      simp only [Value.slice.injEq, true_and] at e
      obtain ⟨rfl, rfl⟩ := e
      obtain ⟨fl, hfl⟩ : ∃ fl, fs.length = fl := ⟨_, rfl⟩
      rw [hfl] at HD HH hk h1 hw1
      simp only [hfl]
      have hkI : (k : Int) < (fl : Int) := by omega
      have hlI : (fl : Int) ≤ 9223372036854775807 := by omega
      have HWr := Lib.hid (show IntKind.i64.wrap (k : Int) = k by rw [IntKind.wrap_i64]; omega)
      clear hfl hb hbt hrg hbb k0 hg HF h1 h2 hk
      rcases h8 with h8 | h8
      · have q8 : (x0 == 8) = true := by simp [h8]
        clear h8
        go_enter Tryz.func100, Tryz.ntmps100
        go_wp2_with fail
        refine wp_region_loose [] (fun _ _ _ => True) Adds (by kernel_rfl) (by kernel_rfl) (by simp []) Adds.refl (fun _ _ _ h k => Adds.trans h k) (fun _ _ _ _ _ _ => trivial) ?_
        repeat (refine wpL_step (fun K hK => ?_); first
          | (refine stepL_ex (v := .bool true) rfl rfl rfl Adds.refl ?_ ?_; (· (intro w' hw'; clear hK; go_simp)); go_simp; refine hK _ ?_; clear hK K)
          | (refine stepL_ex (v := .bool b) rfl rfl rfl Adds.refl ?_ ?_; (· (intro w' hw'; clear hK; have hb := HBb.out; go_simp)); go_simp; refine hK _ ?_; clear hK K)
          | (refine stepL_ex (v := .pointer (some ⟨g, off + k * 2, none⟩)) rfl rfl rfl Adds.refl ?_ ?_; (· (intro w' hw'; clear hK; go_simp)); go_simp; refine hK _ ?_; clear hK K)
          | (refine stepL_ex (v := .int .i64 (k : Nat)) rfl rfl rfl Adds.refl ?_ ?_; (· (intro w' hw'; clear hK; have e := HWr.out; go_simp; done)); go_simp; refine hK _ ?_; clear hK K)
          | (refine stepL_ex rfl rfl rfl Adds.refl (fun w' hw' => rfl) ?_; go_simp; refine hK _ ?_; clear hK K)
          | (refine stepL_ex (v := .slice (some ⟨g, off, none⟩) fl fc) rfl rfl rfl Adds.refl ?_ ?_; (· (intro w' hw'; clear hK; have hc := HD.out w' hw'; go_simp)); go_simp; refine hK _ ?_; clear hK K)
          | (refine stepL_ex (v := .int .u32 (k : Nat)) rfl rfl rfl Adds.refl ?_ ?_; (· (intro w' hw'; clear hK; have hc := HD.out w' hw'; go_simp)); go_simp; refine hK _ ?_; clear hK K)
          | (refine stepL_ex (v := .int .i64 x3) rfl rfl rfl Adds.refl ?_ ?_; (· (intro w' hw'; clear hK; have hc := HD.out w' hw'; go_simp)); go_simp; refine hK _ ?_; clear hK K)
          | (refine stepL_ex (v := .int .i64 rg) rfl rfl rfl Adds.refl ?_ ?_; (· (intro w' hw'; clear hK; have hc := HR.out w' hw'; go_simp)); go_simp; refine hK _ ?_; clear hK K)
          | (refine stepL_call (v := .bool true) (f := 111) (args := #[.slice (some ⟨g, off, none⟩) fl fc, .int .i64 (k : Nat)]) rfl rfl rfl ?_ (fun w' hw' => HH.out w') ?_; (· (intro w'; clear hK; go_simp)); go_simp; refine hK _ ?_; clear hK K))
        refine wpL_nil ?_
        intro w4 a4
        simp only [forL]
        have HA4 := Lib.hid (Adds.trans HA1.out (Adds.trans (Adds.drew w1) a4))
        clear a4
        go_wp2_with fail
        go_ret
        exact ⟨rfl, HA4.out⟩
      · have q8 : (x0 == 8) = false := by simp [h8]
        have q10 : (x0 == 10) = true := by simp [h8]
        clear h8
        go_enter Tryz.func100, Tryz.ntmps100
        go_wp2_with fail
        refine wp_region_loose [] (fun _ _ _ => True) Adds (by kernel_rfl) (by kernel_rfl) (by simp []) Adds.refl (fun _ _ _ h k => Adds.trans h k) (fun _ _ _ _ _ _ => trivial) ?_
        repeat (refine wpL_step (fun K hK => ?_); first
          | (refine stepL_ex (v := .bool true) rfl rfl rfl Adds.refl ?_ ?_; (· (intro w' hw'; clear hK; go_simp)); go_simp; refine hK _ ?_; clear hK K)
          | (refine stepL_ex (v := .bool b) rfl rfl rfl Adds.refl ?_ ?_; (· (intro w' hw'; clear hK; have hb := HBb.out; go_simp)); go_simp; refine hK _ ?_; clear hK K)
          | (refine stepL_ex (v := .pointer (some ⟨g, off + k * 2, none⟩)) rfl rfl rfl Adds.refl ?_ ?_; (· (intro w' hw'; clear hK; go_simp)); go_simp; refine hK _ ?_; clear hK K)
          | (refine stepL_ex (v := .int .i64 (k : Nat)) rfl rfl rfl Adds.refl ?_ ?_; (· (intro w' hw'; clear hK; have e := HWr.out; go_simp; done)); go_simp; refine hK _ ?_; clear hK K)
          | (refine stepL_ex rfl rfl rfl Adds.refl (fun w' hw' => rfl) ?_; go_simp; refine hK _ ?_; clear hK K)
          | (refine stepL_ex (v := .slice (some ⟨g, off, none⟩) fl fc) rfl rfl rfl Adds.refl ?_ ?_; (· (intro w' hw'; clear hK; have hc := HD.out w' hw'; go_simp)); go_simp; refine hK _ ?_; clear hK K)
          | (refine stepL_ex (v := .int .u32 (k : Nat)) rfl rfl rfl Adds.refl ?_ ?_; (· (intro w' hw'; clear hK; have hc := HD.out w' hw'; go_simp)); go_simp; refine hK _ ?_; clear hK K)
          | (refine stepL_ex (v := .int .i64 x3) rfl rfl rfl Adds.refl ?_ ?_; (· (intro w' hw'; clear hK; have hc := HD.out w' hw'; go_simp)); go_simp; refine hK _ ?_; clear hK K)
          | (refine stepL_ex (v := .int .i64 rg) rfl rfl rfl Adds.refl ?_ ?_; (· (intro w' hw'; clear hK; have hc := HR.out w' hw'; go_simp)); go_simp; refine hK _ ?_; clear hK K)
          | (refine stepL_call (v := .bool true) (f := 111) (args := #[.slice (some ⟨g, off, none⟩) fl fc, .int .i64 (k : Nat)]) rfl rfl rfl ?_ (fun w' hw' => HH.out w') ?_; (· (intro w'; clear hK; go_simp)); go_simp; refine hK _ ?_; clear hK K))
        refine wpL_nil ?_
        intro w4 a4
        simp only [forL]
        have HA4 := Lib.hid (Adds.trans HA1.out (Adds.trans (Adds.drew w1) a4))
        clear a4
        go_wp2_with fail
        go_ret
        exact ⟨rfl, HA4.out⟩
  · rw [if_neg h8]
    have n8 : (x0 == 8) = false := beq_eq_false_iff_ne.2 (by omega)
    have n10 : (x0 == 10) = false := beq_eq_false_iff_ne.2 (by omega)
    clear h8
    go_enter Tryz.func100, Tryz.ntmps100
    go_wp2_with fail
    go_ret
    exact ⟨rfl, HA1.out⟩
end Go.Proofs.YtdkgehhlikaocaaGreat
