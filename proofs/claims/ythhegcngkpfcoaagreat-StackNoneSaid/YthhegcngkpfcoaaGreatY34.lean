/- Merged: Z4. -/
import Derived.Test.YthhegcngkpfcoaaGreatY21
import Derived.Test.YthhegcngkpfcoaaGreatY33
namespace Go.Proofs.YthhegcngkpfcoaaGreat
open Go Go.RowKit Go.Shelf

theorem res_bbS {P : Program} {fn : Func} {p q : Tmp} {ty tz : TypeId} (h : fn.results = #[.cell p ty, .cell q tz]) (tmps : Array Value) (w : World) (g g' : Nat) (cs ds : Array Value) (t t' : TypeId) (fr fr' : Nat × Nat) (d d' : TypeDesc) (hp : tmps.getD p undef = .pointer (some ⟨g, 0, none⟩)) (hq : tmps.getD q undef = .pointer (some ⟨g', 0, none⟩))
    (hg : w.heap[g]? = some (.cells cs t fr)) (hg' : w.heap[g']? = some (.cells ds t' fr')) (hu : P.underlying ty = some d) (hd : (match d with | .struct _ | .array _ _ => true | _ => false) = true) (hi : (P.info? ty).map (·.size) = some cs.size)
    (hu' : P.underlying tz = some d') (hd' : (match d' with | .struct _ | .array _ _ => true | _ => false) = true) (hi' : (P.info? tz).map (·.size) = some ds.size) : (results fn tmps).run P w = .ok (.tuple #[.agg cs, .agg ds]) w := by
  have hp' : tmps[p]?.getD undef = .pointer (some ⟨g, 0, none⟩) := by simpa using hp
  have hq' : tmps[q]?.getD undef = .pointer (some ⟨g', 0, none⟩) := by simpa using hq
  simp [results, h, hp', hq', asAddr, run_loadVar_row (P := P) w g t ty cs fr d hg hu hd hi, run_loadVar_row (P := P) w g' t' tz ds fr' d' hg' hu' hd' hi']
/-- The instruction of a place. -/
def insT (p : Pg) (x : Fr) : In := (p.1.getD x.1 zF).2.getD x.2.1 zI
/-- What next lays, so far. -/
def NxW (w : World) (f pc : Nat) (x : In) (l l' : Bool) (w' : World) : Prop := Adds w w' ∧ BkS 37 w' w.heap.size [.int .i64 (cond l x.1 0), .int .i64 (cond l x.2.1 0), .int .i64 (cond l x.2.2.1 0), .int .i64 (cond l x.2.2.2.1 0), .int .u32 (cond l x.2.2.2.2 0)] ∧ BkS 39 w' (w.heap.size + 1) [.int .i64 (cond l' (f : Int) 0), .int .i64 (cond l' (pc : Int) 0)]
section
variable {t : TypeId} {n b g cap : Nat} {w : World} {p : Pg} {fv lv : Value} {R : List (Fr × Value)} {x : Fr × Value} {res : UInt32}
set_option maxRecDepth 100000 in
set_option maxHeartbeats 4000000 in
theorem nextS_any (h : TopO t n w b p fv g cap R x res) (hok : ∀ f ∈ p.1, ∀ i ∈ f.2, OkIn i) (hf : x.1.1 < p.1.length) (hpc : x.1.2.1 < (p.1.getD x.1.1 zF).2.length) : Calls Tryz.prog 26 #[.pointer (some ⟨b, 0, none⟩)] w fun e w' => e = .returned (.tuple #[insV (insT p x.1), .agg #[.int .i64 (x.1.1 : Int), .int .i64 (x.1.2.1 : Int)]]) ∧ Adds w w' := by
  have HT := Lib.hid (fun (W : World) (ha : Adds w W) => topS_any (h.adds ha))
  have hF := h.fo.funcs hok
  obtain ⟨aof, cf, hfv, hf1, hf2, _⟩ := id hF
  unfold maxLen at hf2
  rw [hfv] at hF
  obtain ⟨g1, off, rfl, _, hat⟩ := hF.at hf
  obtain ⟨_, cv, k1, hc, _⟩ := hat
  obtain ⟨ac, cc, rfl, hc1, hc2⟩ := hc.form
  unfold maxLen at hc2
  obtain ⟨g2, off2, rfl, _, hx⟩ := hc.at hpc
  have q0 : w.cell? ⟨b, 0, none⟩ = some fv := h.bx.cell 0
  rw [hfv] at q0
  have q1 := h.cells.2.1
  have q2 := h.cells.2.2.1
  unfold insT
  obtain ⟨⟨i0, i1, i2, i3, i4⟩, hi⟩ : ∃ i, (p.1.getD x.1.1 zF).2.getD x.1.2.1 zI = i := ⟨_, rfl⟩
  rw [hi] at hx ⊢
  obtain ⟨x0, x1, x2, x3, x4⟩ := hx
  simp only at x0 x1 x2 x3 x4
  obtain ⟨k, hk⟩ : ∃ k, R.length = k := ⟨_, rfl⟩
  obtain ⟨nf, hnf⟩ : ∃ nf, p.1.length = nf := ⟨_, rfl⟩
  obtain ⟨cl, hcl⟩ : ∃ cl, (p.1.getD x.1.1 zF).2.length = cl := ⟨_, rfl⟩
  obtain ⟨f, hff⟩ : ∃ f, x.1.1 = f := ⟨_, rfl⟩
  obtain ⟨pc, hpp⟩ : ∃ pc, x.1.2.1 = pc := ⟨_, rfl⟩
  have hfI : (x.1.1 : Int) < (p.1.length : Int) := by omega
  have hpI : (x.1.2.1 : Int) < ((p.1.getD x.1.1 zF).2.length : Int) := by omega
  have hnI : (p.1.length : Int) ≤ 9223372036854775807 := by omega
  have hclI : ((p.1.getD x.1.1 zF).2.length : Int) ≤ 9223372036854775807 := by omega
  simp only [hk] at HT q1 q2
  simp only [hcl] at k1 hpI hclI
  simp only [hnf] at q0 hfI hnI
  simp only [hff, hpp] at q1 q2 k1 x0 x1 x2 x3 x4 hfI hpI ⊢
  have HC := Lib.hid (fun (W : World) (a : Adds w W) => And.intro (a.cellAt q0) (And.intro (a.cellAt q1) (And.intro (a.cellAt q2) (And.intro (a.cellAt k1) (And.intro (a.cellAt x0) (And.intro (a.cellAt x1) (And.intro (a.cellAt x2) (And.intro (a.cellAt x3) (a.cellAt x4)))))))))
  clear h hF hfv hf1 hf2 k1 hc hc1 hc2 x0 x1 x2 x3 x4 q0 q1 q2 hi hk hnf hcl hff hpp hf hpc
  obtain ⟨w1, hw1⟩ : ∃ w1, (w.alloc (.cells #[.int .i64 0, .int .i64 0, .int .i64 0, .int .i64 0, .int .u32 0] 37)).alloc (.cells #[.int .i64 0, .int .i64 0] 39) = w1 := ⟨_, rfl⟩
  have A1 := Lib.hid (show Adds w w1 by rw [← hw1]; exact Adds.trans (Adds.new _ _) (Adds.new _ _))
  have B1 := Lib.hid (show BkS 37 w1 w.heap.size [.int .i64 0, .int .i64 0, .int .i64 0, .int .i64 0, .int .u32 0] by rw [← hw1]; exact (BkS.new _ _ _).adds (Adds.new _ _))
  have B2 := Lib.hid (show BkS 39 w1 (w.heap.size + 1) [.int .i64 0, .int .i64 0] by rw [← hw1]; have h := BkS.new 39 (w.alloc (.cells #[.int .i64 0, .int .i64 0, .int .i64 0, .int .i64 0, .int .u32 0] 37)) [.int .i64 0, .int .i64 0]; simpa using h)
  have hmx : Tryz.prog.follows .mixedOrders = true := by kernel_rfl
  go_enter Tryz.func26, Tryz.ntmps26
  go_wp2_with (go_at_call 51; refine (HT.out _ A1.out).mono ?_; rintro e w2 ⟨rfl, m, hm⟩; have A12 := Lib.hid (show Adds w1 w2 by rw [hm]; exact Adds.drewN w1 m); clear hm; have A2 := Lib.hid (Adds.trans A1.out A12.out))
  refine (wpIn_wide (n := 6)).1 ?_
  refine wpIn_region_inv (fun L b' w3 => b' = ({ tmps := #[Value.pointer (some { block := b, off := 0 }), undef, Value.pointer (some { block := w.heap.size, off := 0 }), Value.pointer (some { block := w.heap.size + 1, off := 0 }), Value.pointer (some { block := g, off := k * 4 }), Value.pointer (some { block := b, off := 0 }), Value.pointer (some { block := g, off := k * 4 }), sel2 (L 0) (Value.pointer (some { block := b, off := 0 })) (undef), sel2 (L 1) (Value.pointer (some { block := b, off := 0 })) (undef), sel2 (L 2) (Value.pointer (some { block := b, off := 0 })) (undef), sel2 (L 3) (Value.pointer (some { block := b, off := 0 })) (undef), sel2 (L 4) (Value.slice (some { block := g1, off := off }) nf cf) (undef), sel2 (L 5) (Value.pointer (some { block := g, off := k * 4 })) (undef), sel2 (L 6) (Value.pointer (some { block := g, off := k * 4 })) (undef), sel2 (L 7) (Value.pointer (some { block := g, off := k * 4 })) (undef), sel2 (L 8) (Value.int IntKind.i64 (f : Int)) (undef), sel2 (L 9) (Value.pointer (some { block := g1, off := off + f * 2 })) (undef), sel2 (L 10) (Value.pointer (some { block := g1, off := off + f * 2 + 1 })) (undef), sel2 (L 11) (Value.slice (some { block := g2, off := off2 }) cl cc) (undef), sel2 (L 12) (Value.pointer (some { block := g, off := k * 4 })) (undef), sel2 (L 13) (Value.pointer (some { block := g, off := k * 4 })) (undef), sel2 (L 14) (Value.pointer (some { block := g, off := k * 4 + 1 })) (undef), sel2 (L 15) (Value.int IntKind.i64 (pc : Int)) (undef), sel2 (L 16) (Value.pointer (some { block := g2, off := off2 + pc * 5 })) (undef), sel2 (L 17) (Value.agg #[Value.int IntKind.i64 i0, Value.int IntKind.i64 i1, Value.int IntKind.i64 i2, Value.int IntKind.i64 i3, Value.int IntKind.u32 i4]) (undef), sel2 (L 18) (Value.pointer (some { block := g, off := k * 4 })) (undef), sel2 (L 19) (Value.pointer (some { block := g, off := k * 4 })) (undef), sel2 (L 20) (Value.pointer (some { block := g, off := k * 4 })) (undef), sel2 (L 21) (Value.int IntKind.i64 (f : Int)) (undef), sel2 (L 22) (Value.pointer (some { block := g, off := k * 4 })) (undef), sel2 (L 23) (Value.pointer (some { block := g, off := k * 4 })) (undef), sel2 (L 24) (Value.pointer (some { block := g, off := k * 4 + 1 })) (undef), sel2 (L 25) (Value.int IntKind.i64 (pc : Int)) (undef), sel2 (L 26) (Value.agg #[Value.int IntKind.i64 (f : Int), Value.int IntKind.i64 (pc : Int)]) (undef)], defers := [] } : Act) ∧ NxW w f pc (i0, i1, i2, i3, i4) (L 27) (L 28) w3) hmx (by kernel_rfl) ?inv0 ?step ?fin
  case inv0 => exact ⟨rfl, Adds.trans A2.out (Adds.drew _), B1.out.adds (Adds.trans A12.out (Adds.drew _)), B2.out.adds (Adds.trans A12.out (Adds.drew _))⟩
  case step =>
    rintro L b' w3 i o ho hL hC he ⟨rfl, hP⟩
    clear hC
    have HP := Lib.hid hP
    clear hP
    obtain ⟨c0, c1, c2, c3, c4, c5, c6, c7, c8⟩ := HC.out _ HP.out.1
    rcases i with _ | _ | _ | _ | _ | _ | _ | _ | _ | _ | _ | _ | _ | _ | _ | _ | _ | _ | _ | _ | _ | _ | _ | _ | _ | _ | _ | _ | _ | i
    · simp only [List.getElem?_cons_zero, Option.some.injEq] at ho
      subst ho
      try simp [Region.binds] at he
      try simp only []
      gi_wp2
      exact ⟨by simp [sel2, *], by first | exact HP.out | simpa [he] using HP.out⟩
    · simp only [List.getElem?_cons_zero, List.getElem?_cons_succ, Option.some.injEq] at ho
      subst ho
      try simp [Region.binds] at he
      try simp only [he, sel2_t]
      gi_wp2
      exact ⟨by simp [sel2, *], by first | exact HP.out | simpa [he] using HP.out⟩
    · simp only [List.getElem?_cons_zero, List.getElem?_cons_succ, Option.some.injEq] at ho
      subst ho
      try simp [Region.binds] at he
      try simp only [he, sel2_t]
      gi_wp2
      exact ⟨by simp [sel2, *], by first | exact HP.out | simpa [he] using HP.out⟩
    · simp only [List.getElem?_cons_zero, List.getElem?_cons_succ, Option.some.injEq] at ho
      subst ho
      try simp [Region.binds] at he
      try simp only [he, sel2_t]
      gi_wp2
      exact ⟨by simp [sel2, *], by first | exact HP.out | simpa [he] using HP.out⟩
    · simp only [List.getElem?_cons_zero, List.getElem?_cons_succ, Option.some.injEq] at ho
      subst ho
      try simp [Region.binds] at he
      try simp only [he, sel2_t]
      gi_wp2
      exact ⟨by simp [sel2, *], by first | exact HP.out | simpa [he] using HP.out⟩
    · simp only [List.getElem?_cons_zero, List.getElem?_cons_succ, Option.some.injEq] at ho
      subst ho
      try simp [Region.binds] at he
      try simp only []
      gi_wp2
      exact ⟨by simp [sel2, *], by first | exact HP.out | simpa [he] using HP.out⟩
    · simp only [List.getElem?_cons_zero, List.getElem?_cons_succ, Option.some.injEq] at ho
      subst ho
      try simp [Region.binds] at he
      try simp only [he, sel2_t]
      gi_wp2
      exact ⟨by simp [sel2, *], by first | exact HP.out | simpa [he] using HP.out⟩
    · simp only [List.getElem?_cons_zero, List.getElem?_cons_succ, Option.some.injEq] at ho
      subst ho
      try simp [Region.binds] at he
      try simp only [he, sel2_t]
      gi_wp2
      exact ⟨by simp [sel2, *], by first | exact HP.out | simpa [he] using HP.out⟩
    · simp only [List.getElem?_cons_zero, List.getElem?_cons_succ, Option.some.injEq] at ho
      subst ho
      try simp [Region.binds] at he
      try simp only [he, sel2_t]
      gi_wp2
      exact ⟨by simp [sel2, *], by first | exact HP.out | simpa [he] using HP.out⟩
    · simp only [List.getElem?_cons_zero, List.getElem?_cons_succ, Option.some.injEq] at ho
      subst ho
      try simp [Region.binds] at he
      try simp only [he, sel2_t]
      gi_wp2
      exact ⟨by simp [sel2, *], by first | exact HP.out | simpa [he] using HP.out⟩
    · simp only [List.getElem?_cons_zero, List.getElem?_cons_succ, Option.some.injEq] at ho
      subst ho
      try simp [Region.binds] at he
      try simp only [he, sel2_t]
      gi_wp2
      exact ⟨by simp [sel2, *], by first | exact HP.out | simpa [he] using HP.out⟩
    · simp only [List.getElem?_cons_zero, List.getElem?_cons_succ, Option.some.injEq] at ho
      subst ho
      try simp [Region.binds] at he
      try simp only [he, sel2_t]
      gi_wp2
      exact ⟨by simp [sel2, *], by first | exact HP.out | simpa [he] using HP.out⟩
    · simp only [List.getElem?_cons_zero, List.getElem?_cons_succ, Option.some.injEq] at ho
      subst ho
      try simp [Region.binds] at he
      try simp only []
      gi_wp2
      exact ⟨by simp [sel2, *], by first | exact HP.out | simpa [he] using HP.out⟩
    · simp only [List.getElem?_cons_zero, List.getElem?_cons_succ, Option.some.injEq] at ho
      subst ho
      try simp [Region.binds] at he
      try simp only [he, sel2_t]
      gi_wp2
      exact ⟨by simp [sel2, *], by first | exact HP.out | simpa [he] using HP.out⟩
    · simp only [List.getElem?_cons_zero, List.getElem?_cons_succ, Option.some.injEq] at ho
      subst ho
      try simp [Region.binds] at he
      try simp only [he, sel2_t]
      gi_wp2
      exact ⟨by simp [sel2, *], by first | exact HP.out | simpa [he] using HP.out⟩
    · simp only [List.getElem?_cons_zero, List.getElem?_cons_succ, Option.some.injEq] at ho
      subst ho
      try simp [Region.binds] at he
      try simp only [he, sel2_t]
      gi_wp2
      exact ⟨by simp [sel2, *], by first | exact HP.out | simpa [he] using HP.out⟩
    · simp only [List.getElem?_cons_zero, List.getElem?_cons_succ, Option.some.injEq] at ho
      subst ho
      try simp [Region.binds] at he
      try simp only [he, sel2_t]
      gi_wp2
      exact ⟨by simp [sel2, *], by first | exact HP.out | simpa [he] using HP.out⟩
    · simp only [List.getElem?_cons_zero, List.getElem?_cons_succ, Option.some.injEq] at ho
      subst ho
      try simp [Region.binds] at he
      try simp only [he, sel2_t]
      gi_wp2
      exact ⟨by simp [sel2, *], by first | exact HP.out | simpa [he] using HP.out⟩
    · simp only [List.getElem?_cons_zero, List.getElem?_cons_succ, Option.some.injEq] at ho
      subst ho
      try simp [Region.binds] at he
      try simp only []
      gi_wp2
      exact ⟨by simp [sel2, *], by first | exact HP.out | simpa [he] using HP.out⟩
    · simp only [List.getElem?_cons_zero, List.getElem?_cons_succ, Option.some.injEq] at ho
      subst ho
      try simp [Region.binds] at he
      try simp only [he, sel2_t]
      gi_wp2
      exact ⟨by simp [sel2, *], by first | exact HP.out | simpa [he] using HP.out⟩
    · simp only [List.getElem?_cons_zero, List.getElem?_cons_succ, Option.some.injEq] at ho
      subst ho
      try simp [Region.binds] at he
      try simp only [he, sel2_t]
      gi_wp2
      exact ⟨by simp [sel2, *], by first | exact HP.out | simpa [he] using HP.out⟩
    · simp only [List.getElem?_cons_zero, List.getElem?_cons_succ, Option.some.injEq] at ho
      subst ho
      try simp [Region.binds] at he
      try simp only [he, sel2_t]
      gi_wp2
      exact ⟨by simp [sel2, *], by first | exact HP.out | simpa [he] using HP.out⟩
    · simp only [List.getElem?_cons_zero, List.getElem?_cons_succ, Option.some.injEq] at ho
      subst ho
      try simp [Region.binds] at he
      try simp only []
      gi_wp2
      exact ⟨by simp [sel2, *], by first | exact HP.out | simpa [he] using HP.out⟩
    · simp only [List.getElem?_cons_zero, List.getElem?_cons_succ, Option.some.injEq] at ho
      subst ho
      try simp [Region.binds] at he
      try simp only [he, sel2_t]
      gi_wp2
      exact ⟨by simp [sel2, *], by first | exact HP.out | simpa [he] using HP.out⟩
    · simp only [List.getElem?_cons_zero, List.getElem?_cons_succ, Option.some.injEq] at ho
      subst ho
      try simp [Region.binds] at he
      try simp only [he, sel2_t]
      gi_wp2
      exact ⟨by simp [sel2, *], by first | exact HP.out | simpa [he] using HP.out⟩
    · simp only [List.getElem?_cons_zero, List.getElem?_cons_succ, Option.some.injEq] at ho
      subst ho
      try simp [Region.binds] at he
      try simp only [he, sel2_t]
      gi_wp2
      exact ⟨by simp [sel2, *], by first | exact HP.out | simpa [he] using HP.out⟩
    · simp only [List.getElem?_cons_zero, List.getElem?_cons_succ, Option.some.injEq] at ho
      subst ho
      try simp [Region.binds] at he
      try simp only [he, sel2_t]
      gi_wp2
      exact ⟨by simp [sel2, *], by first | exact HP.out | simpa [he] using HP.out⟩
    · simp only [List.getElem?_cons_zero, List.getElem?_cons_succ, Option.some.injEq] at ho
      subst ho
      try simp [Region.binds] at he
      have hB := HP.out.2.1
      rw [hL] at hB
      simp only [cond_false] at hB
      have z0 := hB.cell 0; have z1 := hB.cell 1; have z2 := hB.cell 2; have z3 := hB.cell 3; have z4 := hB.cell 4
      have y0 := hB.free 0; have y1 := hB.free 1; have y2 := hB.free 2; have y3 := hB.free 3; have y4 := hB.free 4
      have HB := Lib.hid hB
      clear hB
      try simp only [he, sel2_t]
      gi_wp2
      exact ⟨by simp [sel2, *], Adds.set (Adds.set (Adds.set (Adds.set (Adds.set HP.out.1 (Nat.le_refl _) _ _) (Nat.le_refl _) _ _) (Nat.le_refl _) _ _) (Nat.le_refl _) _ _) (Nat.le_refl _) _ _, by simpa using ((((HB.out.set 0 (.int .i64 i0)).set 1 (.int .i64 i1)).set 2 (.int .i64 i2)).set 3 (.int .i64 i3)).set 4 (.int .u32 i4), by simpa using ((((HP.out.2.2.other (c := w.heap.size) (i := 0) (by omega) (.int .i64 i0)).other (c := w.heap.size) (i := 1) (by omega) (.int .i64 i1)).other (c := w.heap.size) (i := 2) (by omega) (.int .i64 i2)).other (c := w.heap.size) (i := 3) (by omega) (.int .i64 i3)).other (c := w.heap.size) (i := 4) (by omega) (.int .u32 i4)⟩
    · simp only [List.getElem?_cons_zero, List.getElem?_cons_succ, Option.some.injEq] at ho
      subst ho
      try simp [Region.binds] at he
      have hB := HP.out.2.2
      rw [hL] at hB
      simp only [cond_false] at hB
      have z0 := hB.cell 0; have z1 := hB.cell 1
      have y0 := hB.free 0; have y1 := hB.free 1
      have HB := Lib.hid hB
      clear hB
      try simp only [he, sel2_t]
      gi_wp2
      exact ⟨by simp [sel2, *], Adds.set (Adds.set HP.out.1 (by omega) _ _) (by omega) _ _, (by have q := (HP.out.2.1.other (c := w.heap.size + 1) (i := 0) (by omega) (.int .i64 (f : Int))).other (c := w.heap.size + 1) (i := 1) (by omega) (.int .i64 (pc : Int)); first | exact q | simpa using q | simpa [he] using q), by simpa using (HB.out.set 0 (.int .i64 (f : Int))).set 1 (.int .i64 (pc : Int))⟩
    · simp at ho
  case fin =>
    rintro b' w3 ⟨rfl, hP⟩
    simp only [List.length_cons, List.length_nil, Nat.reduceAdd, Nat.reduceLT, decide_true, sel2_t] at hP ⊢
    have HP := Lib.hid hP
    clear hP
    go_wp2
    try simp only [Exit.inBlock, Exit.then]
    refine bodyPost_ret (res_bbS rfl _ _ _ _ _ _ _ _ _ _ _ _ rfl rfl HP.out.2.1 HP.out.2.2 Tryz.underlying37 rfl (by kernel_rfl) Tryz.underlying39 rfl (by kernel_rfl)) rfl ?_
    exact ⟨rfl, HP.out.1⟩
end
end Go.Proofs.YthhegcngkpfcoaaGreat
