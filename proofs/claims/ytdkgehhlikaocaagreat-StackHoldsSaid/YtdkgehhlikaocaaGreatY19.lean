/- Merged: G10, Z4, Z5. -/
import Derived.Test.YtdkgehhlikaocaaGreatY18
import Derived.Test.YtdkgehhlikaocaaGreatY12
import Derived.Laws.CopyOwn
namespace Go.Proofs.YtdkgehhlikaocaaGreat
open Go Go.RowKit Go.Shelf

def checkP (p : Pg) : Int := if numsP p && (wrongP p).isNone then 0 else 2
set_option maxRecDepth 100000 in
set_option maxHeartbeats 4000000 in
theorem checkP_any {m : Nat} (u : Value) (p : Pg) (w : World) (hf : FuncsW m w u p.1) : Calls Tryz.prog 47 #[pgV u p] w fun e w' => e = .returned (.int .i64 (checkP p)) ∧ Adds w w' := by
  have HNu := Lib.hid (fun (W : World) (h : Adds w W) => numsP_any u p W (hf.adds h))
  have HWr := Lib.hid (fun (W : World) (h : Adds w W) => wrong_any u p W (hf.adds h))
  unfold checkP
  obtain ⟨fs, x1, x2, x3⟩ := p
  obtain ⟨ao, cap, rfl, _, _, _⟩ := hf
  generalize numsP (fs, x1, x2, x3) = nb at HNu ⊢
  generalize wrongP (fs, x1, x2, x3) = wo at HWr ⊢
  simp only at HNu HWr ⊢
  generalize fs.length = fl at HNu HWr ⊢
  obtain ⟨w0, hw0⟩ : ∃ w0, w.alloc (.cells #[.slice ao fl cap, .int .i64 x1, .int .i64 x2, .int .i64 x3] 24) = w0 := ⟨_, rfl⟩
  have A0 := Lib.hid (show Adds w w0 by rw [← hw0]; exact (Gr.new _ _).adds)
  have HB1 := Lib.hid (show BkS 24 w0 w.heap.size [.slice ao fl cap, .int .i64 x1, .int .i64 x2, .int .i64 x3] by rw [← hw0]; exact BkS.new _ _ _)
  have b0 : w0.cell? ⟨w.heap.size, 0, none⟩ = some (.slice ao fl cap) := HB1.out.cell 0
  have b1 : w0.cell? ⟨w.heap.size, 1, none⟩ = some (.int .i64 x1) := HB1.out.cell 1
  have b2 : w0.cell? ⟨w.heap.size, 2, none⟩ = some (.int .i64 x2) := HB1.out.cell 2
  have b3 : w0.cell? ⟨w.heap.size, 3, none⟩ = some (.int .i64 x3) := HB1.out.cell 3
  cases nb
  · go_enter Tryz.func47, Tryz.ntmps47
    go_wp2
    refine wp_scope_fwd 0 rfl ?_
    go_wp2_with (go_at_call 62; refine (HNu.out _ A0.out).mono ?_; rintro e w1 ⟨rfl, q⟩; have HA1 := Lib.hid (Adds.trans A0.out q); clear q)
    go_step3
    refine ⟨rfl, ?_⟩
    go_wp2
    rw [Exit.noGoto_ret]
    go_ret
    exact ⟨rfl, HA1.out⟩
  · cases wo with
    | none =>
      go_enter Tryz.func47, Tryz.ntmps47
      go_wp2
      refine wp_scope_fwd 0 rfl ?_
      go_wp2_with (first
        | (go_at_call 62; refine (HNu.out _ A0.out).mono ?_; rintro e w1 ⟨rfl, q⟩; have HA1 := Lib.hid (Adds.trans A0.out q); have qq := HB1.out.adds q; have c0 : w1.cell? ⟨w.heap.size, 0, none⟩ = some (.slice ao fl cap) := qq.cell 0; have c1 : w1.cell? ⟨w.heap.size, 1, none⟩ = some (.int .i64 x1) := qq.cell 1; have c2 : w1.cell? ⟨w.heap.size, 2, none⟩ = some (.int .i64 x2) := qq.cell 2; have c3 : w1.cell? ⟨w.heap.size, 3, none⟩ = some (.int .i64 x3) := qq.cell 3; clear q qq)
        | (go_at_call 63; refine (HWr.out _ HA1.out).mono ?_; rintro e w2 ⟨rfl, q⟩; dsimp only [wrV, wrS, Option.isSome]; have HA2 := Lib.hid (Adds.trans HA1.out q); clear q))
      try simp only [Exit.jump]
      go_ret
      exact ⟨rfl, Adds.trans HA2.out (Gr.new _ _).adds⟩
    | some x =>
      obtain ⟨xf, xp⟩ := x
      go_enter Tryz.func47, Tryz.ntmps47
      go_wp2
      refine wp_scope_fwd 0 rfl ?_
      go_wp2_with (first
        | (go_at_call 62; refine (HNu.out _ A0.out).mono ?_; rintro e w1 ⟨rfl, q⟩; have HA1 := Lib.hid (Adds.trans A0.out q); have qq := HB1.out.adds q; have c0 : w1.cell? ⟨w.heap.size, 0, none⟩ = some (.slice ao fl cap) := qq.cell 0; have c1 : w1.cell? ⟨w.heap.size, 1, none⟩ = some (.int .i64 x1) := qq.cell 1; have c2 : w1.cell? ⟨w.heap.size, 2, none⟩ = some (.int .i64 x2) := qq.cell 2; have c3 : w1.cell? ⟨w.heap.size, 3, none⟩ = some (.int .i64 x3) := qq.cell 3; clear q qq)
        | (go_at_call 63; refine (HWr.out _ HA1.out).mono ?_; rintro e w2 ⟨rfl, q⟩; dsimp only [wrV, wrS, Option.isSome]; have HA2 := Lib.hid (Adds.trans HA1.out q); clear q))
      go_step3
      refine ⟨rfl, ?_⟩
      go_wp2
      rw [Exit.noGoto_ret]
      go_ret
      exact ⟨rfl, Adds.trans HA2.out (Gr.new _ _).adds⟩
end Go.Proofs.YtdkgehhlikaocaaGreat
namespace Go.Proofs.YtdkgehhlikaocaaGreat
open Go Go.RowKit Go.Shelf

theorem res_bbS {P : Program} {fn : Func} {p q : Tmp} {ty tz : TypeId} (h : fn.results = #[.cell p ty, .cell q tz]) (tmps : Array Value) (w : World) (g g' : Nat) (cs ds : Array Value) (t t' : TypeId) (fr fr' : Nat × Nat) (d d' : TypeDesc) (hp : tmps.getD p undef = .pointer (some ⟨g, 0, none⟩)) (hq : tmps.getD q undef = .pointer (some ⟨g', 0, none⟩))
    (hg : w.heap[g]? = some (.cells cs t fr)) (hg' : w.heap[g']? = some (.cells ds t' fr')) (hu : P.underlying ty = some d) (hd : (match d with | .struct _ | .array _ _ => true | _ => false) = true) (hi : (P.info? ty).map (·.size) = some cs.size)
    (hu' : P.underlying tz = some d') (hd' : (match d' with | .struct _ | .array _ _ => true | _ => false) = true) (hi' : (P.info? tz).map (·.size) = some ds.size) : (results fn tmps).run P w = .ok (.tuple #[.agg cs, .agg ds]) w := by
  have hp' : tmps[p]?.getD undef = .pointer (some ⟨g, 0, none⟩) := by simpa using hp
  have hq' : tmps[q]?.getD undef = .pointer (some ⟨g', 0, none⟩) := by simpa using hq
  simp [results, h, hp', hq', asAddr, run_loadVar_row (P := P) w g t ty cs fr d hg hu hd hi, run_loadVar_row (P := P) w g' t' tz ds fr' d' hg' hu' hd' hi']
/-- The instruction of a place. -/
def insT (p : Pg) (x : Fr) : In := (p.1.getD x.1 zF).2.getD x.2.1 zI
/-- What next lays, so far. -/
def NxW (w : World) (f pc : Nat) (x : In) (l l' : Bool) (w' : World) : Prop := Adds w w' ∧ BkS 56 w' w.heap.size [.int .i64 (cond l x.1 0), .int .i64 (cond l x.2.1 0), .int .i64 (cond l x.2.2.1 0), .int .i64 (cond l x.2.2.2.1 0), .int .u32 (cond l x.2.2.2.2 0)] ∧ BkS 58 w' (w.heap.size + 1) [.int .i64 (cond l' (f : Int) 0), .int .i64 (cond l' (pc : Int) 0)]
section
variable {t : TypeId} {n b g cap : Nat} {w : World} {p : Pg} {fv lv : Value} {R : List (Fr × Value)} {x : Fr × Value} {res : UInt32}
set_option maxRecDepth 100000 in
set_option maxHeartbeats 4000000 in
theorem nextS_any (h : TopO t n w b p fv g cap R x res) (hok : ∀ f ∈ p.1, ∀ i ∈ f.2, OkIn i) (hf : x.1.1 < p.1.length) (hpc : x.1.2.1 < (p.1.getD x.1.1 zF).2.length) : Calls Tryz.prog 43 #[.pointer (some ⟨b, 0, none⟩)] w fun e w' => e = .returned (.tuple #[insV (insT p x.1), .agg #[.int .i64 (x.1.1 : Int), .int .i64 (x.1.2.1 : Int)]]) ∧ Adds w w' := by
  have HT := Lib.hid (fun (W : World) (ha : Adds w W) => topS_any (h.adds ha))
  have hF := h.fo.funcs hok
  obtain ⟨aof, cf, hfv, hf1, hf2, _⟩ := id hF
  unfold maxLen at hf2
  rw [hfv] at hF
  obtain ⟨g1, off, rfl, _, hat⟩ := hF.at hf
  obtain ⟨_, cv, k1, hc, _⟩ := hat
  obtain ⟨ac, cc, rfl, hc1, hc2⟩ := hc.form
  unfold maxLen at hc2
  obtain ⟨g2, off2, rfl, _, hx⟩ := hc.at hpc
  have q0 : w.cell? ⟨b, 0, none⟩ = some fv := h.bx.cell 0
  rw [hfv] at q0
  have q1 := h.cells.2.1
  have q2 := h.cells.2.2.1
  unfold insT
  obtain ⟨⟨i0, i1, i2, i3, i4⟩, hi⟩ : ∃ i, (p.1.getD x.1.1 zF).2.getD x.1.2.1 zI = i := ⟨_, rfl⟩
  rw [hi] at hx ⊢
  obtain ⟨x0, x1, x2, x3, x4⟩ := hx
  simp only at x0 x1 x2 x3 x4
  obtain ⟨k, hk⟩ : ∃ k, R.length = k := ⟨_, rfl⟩
  obtain ⟨nf, hnf⟩ : ∃ nf, p.1.length = nf := ⟨_, rfl⟩
  obtain ⟨cl, hcl⟩ : ∃ cl, (p.1.getD x.1.1 zF).2.length = cl := ⟨_, rfl⟩
  obtain ⟨f, hff⟩ : ∃ f, x.1.1 = f := ⟨_, rfl⟩
  obtain ⟨pc, hpp⟩ : ∃ pc, x.1.2.1 = pc := ⟨_, rfl⟩
  have hfI : (x.1.1 : Int) < (p.1.length : Int) := by omega
  have hpI : (x.1.2.1 : Int) < ((p.1.getD x.1.1 zF).2.length : Int) := by omega
  have hnI : (p.1.length : Int) ≤ 9223372036854775807 := by omega
  have hclI : ((p.1.getD x.1.1 zF).2.length : Int) ≤ 9223372036854775807 := by omega
  simp only [hk] at HT q1 q2
  simp only [hcl] at k1 hpI hclI
  simp only [hnf] at q0 hfI hnI
  simp only [hff, hpp] at q1 q2 k1 x0 x1 x2 x3 x4 hfI hpI ⊢
  have HC := Lib.hid (fun (W : World) (a : Adds w W) => And.intro (a.cellAt q0) (And.intro (a.cellAt q1) (And.intro (a.cellAt q2) (And.intro (a.cellAt k1) (And.intro (a.cellAt x0) (And.intro (a.cellAt x1) (And.intro (a.cellAt x2) (And.intro (a.cellAt x3) (a.cellAt x4)))))))))
  clear h hF hfv hf1 hf2 k1 hc hc1 hc2 x0 x1 x2 x3 x4 q0 q1 q2 hi hk hnf hcl hff hpp hf hpc
  obtain ⟨w1, hw1⟩ : ∃ w1, (w.alloc (.cells #[.int .i64 0, .int .i64 0, .int .i64 0, .int .i64 0, .int .u32 0] 56)).alloc (.cells #[.int .i64 0, .int .i64 0] 58) = w1 := ⟨_, rfl⟩
  have A1 := Lib.hid (show Adds w w1 by rw [← hw1]; exact Adds.trans (Adds.new _ _) (Adds.new _ _))
  have B1 := Lib.hid (show BkS 56 w1 w.heap.size [.int .i64 0, .int .i64 0, .int .i64 0, .int .i64 0, .int .u32 0] by rw [← hw1]; exact (BkS.new _ _ _).adds (Adds.new _ _))
  have B2 := Lib.hid (show BkS 58 w1 (w.heap.size + 1) [.int .i64 0, .int .i64 0] by rw [← hw1]; have h := BkS.new 58 (w.alloc (.cells #[.int .i64 0, .int .i64 0, .int .i64 0, .int .i64 0, .int .u32 0] 56)) [.int .i64 0, .int .i64 0]; simpa using h)
  have hmx : Tryz.prog.follows .mixedOrders = true := by kernel_rfl
  go_enter Tryz.func43, Tryz.ntmps43
  go_wp2_with (go_at_call 61; refine (HT.out _ A1.out).mono ?_; rintro e w2 ⟨rfl, m, hm⟩; have A12 := Lib.hid (show Adds w1 w2 by rw [hm]; exact Adds.drewN w1 m); clear hm; have A2 := Lib.hid (Adds.trans A1.out A12.out))
  refine (wpIn_wide (n := 6)).1 ?_
  refine wpIn_region_inv (fun L b' w3 => b' = ({ tmps := #[Value.pointer (some { block := b, off := 0 }), undef, Value.pointer (some { block := w.heap.size, off := 0 }), Value.pointer (some { block := w.heap.size + 1, off := 0 }), Value.pointer (some { block := g, off := k * 4 }), Value.pointer (some { block := b, off := 0 }), Value.pointer (some { block := g, off := k * 4 }), sel2 (L 0) (Value.pointer (some { block := b, off := 0 })) (undef), sel2 (L 1) (Value.pointer (some { block := b, off := 0 })) (undef), sel2 (L 2) (Value.pointer (some { block := b, off := 0 })) (undef), sel2 (L 3) (Value.pointer (some { block := b, off := 0 })) (undef), sel2 (L 4) (Value.slice (some { block := g1, off := off }) nf cf) (undef), sel2 (L 5) (Value.pointer (some { block := g, off := k * 4 })) (undef), sel2 (L 6) (Value.pointer (some { block := g, off := k * 4 })) (undef), sel2 (L 7) (Value.pointer (some { block := g, off := k * 4 })) (undef), sel2 (L 8) (Value.int IntKind.i64 (f : Int)) (undef), sel2 (L 9) (Value.pointer (some { block := g1, off := off + f * 2 })) (undef), sel2 (L 10) (Value.pointer (some { block := g1, off := off + f * 2 + 1 })) (undef), sel2 (L 11) (Value.slice (some { block := g2, off := off2 }) cl cc) (undef), sel2 (L 12) (Value.pointer (some { block := g, off := k * 4 })) (undef), sel2 (L 13) (Value.pointer (some { block := g, off := k * 4 })) (undef), sel2 (L 14) (Value.pointer (some { block := g, off := k * 4 + 1 })) (undef), sel2 (L 15) (Value.int IntKind.i64 (pc : Int)) (undef), sel2 (L 16) (Value.pointer (some { block := g2, off := off2 + pc * 5 })) (undef), sel2 (L 17) (Value.agg #[Value.int IntKind.i64 i0, Value.int IntKind.i64 i1, Value.int IntKind.i64 i2, Value.int IntKind.i64 i3, Value.int IntKind.u32 i4]) (undef), sel2 (L 18) (Value.pointer (some { block := g, off := k * 4 })) (undef), sel2 (L 19) (Value.pointer (some { block := g, off := k * 4 })) (undef), sel2 (L 20) (Value.pointer (some { block := g, off := k * 4 })) (undef), sel2 (L 21) (Value.int IntKind.i64 (f : Int)) (undef), sel2 (L 22) (Value.pointer (some { block := g, off := k * 4 })) (undef), sel2 (L 23) (Value.pointer (some { block := g, off := k * 4 })) (undef), sel2 (L 24) (Value.pointer (some { block := g, off := k * 4 + 1 })) (undef), sel2 (L 25) (Value.int IntKind.i64 (pc : Int)) (undef), sel2 (L 26) (Value.agg #[Value.int IntKind.i64 (f : Int), Value.int IntKind.i64 (pc : Int)]) (undef)], defers := [] } : Act) ∧ NxW w f pc (i0, i1, i2, i3, i4) (L 27) (L 28) w3) hmx (by kernel_rfl) ?inv0 ?step ?fin
  case inv0 => exact ⟨rfl, Adds.trans A2.out (Adds.drew _), B1.out.adds (Adds.trans A12.out (Adds.drew _)), B2.out.adds (Adds.trans A12.out (Adds.drew _))⟩
  case step =>
    rintro L b' w3 i o ho hL hC he ⟨rfl, hP⟩
    clear hC
    have HP := Lib.hid hP
    clear hP
    obtain ⟨c0, c1, c2, c3, c4, c5, c6, c7, c8⟩ := HC.out _ HP.out.1
    rcases i with _ | _ | _ | _ | _ | _ | _ | _ | _ | _ | _ | _ | _ | _ | _ | _ | _ | _ | _ | _ | _ | _ | _ | _ | _ | _ | _ | _ | _ | i
    · simp only [List.getElem?_cons_zero, Option.some.injEq] at ho
      subst ho
      try simp [Region.binds] at he
      try simp only []
      gi_wp2
      exact ⟨by simp [sel2, *], by first | exact HP.out | simpa [he] using HP.out⟩
    · simp only [List.getElem?_cons_zero, List.getElem?_cons_succ, Option.some.injEq] at ho
      subst ho
      try simp [Region.binds] at he
      try simp only [he, sel2_t]
      gi_wp2
      exact ⟨by simp [sel2, *], by first | exact HP.out | simpa [he] using HP.out⟩
    · simp only [List.getElem?_cons_zero, List.getElem?_cons_succ, Option.some.injEq] at ho
      subst ho
      try simp [Region.binds] at he
      try simp only [he, sel2_t]
      gi_wp2
      exact ⟨by simp [sel2, *], by first | exact HP.out | simpa [he] using HP.out⟩
    · simp only [List.getElem?_cons_zero, List.getElem?_cons_succ, Option.some.injEq] at ho
      subst ho
      try simp [Region.binds] at he
      try simp only [he, sel2_t]
      gi_wp2
      exact ⟨by simp [sel2, *], by first | exact HP.out | simpa [he] using HP.out⟩
    · simp only [List.getElem?_cons_zero, List.getElem?_cons_succ, Option.some.injEq] at ho
      subst ho
      try simp [Region.binds] at he
      try simp only [he, sel2_t]
      gi_wp2
      exact ⟨by simp [sel2, *], by first | exact HP.out | simpa [he] using HP.out⟩
    · simp only [List.getElem?_cons_zero, List.getElem?_cons_succ, Option.some.injEq] at ho
      subst ho
      try simp [Region.binds] at he
      try simp only []
      gi_wp2
      exact ⟨by simp [sel2, *], by first | exact HP.out | simpa [he] using HP.out⟩
    · simp only [List.getElem?_cons_zero, List.getElem?_cons_succ, Option.some.injEq] at ho
      subst ho
      try simp [Region.binds] at he
      try simp only [he, sel2_t]
      gi_wp2
      exact ⟨by simp [sel2, *], by first | exact HP.out | simpa [he] using HP.out⟩
    · simp only [List.getElem?_cons_zero, List.getElem?_cons_succ, Option.some.injEq] at ho
      subst ho
      try simp [Region.binds] at he
      try simp only [he, sel2_t]
      gi_wp2
      exact ⟨by simp [sel2, *], by first | exact HP.out | simpa [he] using HP.out⟩
    · simp only [List.getElem?_cons_zero, List.getElem?_cons_succ, Option.some.injEq] at ho
      subst ho
      try simp [Region.binds] at he
      try simp only [he, sel2_t]
      gi_wp2
      exact ⟨by simp [sel2, *], by first | exact HP.out | simpa [he] using HP.out⟩
    · simp only [List.getElem?_cons_zero, List.getElem?_cons_succ, Option.some.injEq] at ho
      subst ho
      try simp [Region.binds] at he
      try simp only [he, sel2_t]
      gi_wp2
      exact ⟨by simp [sel2, *], by first | exact HP.out | simpa [he] using HP.out⟩
    · simp only [List.getElem?_cons_zero, List.getElem?_cons_succ, Option.some.injEq] at ho
      subst ho
      try simp [Region.binds] at he
      try simp only [he, sel2_t]
      gi_wp2
      exact ⟨by simp [sel2, *], by first | exact HP.out | simpa [he] using HP.out⟩
    · simp only [List.getElem?_cons_zero, List.getElem?_cons_succ, Option.some.injEq] at ho
      subst ho
      try simp [Region.binds] at he
      try simp only [he, sel2_t]
      gi_wp2
      exact ⟨by simp [sel2, *], by first | exact HP.out | simpa [he] using HP.out⟩
    · simp only [List.getElem?_cons_zero, List.getElem?_cons_succ, Option.some.injEq] at ho
      subst ho
      try simp [Region.binds] at he
      try simp only []
      gi_wp2
      exact ⟨by simp [sel2, *], by first | exact HP.out | simpa [he] using HP.out⟩
    · simp only [List.getElem?_cons_zero, List.getElem?_cons_succ, Option.some.injEq] at ho
      subst ho
      try simp [Region.binds] at he
      try simp only [he, sel2_t]
      gi_wp2
      exact ⟨by simp [sel2, *], by first | exact HP.out | simpa [he] using HP.out⟩
    · simp only [List.getElem?_cons_zero, List.getElem?_cons_succ, Option.some.injEq] at ho
      subst ho
      try simp [Region.binds] at he
      try simp only [he, sel2_t]
      gi_wp2
      exact ⟨by simp [sel2, *], by first | exact HP.out | simpa [he] using HP.out⟩
    · simp only [List.getElem?_cons_zero, List.getElem?_cons_succ, Option.some.injEq] at ho
      subst ho
      try simp [Region.binds] at he
      try simp only [he, sel2_t]
      gi_wp2
      exact ⟨by simp [sel2, *], by first | exact HP.out | simpa [he] using HP.out⟩
    · simp only [List.getElem?_cons_zero, List.getElem?_cons_succ, Option.some.injEq] at ho
      subst ho
      try simp [Region.binds] at he
      try simp only [he, sel2_t]
      gi_wp2
      exact ⟨by simp [sel2, *], by first | exact HP.out | simpa [he] using HP.out⟩
    · simp only [List.getElem?_cons_zero, List.getElem?_cons_succ, Option.some.injEq] at ho
      subst ho
      try simp [Region.binds] at he
      try simp only [he, sel2_t]
      gi_wp2
      exact ⟨by simp [sel2, *], by first | exact HP.out | simpa [he] using HP.out⟩
    · simp only [List.getElem?_cons_zero, List.getElem?_cons_succ, Option.some.injEq] at ho
      subst ho
      try simp [Region.binds] at he
      try simp only []
      gi_wp2
      exact ⟨by simp [sel2, *], by first | exact HP.out | simpa [he] using HP.out⟩
    · simp only [List.getElem?_cons_zero, List.getElem?_cons_succ, Option.some.injEq] at ho
      subst ho
      try simp [Region.binds] at he
      try simp only [he, sel2_t]
      gi_wp2
      exact ⟨by simp [sel2, *], by first | exact HP.out | simpa [he] using HP.out⟩
    · simp only [List.getElem?_cons_zero, List.getElem?_cons_succ, Option.some.injEq] at ho
      subst ho
      try simp [Region.binds] at he
      try simp only [he, sel2_t]
      gi_wp2
      exact ⟨by simp [sel2, *], by first | exact HP.out | simpa [he] using HP.out⟩
    · simp only [List.getElem?_cons_zero, List.getElem?_cons_succ, Option.some.injEq] at ho
      subst ho
      try simp [Region.binds] at he
      try simp only [he, sel2_t]
      gi_wp2
      exact ⟨by simp [sel2, *], by first | exact HP.out | simpa [he] using HP.out⟩
    · simp only [List.getElem?_cons_zero, List.getElem?_cons_succ, Option.some.injEq] at ho
      subst ho
      try simp [Region.binds] at he
      try simp only []
      gi_wp2
      exact ⟨by simp [sel2, *], by first | exact HP.out | simpa [he] using HP.out⟩
    · simp only [List.getElem?_cons_zero, List.getElem?_cons_succ, Option.some.injEq] at ho
      subst ho
      try simp [Region.binds] at he
      try simp only [he, sel2_t]
      gi_wp2
      exact ⟨by simp [sel2, *], by first | exact HP.out | simpa [he] using HP.out⟩
    · simp only [List.getElem?_cons_zero, List.getElem?_cons_succ, Option.some.injEq] at ho
      subst ho
      try simp [Region.binds] at he
      try simp only [he, sel2_t]
      gi_wp2
      exact ⟨by simp [sel2, *], by first | exact HP.out | simpa [he] using HP.out⟩
    · simp only [List.getElem?_cons_zero, List.getElem?_cons_succ, Option.some.injEq] at ho
      subst ho
      try simp [Region.binds] at he
      try simp only [he, sel2_t]
      gi_wp2
      exact ⟨by simp [sel2, *], by first | exact HP.out | simpa [he] using HP.out⟩
    · simp only [List.getElem?_cons_zero, List.getElem?_cons_succ, Option.some.injEq] at ho
      subst ho
      try simp [Region.binds] at he
      try simp only [he, sel2_t]
      gi_wp2
      exact ⟨by simp [sel2, *], by first | exact HP.out | simpa [he] using HP.out⟩
    · simp only [List.getElem?_cons_zero, List.getElem?_cons_succ, Option.some.injEq] at ho
      subst ho
      try simp [Region.binds] at he
      have hB := HP.out.2.1
      rw [hL] at hB
      simp only [cond_false] at hB
      have z0 := hB.cell 0; have z1 := hB.cell 1; have z2 := hB.cell 2; have z3 := hB.cell 3; have z4 := hB.cell 4
      have y0 := hB.free 0; have y1 := hB.free 1; have y2 := hB.free 2; have y3 := hB.free 3; have y4 := hB.free 4
      have HB := Lib.hid hB
      clear hB
      try simp only [he, sel2_t]
      gi_wp2
      exact ⟨by simp [sel2, *], Adds.set (Adds.set (Adds.set (Adds.set (Adds.set HP.out.1 (Nat.le_refl _) _ _) (Nat.le_refl _) _ _) (Nat.le_refl _) _ _) (Nat.le_refl _) _ _) (Nat.le_refl _) _ _, by simpa using ((((HB.out.set 0 (.int .i64 i0)).set 1 (.int .i64 i1)).set 2 (.int .i64 i2)).set 3 (.int .i64 i3)).set 4 (.int .u32 i4), by simpa using ((((HP.out.2.2.other (c := w.heap.size) (i := 0) (by omega) (.int .i64 i0)).other (c := w.heap.size) (i := 1) (by omega) (.int .i64 i1)).other (c := w.heap.size) (i := 2) (by omega) (.int .i64 i2)).other (c := w.heap.size) (i := 3) (by omega) (.int .i64 i3)).other (c := w.heap.size) (i := 4) (by omega) (.int .u32 i4)⟩
    · simp only [List.getElem?_cons_zero, List.getElem?_cons_succ, Option.some.injEq] at ho
      subst ho
      try simp [Region.binds] at he
      have hB := HP.out.2.2
      rw [hL] at hB
      simp only [cond_false] at hB
      have z0 := hB.cell 0; have z1 := hB.cell 1
      have y0 := hB.free 0; have y1 := hB.free 1
      have HB := Lib.hid hB
      clear hB
      try simp only [he, sel2_t]
      gi_wp2
      exact ⟨by simp [sel2, *], Adds.set (Adds.set HP.out.1 (by omega) _ _) (by omega) _ _, (by have q := (HP.out.2.1.other (c := w.heap.size + 1) (i := 0) (by omega) (.int .i64 (f : Int))).other (c := w.heap.size + 1) (i := 1) (by omega) (.int .i64 (pc : Int)); first | exact q | simpa using q | simpa [he] using q), by simpa using (HB.out.set 0 (.int .i64 (f : Int))).set 1 (.int .i64 (pc : Int))⟩
    · simp at ho
  case fin =>
    rintro b' w3 ⟨rfl, hP⟩
    simp only [List.length_cons, List.length_nil, Nat.reduceAdd, Nat.reduceLT, decide_true, sel2_t] at hP ⊢
    have HP := Lib.hid hP
    clear hP
    go_wp2
    try simp only [Exit.inBlock, Exit.then]
    refine bodyPost_ret (res_bbS rfl _ _ _ _ _ _ _ _ _ _ _ _ rfl rfl HP.out.2.1 HP.out.2.2 Tryz.underlying56 rfl (by kernel_rfl) Tryz.underlying58 rfl (by kernel_rfl)) rfl ?_
    exact ⟨rfl, HP.out.1⟩
end
end Go.Proofs.YtdkgehhlikaocaaGreat
namespace Go.Proofs.YtdkgehhlikaocaaGreat
open Go Go.RowKit Go.Shelf

theorem infoFr : (Tryz.prog.info? 76).map (fun i => (i.zero, i.size, i.bytes)) = some (some (.agg #[.int .i64 0, .int .i64 0, .int .i64 0, .slice none 0 0]), 4, 48) := by kernel_rfl
theorem run_mk32 (n : Nat) (hn : n ≤ 65536) (w : World) :
    (Instr.makeSlice 25 (.int .i64 (n : Int)) (.int .i64 (n : Int))).run Tryz.prog w = .ok (.slice (some ⟨w.heap.size, 0, none⟩) n n) (w.alloc (.cells (List.replicate n (.int .u32 0)).toArray 30)) := by
  obtain ⟨i0, hi, hz, hs, hb⟩ := info_parts (show (Tryz.prog.info? 30).map (fun i => (i.zero, i.size, i.bytes)) = some (some (.int .u32 0), 1, 4) by kernel_rfl)
  have h := run_make (P := Tryz.prog) w 25 30 i0 (.int .u32 0) Tryz.underlying25 hi hz .i64 .i64 n n (by omega) (by omega) (by rw [hb]; omega) (by omega)
  rw [hs] at h
  have e : madeCells #[.int .u32 0] n = (List.replicate n (.int .u32 0)).toArray := by
    unfold madeCells
    apply Array.ext
    · simp
    · intro i h1 h2
      simp [Nat.mod_one]
  rw [← e]
  simpa [Value.cells] using h
theorem CopyO.grownT {n : Nat} {w w' : World} {v : Value} {fs : List Fu} {row : Option Nat} (h : CopyO n w v fs) (hg : w.grownBy w' row) (hrow : ∀ g, row = some g → ∃ cur, BkS 76 w g cur) : CopyO n w' v fs := by
  obtain ⟨r, hR, hl, hi⟩ := h
  refine ⟨r, ownsRow_grown hR hg (fun g e e' => ?_), hl, fun i hlt => ⟨(hi i hlt).1, ownsRow_grown (hi i hlt).2 hg (fun g e e' => ?_)⟩⟩
  · obtain ⟨cur, hc⟩ := hrow g e'
    exact own_neT hR hc (by decide) e
  · obtain ⟨cur, hc⟩ := hrow g e'
    exact own_neT (hi i hlt).2 hc (by decide) e
/-- The list of frames is another one, at the same address or in new memory. -/
theorem PileO.push {t : TypeId} {n b : Nat} {w w' : World} {p : Pg} {fv lv lv' : Value} {R R' : List (Fr × Value)} {res : UInt32} (h : PileO t n w b p fv lv R res) (hg : w.grownBy w' lv.ownBlock) (ho : FrsO n w' lv' R') : PileO t n (w'.setCell ⟨b, 4, none⟩ lv') b p fv lv' R' res := by
  obtain ⟨t1, t2, t3, t4⟩ := h.tne
  have bx := h.bx.grown hg (own_neT h.lo.row h.bx t1)
  have fo := h.fo.grownT hg (fun g e => ownB h.lo.row e)
  have ht := TnS.setCell b 4 w' lv'
  exact ⟨h.ht, bx.set 4 lv', fo.blk bx t3 t4 ht, ho.blk bx t1 t2 ht, h.hn⟩
/-- append of one frame. -/
theorem wpFr_append1 {w : World} {ops : Array Oper} {rest : List Oper} {o : Oper} {a : Act} {Q : Exit → Act → World → Prop} (hgd : o.guard = none) (s x : Operand)
    (ho : o.op = .call { callee := .builtin .append, args := #[s, x], argTypes := #[68, 68] }) (base : Nat) (v : Value) (R : List (Fr × Value)) (y : Fr × Value) (hs : a.eval s = v) (hown : FrsO base w v R) (hy : RegO base w y.2 y.1.2.2.2) (hfar : ∀ x ∈ R, Apart x y)
    (k : Nat) (hx : a.eval x = .slice (some ⟨k, 0, none⟩) 1 1) (hk : k = w.heap.size)
    (hlen : R.length ≤ 1000000) (hbase : base ≤ w.heap.size)
    (h : ∀ v' w', FrsO base w' v' (R ++ [y]) → w.grownBy w' v.ownBlock → wpList Tryz.prog ops Q rest (a.put o.dst v') w') : wpList Tryz.prog ops Q (o :: rest) a (w.alloc (.cells #[.int .i64 (y.1.1 : Int), .int .i64 (y.1.2.1 : Int), .int .i64 y.1.2.2.1, y.2] 76)) := by
  subst hk
  obtain ⟨i0, hi, hz0, hz1, hz2⟩ := info_parts infoFr
  have hone : ∀ u ∈ frC y, u.oneCell' = true := by
    obtain ⟨ao, cap, e, _⟩ := hy.form0
    intro u hu
    simp at hu
    rcases hu with rfl | rfl | rfl | rfl
    · rfl
    · rfl
    · rfl
    · rw [e]; rfl
  refine wpList_append_own _ hgd s x 68 ho base 76 i0 (.agg #[.int .i64 0, .int .i64 0, .int .i64 0, .slice none 0 0]) 4 48 Tryz.underlying68 hi hz0 hz1 hz2 rfl (by decide) v R.length (R.flatMap frC) hs (World.ownsRow.alloc hown.row _) ⟨w.heap.size, 0, none⟩ 1 1 (frC y) hx rfl (cell_newL _ _ _)
    hone (by unfold maxLen; omega) (by omega) (by simp; omega) fun v' w' h1 h2 _ => h v' w' ⟨?_, ?_, ?_⟩ ?_
  · rw [List.length_append, List.flatMap_append]; simpa using h1
  · have keep : ∀ u d, RegO base w u d → RegO base w' u d := fun u d hd =>
      ownsRow_grown (ownsRow_adds hd ((Below.refl _ _).alloc (Nat.le_refl _) _)) h2 (fun g hg e => ownsRow_ne hd hown.row (by decide) g hg e)
    intro z hz
    rcases List.mem_append.1 hz with hz | hz
    · exact keep _ _ (hown.reg z hz)
    · obtain rfl := List.mem_singleton.1 hz
      exact keep _ _ hy
  · rw [List.pairwise_append]
    exact ⟨hown.far, List.pairwise_singleton _ _, fun z hz z' hz' => by obtain rfl := List.mem_singleton.1 hz'; exact hfar z hz⟩
  · exact ⟨h2.os, h2.tape, h2.output, Nat.le_trans (by simp) h2.size, fun i hi hne => (h2.block i (by simp; omega) hne).trans (Below.heap_alloc _ _ i hi)⟩
/-- Registers in new memory: words, and noughts behind them. -/
def newR (ws : List UInt32) (r : Nat) : List UInt32 := ws ++ List.replicate (r - ws.length) 0
theorem newR_splice (ws : List UInt32) (r : Nat) : splice (List.replicate r (.int .u32 0)) 0 (ws.map cellV) = (newR ws r).map cellV := by
  unfold splice newR
  simp [cellV]
theorem newR_len {ws : List UInt32} {r : Nat} (h : ws.length ≤ r) : (newR ws r).length = r := by unfold newR; simp; omega
/-- copy of words into a new row of noughts. -/
theorem run_cp {m : Nat} (w w1 : World) (ao : Option Addr) (cap r : Nat) (ws : List UInt32) (hw : Cells32 m w1 (.slice ao ws.length cap) ws) (hl : ws.length ≤ r) (g : Nat) (hg : w1.heap[g]? = some (.cells (List.replicate r (.int .u32 0)).toArray 30 (0, 0))) (hw1 : Adds w w1) (hgw : w.heap.size ≤ g) :
    ∃ w2 z, (Builtin.copy_ #[25, 25] 3 #[.slice (some ⟨g, 0, none⟩) r r, .slice ao ws.length cap]).run Tryz.prog w1 = .ok z w2 ∧ Adds w w2 ∧ w2.heap[g]? = some (.cells ((newR ws r).map cellV).toArray 30 (0, 0)) ∧ Below g w1 w2 ∧ ∀ k, k ≠ g → w2.heap[k]? = w1.heap[k]? := by
  obtain ⟨ao', cap', e, h1, h2, h3⟩ := hw
  simp only [Value.slice.injEq, true_and] at e
  obtain ⟨rfl, rfl⟩ := e
  by_cases h0 : ws = []
  · subst h0
    have h := run_copy_none (P := Tryz.prog) w1 25 25 3 30 (some ⟨g, 0, none⟩) ao r r 0 cap Tryz.underlying25 (by kernel_rfl) (by simp)
    refine ⟨w1, _, h, hw1, ?_, Below.refl _ _, fun _ _ => rfl⟩
    rw [hg]
    simp [newR, cellV]
  · obtain ⟨bb, off, rfl, hb, hc⟩ := h3 h0
    have h := run_copy_row (P := Tryz.prog) w1 25 25 3 30 g 0 r r ⟨bb, off, none⟩ ws.length cap (List.replicate r (.int .u32 0)).toArray 30 (ws.map cellV) Tryz.underlying25 (by kernel_rfl) hg (by rw [List.length_map]; exact (Nat.min_eq_left hl).symm)
      (by
        intro j v hv
        rw [List.getElem?_map] at hv
        have hj : j < ws.length := by
          rcases Nat.lt_or_ge j ws.length with hj | hj
          · exact hj
          · rw [List.getElem?_eq_none hj] at hv; cases hv
        rw [List.getElem?_eq_getElem hj] at hv
        simp only [Option.map_some, Option.some.injEq] at hv
        subst hv
        have hadd : (⟨bb, off, none⟩ : Addr).add j = ⟨bb, off + j, none⟩ := by unfold Addr.add; split <;> simp_all
        rw [hadd, hc j hj, List.getD_eq_getElem?_getD, List.getElem?_eq_getElem hj]
        rfl)
      (by simp; omega) (by intro u hu; obtain ⟨z, _, rfl⟩ := List.mem_map.1 hu; rfl)
    refine ⟨_, _, h, ?_, ?_, ?_, fun k hk => setRow_other w1 g k _ hk⟩
    · exact Below.trans hw1 ⟨rfl, rfl, rfl, by simp [World.setRow], fun k hk => setRow_other w1 g k _ (by omega)⟩
    · rw [setRow_heap w1 g _ _ _ _ hg]
      have e := newR_splice ws r
      unfold splice at e
      simpa using congrArg (fun l => some (Obj.cells l.toArray 30 (0, 0))) e
    · exact ⟨rfl, rfl, rfl, by simp [World.setRow], fun k hk => setRow_other w1 g k _ (by omega)⟩
section
variable {t : TypeId} {n b : Nat} {w : World} {p : Pg} {fv lv : Value} {R : List (Fr × Value)} {res : UInt32}
set_option maxRecDepth 100000 in
set_option maxHeartbeats 4000000 in
theorem enterS_any {m : Nat} (h : PileO t n w b p fv lv R res) (hok : ∀ f ∈ p.1, ∀ i ∈ f.2, OkIn i) (f : Nat) (hf : f < p.1.length) (r : Nat) (hr : (p.1.getD f zF).1 = (r : Int)) (hr2 : r ≤ 65536) (dest : Int) (wv : Value) (ws : List UInt32) (hw : Cells32 m w wv ws) (hl : ws.length ≤ r) (hR : R.length ≤ 1000000) (hn : n ≤ w.heap.size) :
    Calls Tryz.prog 49 #[.pointer (some ⟨b, 0, none⟩), .int .i64 (f : Int), .int .i64 dest, wv] w fun e w' => e = .returned (.tuple #[]) ∧ (∃ lv' rv, PileO t n w' b p fv lv' (R ++ [((f, 0, dest, newR ws r), rv)]) res) ∧ Low n w w' := by
  obtain ⟨aol, cpl, rfl, _, _⟩ := h.lo.form
  have HP := Lib.hid h
  have hF := h.fo.funcs hok
  obtain ⟨aof, cf, hfv, hf1, hf2, _⟩ := id hF
  unfold maxLen at hf2
  rw [hfv] at hF
  obtain ⟨g1, off, rfl, _, hat⟩ := hF.at hf
  have k1 := hat.1
  rw [hr] at k1
  have q0 : w.cell? ⟨b, 0, none⟩ = some fv := h.bx.cell 0
  rw [hfv] at q0
  have hfI : (f : Int) < (p.1.length : Int) := by omega
  have hnI : (p.1.length : Int) ≤ 9223372036854775807 := by omega
  obtain ⟨nf, hnf⟩ : ∃ nf, p.1.length = nf := ⟨_, rfl⟩
  rw [hnf] at q0 hfI hnI
  have HW := Lib.hid hw
  obtain ⟨ao, cap, rfl, hw1, hw2, hw3⟩ := hw
  have HW3 := Lib.hid hw3
  have hmk := run_mk32 r hr2 w
  have HL := Lib.hid hl
  have HR2 := Lib.hid hr2
  have HLen := Lib.hid hR
  have HN := Lib.hid hn
  obtain ⟨w1, hw1e⟩ : ∃ w1, w.alloc (.cells (List.replicate r (.int .u32 0)).toArray 30) = w1 := ⟨_, rfl⟩
  rw [hw1e] at hmk
  have HB1 := Lib.hid (show Adds w w1 by rw [← hw1e]; exact Adds.new _ _)
  have HG1 := Lib.hid (show w1.heap[w.heap.size]? = some (.cells (List.replicate r (.int .u32 0)).toArray 30 (0, 0)) by rw [← hw1e]; exact heap_new w _)
  obtain ⟨w2, z2, hcp, a2, hh2, _, hot⟩ := run_cp w w1 ao cap r ws (HW.out.here.adds HB1.out) hl w.heap.size HG1.out HB1.out (Nat.le_refl _)
  have HA2 := Lib.hid a2
  have HH2 := Lib.hid hh2
  clear h hF hfv hf1 hf2 hat hw1 hw2 hw3 hr2 hl hR hn hr hf hnf hw1e a2 hh2 hot
  obtain ⟨wl, hwl⟩ : ∃ wl, ws.length = wl := ⟨_, rfl⟩
  have HWl := Lib.hid hwl
  rw [hwl] at hcp ⊢
  clear hwl
  go_enter Tryz.func49, Tryz.ntmps49
  have HP2 := Lib.hid (HP.out.adds HA2.out)
  have c4 := HP2.out.bx.cell 4
  have HRg := Lib.hid (show RegO n w2 (.slice (some ⟨w.heap.size, 0, none⟩) r r) (newR ws r) from by
    unfold RegO
    have hnl := newR_len HL.out
    refine ⟨by simp, .inr ⟨w.heap.size, r, ((newR ws r).map cellV).toArray, by rw [hnl], HN.out, HH2.out, by omega, by have := HR2.out; unfold maxLen; omega, by simp [hnl], by rw [hnl, Nat.mul_one, List.take_of_length_le (by simp [hnl])]⟩⟩)
  have HFar := Lib.hid (show ∀ x ∈ R, Apart x ((f, 0, dest, newR ws r), .slice (some ⟨w.heap.size, 0, none⟩) r r) from fun x hx g e e' => by
    have h1 := (World.ownsRow.lt (HP.out.lo.reg x hx) g e).2
    simp only [Value.ownBlock, Option.some.injEq] at e'
    omega)
  have HT := Lib.hid HP2.out.tne
  obtain ⟨rl, hrl⟩ : ∃ rl, R.length = rl := ⟨_, rfl⟩
  have HRl := Lib.hid hrl
  rw [hrl] at c4
  have HP3 := Lib.hid (show PileO t n w2 b p _ (.slice aol rl cpl) R res from by rw [← hrl]; exact HP2.out)
  clear hrl HP2
  go_wp2_with (at_builtin; refine wpFr_append1 rfl (.tmp 26) (.tmp 31) rfl n _ R ((f, 0, dest, newR ws r), .slice (some ⟨w.heap.size, 0, none⟩) r r) rfl (by exact HP3.out.lo) HRg.out HFar.out _ rfl (by simp) HLen.out (by exact Nat.le_trans HN.out HA2.out.size) ?_; intro v' w4 ho hg; have HP4 := Lib.hid (HP3.out.push hg ho); have bx4 := HP3.out.bx.grown hg (own_neT HP3.out.lo.row HP3.out.bx HT.out.1); have d4 := bx4.cell 4; have f4 := bx4.free 4; have HB4 := Lib.hid (show Low n w w4 from Low.grown (Low.mono HA2.out HN.out) hg (Nat.le_trans HN.out HA2.out.size) (fun k hk => ⟨(World.ownsRow.lt HP3.out.lo.row k hk).1, _, _, (ownB HP3.out.lo.row hk).choose_spec, .inr (.inr (.inl rfl))⟩)); obtain ⟨aov, cpv, ev, _, _⟩ := ho.form; simp only [List.length_append, List.length_singleton] at ev; subst ev; have BX4 := Lib.hid bx4; clear bx4 ho hg)
  go_end0
  exact ⟨by simp, ⟨_, _, HP4.out⟩, HB4.out.set BX4.out HP3.out.myT HP3.out.hn _⟩
end
end Go.Proofs.YtdkgehhlikaocaaGreat
