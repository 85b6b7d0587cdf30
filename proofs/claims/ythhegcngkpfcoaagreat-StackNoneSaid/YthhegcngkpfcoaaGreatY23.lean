/- Merged: G2. -/
import Derived.Test.YthhegcngkpfcoaaGreatY22
namespace Go.Proofs.YthhegcngkpfcoaaGreat
open Go Go.RowKit Go.Shelf
section
variable {P : Program} {ops : Array Oper} {C : World → Prop} {R : World → World → Prop} {keys : List Tmp} {F : Tmp → Value → World → Prop}
/-- A call with a known value that is handed two slots of which the predicate alone is known. -/
theorem stepL_call2 {o : Oper} {A : Act} {K : Act → Prop} {v : Value} {f : FuncId} {d e : Tmp} (args : Value → Value → Array Value) (hk : isKey keys o = false) (hl : lk ops keys o = [d, e])
    (hrun : ∀ w u x, C w → F d u w → F e x w → Region.wanted o (yielded ops ((A.put (some d) u).put (some e) x).tmps) = true ∧ (execOp ((A.put (some d) u).put (some e) x).eval o).run P w = .ok (.enter f (args u x)) w)
    (hc : ∀ w u x, C w → F d u w → F e x w → Calls P f (args u x) w fun z w' => z = .returned v ∧ R w w') (h : K (A.put o.dst v)) : stepL P ops C R keys F o A K := by
  unfold stepL
  rw [if_neg (by rw [hk]; simp)]
  refine ⟨v, fun w hcw => ?_, h⟩
  rw [hl]
  intro u hu x hx
  obtain ⟨h1, h2⟩ := hrun w u x hcw hu hx
  show if _ then _ else _
  rw [if_pos h1, h2]
  exact (hc w u x hcw hu hx).mono fun e w' ⟨he, hr⟩ => ⟨v, he, rfl, hr⟩
end
theorem IntsW.lit (w : World) (l : List Int) (hl : l.length ≤ 1000) (cs : Array Value) (hc : cs = (l.map (Value.int .i64)).toArray) (t : TypeId) : IntsW (w.alloc (.cells cs t)) (.slice (some ⟨w.heap.size, 0, none⟩) l.length l.length) l := by
  subst hc
  refine ⟨hl, _, _, rfl, fun i hi => ?_⟩
  rw [cell_of_row _ w.heap.size i _ _ _ (heap_new w _)]
  simp [hi]
section
variable {A : Act} {o : Oper}
theorem mkI1_run {x : Operand} {r : Int} (hop : o.op = .buildSlice 140 1 #[(0, x)]) (hx : A.eval x = .int .i64 r) (W : World) :
    (execOp A.eval o).run Tryz.prog W = .ok (.value (.slice (some ⟨W.heap.size, 0, none⟩) 1 1)) (W.alloc (.cells #[.int .i64 r] 3)) := by
  have h : (Instr.buildSlice 140 1 #[(0, .int .i64 r)]).run Tryz.prog W = .ok (.slice (some ⟨W.heap.size, 0, none⟩) 1 1) (W.alloc (.cells #[.int .i64 r] 3)) := by kernel_rfl
  simp [execOp, hop, hx, h, Result.andThen]
theorem mkI3_run {x y z : Operand} {r s t : Int} (hop : o.op = .buildSlice 140 3 #[(0, x), (1, y), (2, z)]) (hx : A.eval x = .int .i64 r) (hy : A.eval y = .int .i64 s) (hz : A.eval z = .int .i64 t) (W : World) :
    (execOp A.eval o).run Tryz.prog W = .ok (.value (.slice (some ⟨W.heap.size, 0, none⟩) 3 3)) (W.alloc (.cells #[.int .i64 r, .int .i64 s, .int .i64 t] 3)) := by
  have h : (Instr.buildSlice 140 3 #[(0, .int .i64 r), (1, .int .i64 s), (2, .int .i64 t)]).run Tryz.prog W = .ok (.slice (some ⟨W.heap.size, 0, none⟩) 3 3) (W.alloc (.cells #[.int .i64 r, .int .i64 s, .int .i64 t] 3)) := by kernel_rfl
  simp [execOp, hop, hx, hy, hz, h, Result.andThen]
end
def numsF (f : Fu) : Bool := inB 1 16 f.1 && inB 1 512 (f.2.length : Nat)
/-- What is known of slots 3, 6, 9, 13. -/
def keyN (r n : Int) (d : Tmp) (u : Value) (w : World) : Prop := if d = 3 then AskW w u 1 16 else if d = 6 then IntsW w u [r] else if d = 9 then AskW w u 1 512 else IntsW w u [n]
theorem keyN_adds (r n : Int) (d : Tmp) (u : Value) (w w' : World) (ha : Adds w w') (h : keyN r n d u w) : keyN r n d u w' := by
  unfold keyN at *
  split
  · rename_i e; rw [if_pos e] at h; exact h.adds ha
  · rename_i e; rw [if_neg e] at h
    split
    · rename_i e2; rw [if_pos e2] at h; exact h.adds ha
    · rename_i e2; rw [if_neg e2] at h
      split
      · rename_i e3; rw [if_pos e3] at h; exact h.adds ha
      · rename_i e3; rw [if_neg e3] at h; exact h.adds ha
set_option maxRecDepth 100000 in
set_option maxHeartbeats 4000000 in
theorem nums1_any (r : Int) (ao : Option Addr) (len cap : Nat) (w : World) : Calls Tryz.prog 88 #[.agg #[.int .i64 r, .slice ao len cap]] w fun e w' => e = .returned (.bool (inB 1 16 r && inB 1 512 (len : Nat))) ∧ Adds w w' := by
  obtain ⟨w1, hw1⟩ : ∃ w1, w.alloc (.cells #[.int .i64 r, .slice ao len cap] 72) = w1 := ⟨_, rfl⟩
  have HA1 := Lib.hid (show Adds w w1 by rw [← hw1]; exact (Gr.new _ _).adds)
  have HB1 := Lib.hid (show BkS 72 w1 w.heap.size [.int .i64 r, .slice ao len cap] by rw [← hw1]; exact BkS.new _ _ _)
  have HD := Lib.hid (show ∀ w', Adds w1.drew w' → w'.cell? ⟨w.heap.size, 0, none⟩ = some (.int .i64 r) ∧ w'.cell? ⟨w.heap.size, 1, none⟩ = some (.slice ao len cap) from fun w' h =>
    ⟨(HB1.out.adds (Adds.trans (Adds.drew _) h)).cell 0, (HB1.out.adds (Adds.trans (Adds.drew _) h)).cell 1⟩)
  have HE := Lib.hid (fun (v u : Value) (lo hi : Int) (x : Int) (W : World) (h1 : AskW W v lo hi) (h2 : IntsW W u [x]) => show Calls Tryz.prog 85 #[v, u] W fun e w' => e = .returned (.bool (inB lo hi x)) ∧ Adds W w' from
    (everyI v u lo hi [x] W h1 h2).mono fun e w' ⟨h3, h4⟩ => ⟨by rw [h3]; simp, h4 ▸ Adds.refl _⟩)
  have HI : Hid (∀ (x : Int) (W : World), IntsW (W.alloc (.cells #[.int .i64 x] 3)) (.slice (some ⟨W.heap.size, 0, none⟩) 1 1) [x] ∧ Adds W (W.alloc (.cells #[.int .i64 x] 3))) := Lib.hid fun x W => ⟨IntsW.lit W [x] (by simp) _ rfl _, (Gr.new _ _).adds⟩
  have HWi : Hid (∀ (lo hi : Int) (W : World), Calls Tryz.prog 86 #[.int .i64 lo, .int .i64 hi] W fun e w' => ∃ v, e = .returned v ∧ AskW w' v lo hi ∧ Adds W w') := Lib.hid fun lo hi W => (within_any lo hi W).mono fun e w' ⟨v, h1, h2, h3⟩ => ⟨v, h1, h2, h3.adds⟩
  obtain ⟨n, hn⟩ : ∃ n : Int, (len : Int) = n := ⟨_, rfl⟩
  rw [hn]
  cases hb : inB 1 16 r
  · have HB := Lib.hid hb
    clear hb
    go_enter Tryz.func88, Tryz.ntmps88
    go_wp2_with fail
    refine wp_region_loose [3, 6] (keyN r n) Adds (by kernel_rfl) (by kernel_rfl) (by simp []) Adds.refl (fun _ _ _ h k => Adds.trans h k) (fun d u _ _ h k => keyN_adds r n d u _ _ h k) ?_
    repeat (refine wpL_step (fun K hK => ?_); first
      | (refine stepL_key (f := 86) (args := #[.int .i64 1, .int .i64 16]) 3 rfl rfl rfl rfl ?_ (fun w' hw' => HWi.out 1 16 w') ?_; (· (intro w'; clear hK; go_simp)); refine hK _ ?_; clear hK K)
      | (refine stepL_skip rfl rfl rfl ?_; go_simp; refine hK _ ?_; clear hK K)
      | (refine stepL_ex (v := .bool false) rfl rfl rfl Adds.refl ?_ ?_; (· (intro w' hw'; clear hK; go_simp)); go_simp; refine hK _ ?_; clear hK K)
      | (refine stepL_ex rfl rfl rfl Adds.refl (fun w' hw' => rfl) ?_; go_simp; refine hK _ ?_; clear hK K)
      | (refine stepL_ex (v := .int .i64 r) rfl rfl rfl Adds.refl ?_ ?_; (· (intro w' hw'; clear hK; have hc := HD.out w' hw'; go_simp)); go_simp; refine hK _ ?_; clear hK K)
      | (refine stepL_mk 6 rfl rfl rfl rfl (fun w' hw' => ⟨_, _, mkI1_run rfl rfl w', (HI.out r w').1, (HI.out r w').2⟩) ?_; refine hK _ ?_; clear hK K)
      | (refine stepL_call2 (v := .bool false) (d := 3) (e := 6) (f := 85) (fun a b => #[a, b]) rfl rfl ?_ (fun w' a b _ h1 h2 => by have := HE.out a b 1 16 r w' h1 h2; rw [HB.out] at this; exact this) ?_; (· (intro w' a b hw' h1 h2; clear hK; refine ⟨rfl, ?_⟩; go_simp)); go_simp; refine hK _ ?_; clear hK K))
    refine wpL_nil ?_
    intro w4 a4
    simp only [forL]
    intro u1 _ u2 _
    have HA4 := Lib.hid (Adds.trans HA1.out (Adds.trans (Adds.drew w1) a4))
    clear a4
    go_wp2_with fail
    go_ret
    exact ⟨rfl, HA4.out⟩
  · have HB := Lib.hid hb
    clear hb
    obtain ⟨r2, hr2⟩ : ∃ r2, inB 1 512 n = r2 := ⟨_, rfl⟩
    have HB2 := Lib.hid hr2
    rw [hr2]
    clear hr2
    go_enter Tryz.func88, Tryz.ntmps88
    go_wp2_with fail
    refine wp_region_loose [3, 6, 9, 13] (keyN r n) Adds (by kernel_rfl) (by kernel_rfl) (by simp []) Adds.refl (fun _ _ _ h k => Adds.trans h k) (fun d u _ _ h k => keyN_adds r n d u _ _ h k) ?_
    repeat (refine wpL_step (fun K hK => ?_); first
      | (refine stepL_key (f := 86) (args := #[.int .i64 1, .int .i64 16]) 3 rfl rfl rfl rfl ?_ (fun w' hw' => HWi.out 1 16 w') ?_; (· (intro w'; clear hK; go_simp)); refine hK _ ?_; clear hK K)
      | (refine stepL_key (f := 86) (args := #[.int .i64 1, .int .i64 512]) 9 rfl rfl rfl rfl ?_ (fun w' hw' => HWi.out 1 512 w') ?_; (· (intro w'; clear hK; go_simp)); refine hK _ ?_; clear hK K)
      | (refine stepL_ex (v := .bool true) rfl rfl rfl Adds.refl ?_ ?_; (· (intro w' hw'; clear hK; go_simp)); go_simp; refine hK _ ?_; clear hK K)
      | (refine stepL_ex (v := .bool r2) rfl rfl rfl Adds.refl ?_ ?_; (· (intro w' hw'; clear hK; go_simp)); go_simp; refine hK _ ?_; clear hK K)
      | (refine stepL_ex rfl rfl rfl Adds.refl (fun w' hw' => rfl) ?_; go_simp; refine hK _ ?_; clear hK K)
      | (refine stepL_ex (v := .int .i64 r) rfl rfl rfl Adds.refl ?_ ?_; (· (intro w' hw'; clear hK; have hc := HD.out w' hw'; go_simp)); go_simp; refine hK _ ?_; clear hK K)
      | (refine stepL_ex (v := .slice ao len cap) rfl rfl rfl Adds.refl ?_ ?_; (· (intro w' hw'; clear hK; have hc := HD.out w' hw'; go_simp)); go_simp; refine hK _ ?_; clear hK K)
      | (refine stepL_ex (v := .int .i64 n) rfl rfl rfl Adds.refl ?_ ?_; (· (intro w' hw'; clear hK; go_simp)); go_simp; refine hK _ ?_; clear hK K)
      | (refine stepL_mk 6 rfl rfl rfl rfl (fun w' hw' => ⟨_, _, mkI1_run rfl rfl w', (HI.out r w').1, (HI.out r w').2⟩) ?_; refine hK _ ?_; clear hK K)
      | (refine stepL_mk 13 rfl rfl rfl rfl (fun w' hw' => ⟨_, _, mkI1_run rfl rfl w', (HI.out n w').1, (HI.out n w').2⟩) ?_; refine hK _ ?_; clear hK K)
      | (refine stepL_call2 (v := .bool true) (d := 3) (e := 6) (f := 85) (fun a b => #[a, b]) rfl rfl ?_ (fun w' a b _ h1 h2 => by have := HE.out a b 1 16 r w' h1 h2; rw [HB.out] at this; exact this) ?_; (· (intro w' a b hw' h1 h2; clear hK; refine ⟨rfl, ?_⟩; go_simp)); go_simp; refine hK _ ?_; clear hK K)
      | (refine stepL_call2 (v := .bool r2) (d := 9) (e := 13) (f := 85) (fun a b => #[a, b]) rfl rfl ?_ (fun w' a b _ h1 h2 => by have := HE.out a b 1 512 n w' h1 h2; rw [HB2.out] at this; exact this) ?_; (· (intro w' a b hw' h1 h2; clear hK; refine ⟨rfl, ?_⟩; go_simp)); go_simp; refine hK _ ?_; clear hK K))
    refine wpL_nil ?_
    intro w4 a4
    simp only [forL]
    intro u1 _ u2 _ u3 _ u4 _
    have HA4 := Lib.hid (Adds.trans HA1.out (Adds.trans (Adds.drew w1) a4))
    clear a4
    go_wp2_with fail
    go_ret
    exact ⟨rfl, HA4.out⟩
end Go.Proofs.YthhegcngkpfcoaaGreat
