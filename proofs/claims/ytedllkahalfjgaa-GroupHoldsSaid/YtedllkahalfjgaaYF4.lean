/- New, copied, Copy, same, Same: their contracts. -/
import Derived.Test.YtedllkahalfjgaaYEq
namespace Go.Proofs.Ytedllkahalfjgaa
open Go Go.RowKit
attribute [local go_sem] Oper.semAt_some

theorem zero_cnt : ∃ Z : Array Value, (∀ (n : Nat) (z : Int), n ≤ 64 → z = (n : Int) → Z.setIfInBounds 64 (Value.int .i64 z) = (cntC (List.replicate n 0)).toArray) ∧ Z.size = 65 ∧ Z = (cntC []).toArray ∧ ∀ W, (zeroValue 115).run Try.prog W = .ok (.agg Z) W := by
  refine ⟨(List.replicate 64 (Value.int .i64 0) ++ [Value.int .i64 0]).toArray, ?_, ?_, ?_, ?_⟩
  · intro n z hn hz
    rw [cntC_zero n hn, ← hz]
    simp
  · simp
  · rw [show ([] : List Int) = List.replicate 0 0 from rfl, cntC_zero 0 (by decide)]
    rfl
  · intro W
    have h : (Try.prog.info? 115).map (·.zero) = some (some (.agg (List.replicate 64 (Value.int .i64 0) ++ [Value.int .i64 0]).toArray)) := by kernel_rfl
    cases hq : Try.prog.info? 115 with
    | none => rw [hq] at h; cases h
    | some i =>
      rw [hq] at h
      simp only [Option.map_some, Option.some.injEq] at h
      generalize (List.replicate 64 (Value.int .i64 0) ++ [Value.int .i64 0]).toArray = Z at *
      simp [zeroValue, typeInfo, hq, h]
theorem okQ_zero (n : Nat) : OkQ (List.replicate n 0) := fun x hx => by rw [List.eq_of_mem_replicate hx]; omega
set_option maxHeartbeats 1000000 in
theorem newQ_yes (many : Nat) (hm : many ≤ 64) (w : World) :
    Calls Try.prog 20 #[.int .i64 ((many : Nat) : Int)] w fun e w' => ∃ v bc, e = .returned (.tuple #[v, .int .i64 0]) ∧ HolG w' v bc (List.replicate many 0) ∧ w.heap.size ≤ bc ∧ Adds w w' := by
  obtain ⟨Z, hZ1, _, hq, hZ3⟩ := zero_cnt
  clear hq
  have HZ1 := Lib.hid (hZ1 many _ hm rfl)
  have HM := Lib.hid hm
  obtain ⟨z, hz⟩ : ∃ z : Int, ((many : Nat) : Int) = z := ⟨_, rfl⟩
  have h0 : ¬ z < 0 := by omega
  have h1 : ¬ 64 < z := by omega
  rw [hz] at HZ1 ⊢
  clear hz hm hZ1
  go_enter Try.func20, Try.ntmps20
  go_wp2
  refine wp_scope_fwd 0 rfl ?_
  go_wp2
  simp only [Exit.jump]
  go_ret2
  have e1 := HZ1.out
  generalize Z.setIfInBounds 64 (.int .i64 z) = Z1 at *
  subst e1
  have hb := BkS.new 115 w (cntC (List.replicate many 0))
  have hp := BkS.new 69 (w.alloc (.cells (cntC (List.replicate many 0)).toArray 115)) [.pointer (some ⟨w.heap.size, 0, none⟩)]
  rw [show (w.alloc (.cells (cntC (List.replicate many 0)).toArray 115)).heap.size = w.heap.size + 1 by simp] at hp
  exact ⟨_, w.heap.size, rfl, ⟨⟨_, rfl, hp⟩, hb.adds (Gr.new _ _).adds, by simpa using HM.out, okQ_zero many⟩, Nat.le_refl _, Adds.trans (Gr.new _ _).adds (Gr.new _ _).adds⟩
theorem newQ_no (many : Int) (hm : ¬ (0 ≤ many ∧ many ≤ 64)) (w : World) :
    Calls Try.prog 20 #[.int .i64 many] w fun e w' => e = .returned (.tuple #[.pointer none, .int .i64 2]) ∧ w = w' := by
  by_cases h0 : many < 0
  · go_enter Try.func20, Try.ntmps20
    go_wp2
    refine wp_scope_fwd 0 rfl ?_
    go_wp2
    go_step3
    refine ⟨rfl, ?_⟩
    go_wp2
    rw [Exit.noGoto_ret]
    go_ret2
    exact ⟨rfl, rfl⟩
  · have h1 : 64 < many := by omega
    clear hm
    go_enter Try.func20, Try.ntmps20
    go_wp2
    refine wp_scope_fwd 0 rfl ?_
    go_wp2
    go_step3
    refine ⟨rfl, ?_⟩
    go_wp2
    rw [Exit.noGoto_ret]
    go_ret2
    exact ⟨rfl, rfl⟩
theorem wp_load_cnt {W : World} {bc : Nat} {l : List Int} (h : BkS 115 W bc (cntC l)) (hl : l.length ≤ 64) (L : Array Value) (hL : (cntC l).toArray = L) {ops : Array Oper} {rest : List Oper} {op : Oper} {a : Act} {Q : Exit → Act → World → Prop} (hgd : op.guard = none) (x : Operand) (ho : op.op = .load 115 x)
    (hx : a.eval x = .pointer (some ⟨bc, 0, none⟩)) (hk : wpList Try.prog ops Q rest (a.put op.dst (.agg L)) W) : wpList Try.prog ops Q (op :: rest) a W := by
  subst hL
  exact wpList_load_mid hgd 115 x ho bc 0 hx (cntC l) _ (fun j u hu => by rw [Nat.zero_add]; exact (h.cell j).trans hu) Try.underlying115 rfl (by rw [cntC_len hl]; kernel_rfl) hk
theorem cntC_one (l : List Int) : ∀ u ∈ cntC l, u.oneCell' = true := by
  intro u hu
  unfold cntC arrQ at hu
  rcases List.mem_append.1 hu with hu | hu
  · obtain ⟨x, _, rfl⟩ := List.mem_map.1 hu
    rfl
  · rw [List.mem_singleton.1 hu]; rfl
theorem wp_store_cnt {W : World} {b : Nat} {l : List Int} (hl : l.length ≤ 64) (L : Array Value) (hL : (cntC l).toArray = L) (Z : Array Value) (hZ : Z.size = 65) (hb : W.heap[b]? = some (.cells Z 115 (0, 0)))
    {ops : Array Oper} {rest : List Oper} {op : Oper} {a : Act} {Q : Exit → Act → World → Prop} (hgd : op.guard = none) (x y : Operand) (ho : op.op = .store 115 x y) (hx : a.eval x = .pointer (some ⟨b, 0, none⟩)) (hy : a.eval y = .agg L)
    (hk : ∀ W', BkS 115 W' b (cntC l) → TnS b W W' → wpList Try.prog ops Q rest (a.put op.dst undef) W') : wpList Try.prog ops Q (op :: rest) a W := by
  subst hL
  refine wpList_plain hgd fun K' hK' => ?_
  have hr := run_storeVar_row (P := Try.prog) W b 115 115 Z (cntC l).toArray hb (by rw [List.size_toArray, cntC_len hl]; kernel_rfl) (by rw [hZ, List.size_toArray, cntC_len hl]) (Array.all_eq_true_iff_forall_mem.2 (fun v hv => cntC_one l v (by simpa using hv)))
  unfold Oper.wp execOp
  simp only [ho, hx, hy, Instr.storeAt, Instr.sureAddr, Sem.run_bind, Sem.run_pure, Result.andThen_ok, hr]
  refine hK' _ _ (hk _ (setRow_heap W b Z _ _ _ hb) ⟨rfl, rfl, rfl, by simp, fun k _ hk => setRow_other W b k _ (fun e => hk (by rw [e]))⟩)
set_option maxRecDepth 100000 in
set_option maxHeartbeats 1000000 in
theorem copiedQ_any {w : World} {bc : Nat} {l : List Int} (h : BkS 115 w bc (cntC l)) (hl : l.length ≤ 64) :
    Calls Try.prog 60 #[.pointer (some ⟨bc, 0, none⟩)] w fun e w' => e = .returned (.pointer (some ⟨w.heap.size, 0, none⟩)) ∧ BkS 115 w' w.heap.size (cntC l) ∧ Adds w w' := by
  obtain ⟨L, hL⟩ : ∃ L, (cntC l).toArray = L := ⟨_, rfl⟩
  obtain ⟨Z, _, hZ2, hq, hZ3⟩ := zero_cnt
  clear hq
  have HH := Lib.hid h
  have HLs := Lib.hid hL
  have HL := Lib.hid hl
  clear h hL hl
  go_enter Try.func60, Try.ntmps60
  go_wp2_with (first
    | (refine wp_load_cnt HH.out HL.out L HLs.out rfl _ rfl rfl ?_)
    | (refine wp_store_cnt HL.out L HLs.out Z hZ2 (heap_new w _) rfl _ _ rfl rfl rfl ?_; intro w2 hb2 ht2; have HB2 := Lib.hid hb2; have HA2 := Lib.hid (TnS.own (Gr.new w _).adds (Nat.le_refl _) ht2); clear hb2 ht2))
  go_ret
  exact ⟨rfl, HB2.out, HA2.out⟩
theorem copyQ_any {w : World} {v : Value} {bc : Nat} {l : List Int} (h : HolG w v bc l) :
    Calls Try.prog 25 #[v] w fun e w' => ∃ v' bc', e = .returned v' ∧ HolG w' v' bc' l ∧ w.heap.size ≤ bc' ∧ Adds w w' := by
  have HN := Lib.hid (isNone_hol h)
  have HC := Lib.hid (copiedQ_any h.cnt h.len)
  have HO := Lib.hid (And.intro h.len h.ok)
  obtain ⟨bp, hv, c0⟩ := h.c0
  subst hv
  clear h
  go_enter Try.func25, Try.ntmps25
  go_wp2_with (first
    | (go_at_call 59; refine HN.out.mono ?_; rintro e w2 ⟨rfl, rfl⟩)
    | (go_at_call 60; refine HC.out.mono ?_; rintro e w3 ⟨rfl, h1, h2⟩; have H1 := Lib.hid (And.intro h1 h2); clear h1 h2))
  go_ret
  exact ⟨_, w.heap.size, rfl, ⟨⟨_, rfl, BkS.new _ _ _⟩, H1.out.1.adds (Gr.new _ _).adds, HO.out.1, HO.out.2⟩, Nat.le_refl _, Adds.trans H1.out.2 (Gr.new _ _).adds⟩
theorem copy_noG {w : World} {v : Value} (h : NoG w v) : Calls Try.prog 25 #[v] w fun e w' => e = .returned (.pointer none) ∧ w = w' := by
  have HN := Lib.hid (isNone_noG h)
  clear h
  go_enter Try.func25, Try.ntmps25
  go_wp2_with (go_at_call 59; refine HN.out.mono ?_; rintro e w2 ⟨rfl, rfl⟩)
  go_ret
  exact ⟨rfl, rfl⟩
theorem guard_cnt : Try.prog.eqGuardType Try.prog.depth 115 = false := by kernel_rfl
theorem exec_eql_cnt {W : World} {op : Oper} {a : Act} {x y : Operand} {u : TypeId} {L L' : Array Value} {r : Bool} (ho : op.op = .binOp .eql 115 x y u) (hx : a.eval x = .agg L) (hy : a.eval y = .agg L') (h : (binOp .eql 115 (.agg L) (.agg L')).run Try.prog W = .ok (.bool r) W) : (execOp a.eval op).run Try.prog W = .ok (.value (.bool r)) W := by
  have hg := run_eqGuard_agg (P := Try.prog) W .eql 115 x y L L' guard_cnt
  unfold execOp
  simp only [ho, hx, hy, Sem.run_bind, Sem.run_pure, Result.andThen_ok, hg, h]
theorem exec_load_cnt {W : World} {op : Oper} {a : Act} {x : Operand} {b : Nat} {L : Array Value} (ho : op.op = .load 115 x) (hx : a.eval x = .pointer (some ⟨b, 0, none⟩)) (h : (loadVar 115 ⟨b, 0, none⟩).run Try.prog W = .ok (.agg L) W) : (execOp a.eval op).run Try.prog W = .ok (.value (.agg L)) W := by
  unfold execOp
  simp only [ho, hx, Instr.loadAt, Instr.sureAddr, Sem.run_bind, Sem.run_pure, Result.andThen_ok, h]
set_option maxRecDepth 100000 in
set_option maxHeartbeats 1000000 in
theorem sameC_any {w : World} {b b' : Nat} {l l' : List Int} (h : BkS 115 w b (cntC l)) (h' : BkS 115 w b' (cntC l')) (hl : l.length ≤ 64) (hl' : l'.length ≤ 64) :
    Calls Try.prog 61 #[.pointer (some ⟨b, 0, none⟩), .pointer (some ⟨b', 0, none⟩)] w fun e w' => e = .returned (.bool (decide (l = l'))) ∧ Adds w w' := by
  have HL1 := Lib.hid (fun W (ha : Adds w W) => load_cnt (h.adds ha) hl)
  have HL2 := Lib.hid (fun W (ha : Adds w W) => load_cnt (h'.adds ha) hl')
  have HE := Lib.hid (fun W => cnt_eql l l' W hl hl')
  generalize (cntC l).toArray = L at *
  generalize (cntC l').toArray = L' at *
  generalize decide (l = l') = r at *
  clear h h' hl hl'
  go_enter Try.func61, Try.ntmps61
  go_wp2
  refine wp_region_loose [] (fun _ _ _ => True) Adds (by kernel_rfl) (by kernel_rfl) (by simp) Adds.refl (fun _ _ _ h k => Adds.trans h k) (fun _ _ _ _ _ _ => trivial) ?_
  repeat (refine wpL_step (fun K hK => ?_); first
    | (refine stepL_ex rfl rfl rfl Adds.refl (fun w' hw' => rfl) ?_; go_simp; refine hK _ ?_; clear hK K)
    | (refine stepL_ex (v := .agg L) rfl rfl rfl Adds.refl ?_ ?_; (· (intro w' hw'; clear hK; exact exec_load_cnt rfl rfl (HL1.out w' (Adds.trans (Adds.drew w) hw')))); go_simp; refine hK _ ?_; clear hK K)
    | (refine stepL_ex (v := .agg L') rfl rfl rfl Adds.refl ?_ ?_; (· (intro w' hw'; clear hK; exact exec_load_cnt rfl rfl (HL2.out w' (Adds.trans (Adds.drew w) hw')))); go_simp; refine hK _ ?_; clear hK K)
    | (refine stepL_ex (v := .bool r) rfl rfl rfl Adds.refl ?_ ?_; (· (intro w' hw'; clear hK; exact exec_eql_cnt rfl rfl rfl (HE.out w'))); go_simp; refine hK _ ?_; clear hK K))
  refine wpL_nil ?_
  intro w4 a4
  simp only [forL]
  have A4 := Lib.hid (Adds.trans (Adds.drew w) a4)
  clear a4
  go_wp2
  go_ret
  exact ⟨rfl, A4.out⟩
theorem sameQ_any {w : World} {u v : Value} {b b' : Nat} {l l' : List Int} (h : HolG w u b l) (h' : HolG w v b' l') :
    Calls Try.prog 27 #[u, v] w fun e w' => e = .returned (.bool (decide (l = l'))) ∧ Adds w w' := by
  have HN1 := Lib.hid (isNone_hol h)
  have HN2 := Lib.hid (isNone_hol h')
  have HS := Lib.hid (fun W (ha : Adds w W) => sameC_any (h.cnt.adds ha) (h'.cnt.adds ha) h.len h'.len)
  obtain ⟨bp, hv, c0⟩ := h.c0
  obtain ⟨bp', hv', c1⟩ := h'.c0
  subst hv hv'
  have d0 : w.drew.cell? ⟨bp, 0, none⟩ = some (.pointer (some ⟨b, 0, none⟩)) := c0
  have d1 : w.drew.cell? ⟨bp', 0, none⟩ = some (.pointer (some ⟨b', 0, none⟩)) := c1
  generalize decide (l = l') = r at *
  clear h h'
  go_enter Try.func27, Try.ntmps27
  go_wp2_with (first
    | (go_at_call 59; refine HN1.out.mono ?_; clear HN1; rintro e w1 ⟨rfl, rfl⟩)
    | (go_at_call 59; refine HN2.out.mono ?_; clear HN2; rintro e w1 ⟨rfl, rfl⟩))
  go_region_with (go_at_call 61; refine (HS.out _ (Adds.drew w)).mono ?_; rintro e w3 ⟨rfl, ha⟩; have HB3 := Lib.hid (Adds.trans (Adds.drew w) ha); clear ha)
  all_goals
    simp only [Exit.then]
    go_simp
    go_wp2
    go_ret
    exact ⟨rfl, HB3.out⟩
theorem sameQ_nn {w : World} {u : Value} (h : NoG w u) : Calls Try.prog 27 #[u, .pointer none] w fun e w' => e = .returned (.bool true) ∧ w = w' := by
  rcases h with rfl | ⟨b, rfl, k⟩
  · have HN1 := Lib.hid (isNone_noG (w := w) (v := .pointer none) (.inl rfl))
    go_enter Try.func27, Try.ntmps27
    go_wp2_with (go_at_call 59; refine HN1.out.mono ?_; rintro e w1 ⟨rfl, rfl⟩)
    go_ret
    exact ⟨rfl, rfl⟩
  · have HN1 := Lib.hid (isNone_noG (w := w) (.inr ⟨b, rfl, k⟩))
    have HN2 := Lib.hid (isNone_noG (w := w) (v := .pointer none) (.inl rfl))
    clear k
    go_enter Try.func27, Try.ntmps27
    go_wp2_with (first
      | (go_at_call 59; with_reducible refine HN1.out.mono ?_; rintro e w1 ⟨rfl, rfl⟩)
      | (go_at_call 59; with_reducible refine HN2.out.mono ?_; rintro e w1 ⟨rfl, rfl⟩))
    go_ret
    exact ⟨rfl, rfl⟩
theorem sameQ_hn {w : World} {u v : Value} {b : Nat} {l : List Int} (h : HolG w u b l) (h' : NoG w v) : Calls Try.prog 27 #[u, v] w fun e w' => e = .returned (.bool false) ∧ w = w' := by
  have HN1 := Lib.hid (isNone_hol h)
  have HN2 := Lib.hid (isNone_noG h')
  have HN3 := Lib.hid (isNone_hol h)
  obtain ⟨bp, hv, _⟩ := h.c0
  subst hv
  clear h h'
  go_enter Try.func27, Try.ntmps27
  go_wp2_with (first
    | (go_at_call 59; refine HN1.out.mono ?_; clear HN1; rintro e w1 ⟨rfl, rfl⟩)
    | (go_at_call 59; refine HN2.out.mono ?_; clear HN2; rintro e w1 ⟨rfl, rfl⟩)
    | (go_at_call 59; refine HN3.out.mono ?_; rintro e w1 ⟨rfl, rfl⟩))
  go_ret
  exact ⟨rfl, rfl⟩
end Go.Proofs.Ytedllkahalfjgaa
