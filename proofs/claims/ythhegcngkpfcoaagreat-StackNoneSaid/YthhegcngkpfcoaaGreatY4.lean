/- Merged: IF3. -/
import Derived.Test.YthhegcngkpfcoaaGreatY3
namespace Go.Proofs.YthhegcngkpfcoaaGreat
open Go Go.RowKit Go.Shelf Go.Lib

def zerosP (n : Nat) : List Value := (Builtin.zeroCells (Value.agg #[.nilFunc, .int .i64 0, .nilFunc, .nilFunc]).cells n).toList
theorem zerosP_length (n : Nat) : (zerosP n).length = n * 4 := by simp [zerosP, Builtin.zeroCells, Value.cells]
theorem zerosP_one (n : Nat) : ∀ v ∈ zerosP n, v.oneCell' = true := by
  intro v hv
  simp only [zerosP, Builtin.zeroCells, Value.cells, Array.toList_map, Array.toList_range, List.mem_map] at hv
  obtain ⟨i, _, rfl⟩ := hv
  have h : i % 4 < 4 := Nat.mod_lt _ (by omega)
  show (#[Value.nilFunc, .int .i64 0, .nilFunc, .nilFunc][i % 4]!).oneCell' = true
  match i % 4, h with
  | 0, _ => rfl
  | 1, _ => rfl
  | 2, _ => rfl
  | 3, _ => rfl
theorem clear_parts (w : World) (ty : TypeId) (b o n c : Nat) (hn : 0 < n) (hc : ∀ j, j < n * 4 → (w.cell? ⟨b, o + j, none⟩).isSome = true) (hf : ∀ j, j < n * 4 → w.frozen? ⟨b, o + j, none⟩ = false) :
    (Builtin.clear_ #[170] ty #[.slice (some ⟨b, o, none⟩) n c]).run Tryz.prog w = .ok (.tuple #[]) (w.setCells b o (zerosP n)) := by
  have hst := run_storeCells_cells (P := Tryz.prog) b o (zerosP n) 0 w (by simpa [zerosP_length] using hc) (by simpa [zerosP_length] using hf) (zerosP_one n)
  simp only [Nat.add_zero] at hst
  obtain ⟨m, rfl⟩ : ∃ m, n = m + 1 := ⟨n - 1, by omega⟩
  unfold zerosP at hst ⊢
  simp [Builtin.clear_, run_underlying Tryz.underlying170, hst]
theorem BkS.cells {t : TypeId} {b : Nat} : ∀ (zs : List Value) (o : Nat) (w : World) (l : List Value), BkS t w b l → ∃ l', BkS t (w.setCells b o zs) b l' ∧ (∀ i, i < o → l'[i]? = l[i]?) ∧ TnS b w (w.setCells b o zs)
  | [], o, w, l, h => ⟨l, h, fun _ _ => rfl, TnS.refl _ _⟩
  | z :: zs, o, w, l, h => by
    obtain ⟨l', h1, h2, h3⟩ := BkS.cells zs (o + 1) (w.setCell ⟨b, o, none⟩ z) (l.set o z) (h.set o z)
    refine ⟨l', h1, fun i hi => ?_, TnS.trans (TnS.setCell _ _ _ _) h3⟩
    rw [h2 i (by omega), List.getElem?_set_ne (by omega)]

def partsOf (s : Sh) : List Pt := (all4 s).filter fun p => !(p.1 == 0)
/-- A row of parts, from a block's beginning on. -/
def RowP (w : World) (g : Nat) (ps : List Pt) : Prop := ∀ i, i < ps.length → ∀ q, q < 4 → w.cell? ⟨g, i * 4 + q, none⟩ = (ptC (ps.getD i (0, 0)))[q]?
def dI (s : Sh) : Array Pt := (all4 s).toArray
def kpI (s : Sh) (j : Nat) : Bool := !((dI s)[j]!.1 == 0)
theorem kept_parts (s : Sh) : keptUpTo (kpI s) (dI s) 4 = partsOf s := by
  have := keptUpTo_filter (fun p : Pt => !(p.1 == 0)) (dI s)
  exact this
theorem dI_at (s : Sh) (j : Nat) (hj : j < 4) : (dI s)[j]! = atI s j := by
  match j, hj with
  | 0, _ => rfl
  | 1, _ => rfl
  | 2, _ => rfl
  | 3, _ => rfl
theorem slice_lo (g : Nat) : (∀ w : World, (Instr.slice 170 (.slice (some ⟨g, 0, none⟩) 4 4) (some (.int .i64 0)) none none).run Tryz.prog w = .ok (.slice (some ⟨g, 0, none⟩) 4 4) w) ∧
    (∀ w : World, (Instr.slice 170 (.slice (some ⟨g, 0, none⟩) 4 4) (some (.int .i64 1)) none none).run Tryz.prog w = .ok (.slice (some ⟨g, 4, none⟩) 3 3) w) ∧
    (∀ w : World, (Instr.slice 170 (.slice (some ⟨g, 0, none⟩) 4 4) (some (.int .i64 2)) none none).run Tryz.prog w = .ok (.slice (some ⟨g, 8, none⟩) 2 2) w) ∧
    (∀ w : World, (Instr.slice 170 (.slice (some ⟨g, 0, none⟩) 4 4) (some (.int .i64 3)) none none).run Tryz.prog w = .ok (.slice (some ⟨g, 12, none⟩) 1 1) w) := by
  refine ⟨fun _ => ?_, fun _ => ?_, fun _ => ?_, fun _ => ?_⟩ <;> kernel_rfl
theorem adds_cell8 {w w' : World} (h : Adds w w') {b o : Nat} {v : Value} (hc : w.cell? ⟨b, o, none⟩ = some v) : w'.cell? ⟨b, o, none⟩ = some v :=
  (h.cell (p := ⟨b, o, none⟩) (World.block_lt_of_cell? w _ hc)).trans hc
theorem slot_one (n : Nat) : (slotV n).oneCell' = true := by cases n <;> rfl
theorem firstNil_cases (s : Sh) : (∃ k, k < 4 ∧ firstNil s = (k : Nat) ∧ (atI s k).1 = 0 ∧ ∀ j, j < k → (atI s j).1 ≠ 0) ∨ (firstNil s = -1 ∧ ∀ j, j < 4 → (atI s j).1 ≠ 0) := by
  by_cases h0 : (atI s 0).1 = 0
  · exact .inl ⟨0, by omega, firstNil_at (by omega) (fun j hj => by omega) h0, h0, fun j hj => by omega⟩
  by_cases h1 : (atI s 1).1 = 0
  · have a : ∀ j, j < 1 → (atI s j).1 ≠ 0 := fun j hj => by
      match j, hj with
      | 0, _ => exact h0
    exact .inl ⟨1, by omega, firstNil_at (by omega) a h1, h1, a⟩
  by_cases h2 : (atI s 2).1 = 0
  · have a : ∀ j, j < 2 → (atI s j).1 ≠ 0 := fun j hj => by
      match j, hj with
      | 0, _ => exact h0
      | 1, _ => exact h1
    exact .inl ⟨2, by omega, firstNil_at (by omega) a h2, h2, a⟩
  by_cases h3 : (atI s 3).1 = 0
  · have a : ∀ j, j < 3 → (atI s j).1 ≠ 0 := fun j hj => by
      match j, hj with
      | 0, _ => exact h0
      | 1, _ => exact h1
      | 2, _ => exact h2
    exact .inl ⟨3, by omega, firstNil_at (by omega) a h3, h3, a⟩
  have a : ∀ j, j < 4 → (atI s j).1 ≠ 0 := fun j hj => by
    match j, hj with
    | 0, _ => exact h0
    | 1, _ => exact h1
    | 2, _ => exact h2
    | 3, _ => exact h3
  exact .inr ⟨firstNil_none a, a⟩
theorem kpI_at (s : Sh) (j : Nat) (hj : j < 4) : kpI s j = !((atI s j).1 == 0) := by unfold kpI; rw [dI_at s j hj]
theorem parts_all {s : Sh} (h : ∀ j, j < 4 → (atI s j).1 ≠ 0) : partsOf s = all4 s := by
  have h0 : s.1 ≠ 0 := h 0 (by omega)
  have h1 : s.2.1 ≠ 0 := h 1 (by omega)
  have h2 : s.2.2.1 ≠ 0 := h 2 (by omega)
  have h3 : s.2.2.2 ≠ 0 := h 3 (by omega)
  simp [partsOf, all4, h0, h1, h2, h3]
theorem flat_toList (dk : Array Pt) (j q : Nat) (hj : j < dk.size) (hq : q < 4) : (flatI dk.toList)[j * 4 + q]? = (ptC dk[j]!)[q]? := by
  rw [flatI_get dk.toList j q hq (by simpa using hj)]
  congr 2
  simp [List.getD_eq_getElem?_getD, hj]
set_option maxRecDepth 100000 in
set_option maxHeartbeats 2000000 in
theorem deleteF_any (s : Sh) (g : Nat) (w : World) (h : BkS 175 w g (flatI (all4 s))) :
    Calls Tryz.prog 152 #[.slice (some ⟨g, 0, none⟩) 4 4, .func (.func 153) #[] #[]] w fun e w' => e = .returned (.slice (some ⟨g, 0, none⟩) (partsOf s).length 4) ∧ RowP w' g (partsOf s) ∧ TnS g w w' := by
  have HIx := Lib.hid (indexF_any s g w h)
  have HB := Lib.hid h
  clear h
  rcases firstNil_cases s with ⟨k0, hk0, e0, hz0, hn0⟩ | ⟨e0, hn0⟩
  · rw [e0] at HIx
    have hkI : (k0 : Int) < 4 := by omega
    have hkJ : (0 : Int) ≤ (k0 : Int) := by omega
    have hkm : ((k0 : Int) == -1) = false := beq_eq_false_iff_ne.2 (by omega)
    have HK0 := Lib.hid (And.intro hk0 (And.intro hz0 hn0))
    have HP := Lib.hid (kept_parts s)
    clear hk0 hz0 hn0 e0
    go_enter Tryz.func152, Tryz.ntmps152
    go_wp2_with (go_at_call 154; refine HIx.out.mono ?_; rintro e w2 ⟨rfl, q⟩; have HG := Lib.hid q; clear q)
    go_loopw [5, 6] (fun s5 s6 wr => ∃ (i j : Nat) (dk : Array Pt), s5 = .int .i64 i ∧ s6 = .int .i64 j ∧ j ≤ 4 ∧ Hid (BkS 175 wr g (flatI dk.toList)) ∧ Hid (KeptInv (kpI s) (dI s) j i dk) ∧ Hid (TnS g w wr)) (fun _ s6 _ => 5 - (intOf s6).toNat)
    case atStart => exact ⟨k0, k0 + 1, dI s, rfl, by go_num, by have := HK0.out.1; omega, Lib.hid (HB.out.adds HG.out.adds), Lib.hid (KeptInv.start (fun j hj => by rw [kpI_at s j (by have := HK0.out.1; omega)]; simpa using HK0.out.2.2 j hj) (by rw [kpI_at s k0 HK0.out.1]; simpa using HK0.out.2.1)), Lib.hid (TnS.of_adds g HG.out.adds)⟩
    case round =>
      obtain ⟨i, j, dk, rfl, rfl, hj, HBk, HKp, HT⟩ := hrel
      have hij := HKp.out.lt
      have hjI : (j : Int) ≤ 4 := by omega
      have hiI : (i : Int) < (j : Int) := by omega
      have HDs := Lib.hid (show dk.size = 4 from HKp.out.size)
      by_cases hlt : j < 4
      · have hltI : (j : Int) < 4 := by omega
        have c : ∀ q, q < 4 → wr.cell? ⟨g, j * 4 + q, none⟩ = (ptC (atI s j))[q]? := fun q hq => by
          rw [HBk.out.cell, flat_toList dk j q (by rw [HDs.out]; exact hlt) hq, HKp.out.high j (Nat.le_of_lt hij), dI_at s j hlt]
        have d : ∀ q, q < 4 → wr.cell? ⟨g, i * 4 + q, none⟩ = (ptC dk[i]!)[q]? := fun q hq => by
          rw [HBk.out.cell, flat_toList dk i q (by rw [HDs.out]; omega) hq]
        have c0 := c 0 (by omega); have c1 := c 1 (by omega); have c2 := c 2 (by omega); have c3 := c 3 (by omega)
        have d0 := d 0 (by omega); have d1 := d 1 (by omega); have d2 := d 2 (by omega); have d3 := d 3 (by omega)
        have f : ∀ q, wr.frozen? ⟨g, q, none⟩ = false := fun q => HBk.out.free q
        have HN := Lib.hid (fun W => isNil_any (atI s j) W)
        have HKj := Lib.hid (kpI_at s j hlt)
        have HSt := Lib.hid (show setP (flatI dk.toList) (i * 4) (slotV (atI s j).1) (.int .i64 (widN (atI s j).2)) (fnV (getF (atI s j).2)) (fnV (putF (atI s j).2)) = flatI (dk.setIfInBounds i (dI s)[j]!).toList by
          rw [dI_at s j hlt, flatI_set (atI s j) dk.toList i (by rw [Array.length_toList, HDs.out]; omega), Array.toList_setIfInBounds])
        simp only [ptC, List.getElem?_cons_zero, List.getElem?_cons_succ, Nat.add_zero] at c0 c1 c2 c3 d0 d1 d2 d3 HN
        have HLt := Lib.hid hlt; have HIJ := Lib.hid hij
        clear c d hlt hij hj
        obtain ⟨x0, hx0⟩ : ∃ x, slotV (atI s j).1 = x := ⟨_, rfl⟩
        obtain ⟨x1, hx1⟩ : ∃ x, widN (atI s j).2 = x := ⟨_, rfl⟩
        obtain ⟨x2, hx2⟩ : ∃ x, fnV (getF (atI s j).2) = x := ⟨_, rfl⟩
        obtain ⟨x3, hx3⟩ : ∃ x, fnV (putF (atI s j).2) = x := ⟨_, rfl⟩
        rw [hx0, hx1, hx2, hx3] at HSt
        rw [hx0] at c0; rw [hx1] at c1; rw [hx2] at c2; rw [hx3] at c3
        simp only [hx0, hx1, hx2, hx3] at HN
        have hs0 : ∀ (a : Addr) (m : Mode) (w : World), (store a x0 m).run Tryz.prog w = stored Tryz.prog w a x0 m := fun a m w => run_store _ w a x0 m (hx0 ▸ slot_one _)
        have hs2 : ∀ (a : Addr) (m : Mode) (w : World), (store a x2 m).run Tryz.prog w = stored Tryz.prog w a x2 m := fun a m w => run_store _ w a x2 m (hx2 ▸ rfl)
        have hs3 : ∀ (a : Addr) (m : Mode) (w : World), (store a x3 m).run Tryz.prog w = stored Tryz.prog w a x3 m := fun a m w => run_store _ w a x3 m (hx3 ▸ rfl)
        clear hx0 hx1 hx2 hx3
        obtain ⟨y0, hy0⟩ : ∃ x, slotV dk[i]!.1 = x := ⟨_, rfl⟩
        obtain ⟨y1, hy1⟩ : ∃ x, Value.int .i64 (widN dk[i]!.2) = x := ⟨_, rfl⟩
        obtain ⟨y2, hy2⟩ : ∃ x, fnV (getF dk[i]!.2) = x := ⟨_, rfl⟩
        obtain ⟨y3, hy3⟩ : ∃ x, fnV (putF dk[i]!.2) = x := ⟨_, rfl⟩
        rw [hy0] at d0; rw [hy1] at d1; rw [hy2] at d2; rw [hy3] at d3
        clear hy0 hy1 hy2 hy3
        cases hz : ((atI s j).1 == 0)
        · rw [hz] at HKj
          simp only [hz] at HN
          clear hz
          go_wp2_with (go_at_call 153; refine (HN.out _).mono ?_; rintro e w3 ⟨rfl, q⟩; have q2 := (Gr.new wr _).trans q; have b0 := adds_cell8 q2.adds d0; have b1 := adds_cell8 q2.adds d1; have b2 := adds_cell8 q2.adds d2; have b3 := adds_cell8 q2.adds d3; have bn := (BkS.new 175 wr [x0, .int .i64 x1, x2, x3]).adds q.adds; have e0 : w3.cell? ⟨wr.heap.size, 0, none⟩ = some x0 := bn.cell 0; have e1 : w3.cell? ⟨wr.heap.size, 1, none⟩ = some (.int .i64 x1) := bn.cell 1; have e2 : w3.cell? ⟨wr.heap.size, 2, none⟩ = some x2 := bn.cell 2; have e3 : w3.cell? ⟨wr.heap.size, 3, none⟩ = some x3 := bn.cell 3; have HB3 := Lib.hid (HBk.out.adds q2.adds); have f3 := fun x => HB3.out.free x; have HT3 := Lib.hid (HT.out.trans (TnS.of_adds g q2.adds)); clear q q2 bn)
          go_roundw
          case rel => exact ⟨i + 1, j + 1, dk.setIfInBounds i (dI s)[j]!, by go_num, by go_num, by have := HLt.out; omega, Lib.hid (by rw [← HSt.out]; exact HB3.out.setP _ _ _ _ _), Lib.hid (HKp.out.keep (by have := HLt.out; exact this) HKj.out), Lib.hid (HT3.out.trans ((((TnS.setCell _ _ _ _).trans (TnS.setCell _ _ _ _)).trans (TnS.setCell _ _ _ _)).trans (TnS.setCell _ _ _ _)))⟩
          case measure => simp [intOf]; have := HLt.out; omega
        · rw [hz] at HKj
          simp only [hz] at HN
          clear hz
          go_wp2_with (go_at_call 153; refine (HN.out _).mono ?_; rintro e w3 ⟨rfl, q⟩; have q2 := (Gr.new wr _).trans q; have HB3 := Lib.hid (HBk.out.adds q2.adds); have HT3 := Lib.hid (HT.out.trans (TnS.of_adds g q2.adds)); clear q q2)
          go_roundw
          case rel => exact ⟨i, j + 1, dk, rfl, by go_num, by have := HLt.out; omega, HB3, Lib.hid (HKp.out.skip HKj.out), HT3⟩
          case measure => simp [intOf]; have := HLt.out; omega
      · obtain rfl : j = 4 := by omega
        have HLen := Lib.hid (show (partsOf s).length = i by rw [← HP.out]; exact HKp.out.len)
        have HRow := Lib.hid (show ∀ W l', BkS 175 W g l' → (∀ x, x < i * 4 → l'[x]? = (flatI dk.toList)[x]?) → RowP W g (partsOf s) from fun W l' h1 h2 a ha q hq => by
          rw [HLen.out] at ha
          rw [h1.cell, h2 _ (by omega), flat_toList dk a q (by rw [HDs.out]; omega) hq]
          have := HKp.out.low a ha
          rw [HP.out] at this
          simp [List.getD_eq_getElem?_getD, this])
        obtain ⟨s0, s1, s2, s3⟩ := slice_lo g
        have f : ∀ q, wr.frozen? ⟨g, q, none⟩ = false := fun q => HBk.out.free q
        have cs : ∀ q, q < 16 → (wr.cell? ⟨g, q, none⟩).isSome = true := fun q hq => by
          have h1 := HBk.out.cell q
          rw [h1]
          have h2 : (flatI dk.toList).length = 16 := by
            have : ∀ l : List Pt, (flatI l).length = l.length * 4 := fun l => by
              induction l with
              | nil => rfl
              | cons x t ih => show (ptC x ++ flatI t).length = _; rw [List.length_append, ih]; simp [ptC]; omega
            rw [this, Array.length_toList, HDs.out]
          simp [h2, hq]
        have hcl : ∀ (ty : TypeId) (o n c : Nat), 0 < n → o + n * 4 ≤ 16 → (Builtin.clear_ #[170] ty #[.slice (some ⟨g, o, none⟩) n c]).run Tryz.prog wr = .ok (.tuple #[]) (wr.setCells g o (zerosP n)) := fun ty o n c hn ho => clear_parts wr ty g o n c hn (fun j hj => cs _ (by omega)) (fun j _ => f _)
        have k0 := fun ty => hcl ty 0 4 4 (by omega) (by omega)
        have k1 := fun ty => hcl ty 4 3 3 (by omega) (by omega)
        have k2 := fun ty => hcl ty 8 2 2 (by omega) (by omega)
        have k3 := fun ty => hcl ty 12 1 1 (by omega) (by omega)
        clear hcl cs f hlt
        have hi4 : i < 4 := hij
        clear hij
        match i, hi4 with
        | 0, _ =>
          obtain ⟨l', h1, h2, h3⟩ := BkS.cells (zerosP 4) 0 wr _ HBk.out
          have HF := Lib.hid (And.intro (HRow.out _ l' h1 (fun x hx => h2 x (by omega))) (HT.out.trans h3))
          clear h1 h2 h3
          go_wp2_with fail
          go_ret
          exact ⟨by rw [HLen.out]; rfl, HF.out.1, HF.out.2⟩
        | 1, _ =>
          obtain ⟨l', h1, h2, h3⟩ := BkS.cells (zerosP 3) 4 wr _ HBk.out
          have HF := Lib.hid (And.intro (HRow.out _ l' h1 (fun x hx => h2 x (by omega))) (HT.out.trans h3))
          clear h1 h2 h3
          go_wp2_with fail
          go_ret
          exact ⟨by rw [HLen.out]; rfl, HF.out.1, HF.out.2⟩
        | 2, _ =>
          obtain ⟨l', h1, h2, h3⟩ := BkS.cells (zerosP 2) 8 wr _ HBk.out
          have HF := Lib.hid (And.intro (HRow.out _ l' h1 (fun x hx => h2 x (by omega))) (HT.out.trans h3))
          clear h1 h2 h3
          go_wp2_with fail
          go_ret
          exact ⟨by rw [HLen.out]; rfl, HF.out.1, HF.out.2⟩
        | 3, _ =>
          obtain ⟨l', h1, h2, h3⟩ := BkS.cells (zerosP 1) 12 wr _ HBk.out
          have HF := Lib.hid (And.intro (HRow.out _ l' h1 (fun x hx => h2 x (by omega))) (HT.out.trans h3))
          clear h1 h2 h3
          go_wp2_with fail
          go_ret
          exact ⟨by rw [HLen.out]; rfl, HF.out.1, HF.out.2⟩
  · rw [e0] at HIx
    go_enter Tryz.func152, Tryz.ntmps152
    go_wp2_with (go_at_call 154; refine HIx.out.mono ?_; rintro e w2 ⟨rfl, q⟩; have HG := Lib.hid q; clear q)
    go_ret
    rw [parts_all hn0]
    exact ⟨rfl, fun i hi q hq => (HB.out.adds HG.out.adds).cell _ |>.trans (flatI_get _ i q hq hi), TnS.of_adds g HG.out.adds⟩
end Go.Proofs.YthhegcngkpfcoaaGreat
