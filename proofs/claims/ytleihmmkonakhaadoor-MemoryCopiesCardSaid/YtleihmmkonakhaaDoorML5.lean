/- The law MemoryCopies, walked. -/
import Derived.Laws.StructEq
import Derived.Test.YtleihmmkonakhaaDoorMRA
namespace Go.Proofs.YtleihmmkonakhaaDoor
open Go Go.RowKit Go.Shelf Go.Maps
attribute [local go_sem] Oper.semAt_some

set_option maxRecDepth 100000 in
theorem cells_eqIn (a b c d : Int) (w : World) : (Op.equalIn 10000 31 (.agg #[.int .u32 a, .int .u32 b]) (.agg #[.int .u32 c, .int .u32 d])).run Tryd.prog w = .ok (a == c && b == d) w := by
  have u3 := Tryd.underlying29
  have a3 := Tryd.isAgg29
  have z3 := Tryd.sizeOf29
  have hS : Tryd.prog.underlying 31 = some (.struct (Tryd.prog.fieldsOf 31)) := by kernel_rfl
  have hp : Tryd.prog.stoodInHeld 31 = false := by kernel_rfl
  rw [show (10000 : Nat) = 9999 + 1 from rfl, run_equalIn_agg w 9999 31 _ _ hS hp]
  simp only [Program.fieldsOf, Tryd.underlying31]
  go_simp
  by_cases h1 : a = c <;> by_cases h2 : b = d <;> simp [h1, h2]
def neC (x y : Nat × Nat) : Bool := decide (x ≠ y)
theorem cells_neq (a b c d : Nat) (W : World) : (binOp .neq 31 (.agg #[.int .u32 ((a : Nat) : Int), .int .u32 ((b : Nat) : Int)]) (.agg #[.int .u32 ((c : Nat) : Int), .int .u32 ((d : Nat) : Int)])).run Tryd.prog W = .ok (.bool (neC (a, b) (c, d))) W := by
  rw [run_neq_struct, cells_eqIn]
  unfold neC
  by_cases h1 : a = c <;> by_cases h2 : b = d <;> simp [h1, h2] <;> omega
set_option maxRecDepth 100000 in
set_option maxHeartbeats 4000000 in
theorem refCells_any (v u : Value) (l m : List (Nat × Nat)) (w : World) (hl : CellsW (fun _ => True) w v l) (hm : CellsW (fun _ => True) w u m) :
    Calls Tryd.prog 21 #[v, u] w fun e w' => e = .returned (.bool (decide (l = m))) ∧ Adds w w' := by
  have HL := Lib.hid hl; have HM := Lib.hid hm
  obtain ⟨ao, cap, rfl, h1, h2, _⟩ := hl
  obtain ⟨bo, cap', rfl, h3, h4, _⟩ := hm
  unfold maxLen at h2 h4
  have hn := cells_neq
  go_enter Tryd.func21, Tryd.ntmps21
  by_cases hlm : l.length = m.length
  · have hlmI : ((l.length : Nat) : Int) = ((m.length : Nat) : Int) := by omega
    have hb1 : (((l.length : Nat) : Int) != ((m.length : Nat) : Int)) = false := by simp [hlm]
    have HLM := Lib.hid hlm
    clear hlm
    go_wp2_with fail
    go_loopw [5] (fun t5 wr => Adds w wr ∧ ∃ i : Nat, i ≤ l.length ∧ t5 = .int .i64 i ∧ l.take i = m.take i) (fun t5 _ => l.length - (intOf t5).toNat)
    case atStart => exact ⟨Adds.refl _, 0, Nat.zero_le _, rfl, rfl⟩
    case round =>
      obtain ⟨hA, i, hi, rfl, he⟩ := hrel
      have HA := Lib.hid hA; have HI := Lib.hid hi; have HE := Lib.hid he
      clear hA hi he
      by_cases hlt : i < l.length
      · have hltI : (i : Int) < (l.length : Int) := by omega
        have hltJ : (i : Int) < (m.length : Int) := by have := HLM.out; omega
        obtain ⟨g, off, rfl, k0, k1⟩ := cells_read HL.out HA.out hlt
        obtain ⟨g', off', rfl, j0, j1⟩ := cells_read HM.out HA.out (show i < m.length by have := HLM.out; omega)
        have HT := Lib.hid (show l.take (i + 1) = m.take (i + 1) ↔ atL l i = atL m i by
          have hm := (show i < m.length by have := HLM.out; omega)
          have e1 : l.take (i + 1) = m.take i ++ [atL l i] := by rw [List.take_succ_eq_append_getElem hlt, HE.out]; simp [atL, List.getD_eq_getElem?_getD, hlt]
          have e2 : m.take (i + 1) = m.take i ++ [atL m i] := by rw [List.take_succ_eq_append_getElem hm]; simp [atL, List.getD_eq_getElem?_getD, hm]
          rw [e1, e2]
          constructor
          · intro h; simpa using List.append_cancel_left h
          · intro h; rw [h])
        have HLt := Lib.hid hlt
        clear hlt
        obtain ⟨y, hy⟩ : ∃ y, atL l i = y := ⟨_, rfl⟩
        obtain ⟨z, hz⟩ : ∃ z, atL m i = z := ⟨_, rfl⟩
        rw [hy, hz] at HT
        rw [hy] at k0 k1
        rw [hz] at j0 j1
        clear hy hz
        obtain ⟨ya, yv⟩ := y
        obtain ⟨za, zv⟩ := z
        simp only at k0 k1 j0 j1
        by_cases hyz : (ya, yv) = (za, zv)
        · have HT2 := Lib.hid (HT.out.2 hyz)
          injection hyz with e1 e2
          subst e1 e2
          have hd : neC (ya, yv) (ya, yv) = false := by simp [neC]
          go_wp2_with fail
          go_quiet (fail)
          go_wp2_with fail
          exact ⟨⟨Adds.trans HA.out (Adds.drewN _ _), i + 1, HLt.out, rfl, HT2.out⟩, by have := HLt.out; simp [intOf]; omega⟩
        · have hd : neC (ya, yv) (za, zv) = true := decide_eq_true hyz
          have HNE := Lib.hid (show l ≠ m from fun e => hyz (HT.out.1 (by rw [e])))
          clear hyz
          go_wp2_with fail
          go_quiet (fail)
          go_wp2_with fail
          go_ret
          exact ⟨by rw [decide_eq_false HNE.out]; rfl, Adds.trans HA.out (Adds.drewN _ _)⟩
      · obtain rfl : i = l.length := by have := HI.out; omega
        have HEq := Lib.hid (show l = m by have := HE.out; rw [List.take_length, HLM.out, List.take_length] at this; exact this)
        clear hlt
        go_wp2_with fail
        go_ret
        exact ⟨by rw [decide_eq_true HEq.out]; rfl, HA.out⟩
  · have hlmI : ¬ ((l.length : Nat) : Int) = ((m.length : Nat) : Int) := by omega
    have hb1 : (((l.length : Nat) : Int) != ((m.length : Nat) : Int)) = true := by simp [bne, hlmI]
    have HNE := Lib.hid (show l ≠ m from fun e => hlm (by rw [e]))
    clear hlm
    go_wp2_with fail
    go_ret
    exact ⟨by rw [decide_eq_false HNE.out]; rfl, Adds.refl _⟩
/-- A store into the second one, the cells in a block of cells. -/
theorem TwoM.storedT {w0 w : World} {vm vo : Value} {S T : Nat → Nat} {c : List (Nat × Nat)} {g : Nat} (h : TwoM w0 w vm vo S T) (hg : w.heap[g]? = some (.cells (flatC c) 31 (0, 0))) (hok : cellsOk c) (hn : c.length ≤ 1000) :
    Calls Tryd.prog 12 #[vo, .slice (some ⟨g, 0, none⟩) c.length c.length] w fun e w' => e = .returned (.int .i64 0) ∧ TwoM w0 w' vm vo S (storeAll T c) ∧ KeepT w w' := by
  obtain ⟨⟨bm, b, L, bo, bb, K, h1, h2, h3, h4, h5⟩, h6⟩ := h
  have hnf : ¬ footP bo bb K g := by
    rintro (rfl | hf)
    · rw [h2.cell] at hg
      have h9 : (52 : Nat) = 31 := by
        have := Option.some.inj hg
        injection this
      exact absurd h9 (by decide)
    · exact foot_not_cell h2.mem hg hf
  refine (storeM_any bo bb vo _ c T K w h2 (cells_flat _ hnf hg hn) hok).mono ?_
  rintro e w' ⟨he, K', m1, f1, n1⟩
  refine ⟨he, ⟨⟨bm, b, L, bo, bb, K', h1.frm f1 (fun k hk hf => h5 k hk (.inr hf)), m1, h3, fun k hk => ?_, fun k hk hf => ?_⟩, Frm.adds h6 f1 (fun i hi => h4 i (.inr hi))⟩, frm_keepT h2.mem f1⟩
  · rcases hk with rfl | hk
    · exact h4 _ (.inl rfl)
    · rcases n1 k hk with hk | hk
      · exact h4 k (.inr hk)
      · exact Nat.le_trans h6.size hk
  · rcases hf with rfl | hf
    · exact h5 _ hk (.inl rfl)
    · rcases n1 k hf with hf | hf
      · exact h5 k hk (.inr hf)
      · have := h1.foot_lt hk; omega
theorem TwoM.has {w0 w : World} {vm vo : Value} {S T : Nat → Nat} (h : TwoM w0 w vm vo S T) : HasM w0 w vm S := by
  obtain ⟨⟨bm, b, L, bo, bb, K, h1, h2, h3, h4, h5⟩, h6⟩ := h
  exact ⟨⟨bm, b, L, h1, h3⟩, h6⟩
theorem HasM.copy {w0 w : World} {vm : Value} {S : Nat → Nat} (h : HasM w0 w vm S) :
    Calls Tryd.prog 20 #[vm] w fun e w' => ∃ vo, e = .returned vo ∧ TwoM w0 w' vm vo S S ∧ Adds w w' := by
  obtain ⟨⟨bm, b, L, h1, h2⟩, h3⟩ := h
  refine (copyM_any bm b vm S L w h1).mono ?_
  rintro e w' ⟨bm', b', L', he, h4, h5, h6⟩
  exact ⟨_, he, ⟨⟨bm, b, L, bm', b', L', h1.adds h5, h4, h2, fun k hk => Nat.le_trans h3.size (h6 k hk), fun k hk hf => by have := h1.foot_lt hk; have := h6 k hf; omega⟩, Adds.trans h3 h5⟩, h5⟩

theorem TwoM.under {w w0 w1 : World} {vm vo : Value} {S T : Nat → Nat} (h : TwoM w0 w1 vm vo S T) (ha : Adds w w0) : TwoM w w1 vm vo S T := by
  obtain ⟨⟨bm, b, L, bo, bb, K, h1, h2, h3, h4, h5⟩, h6⟩ := h
  exact ⟨⟨bm, b, L, bo, bb, K, h1, h2, fun k hk => Nat.le_trans ha.size (h3 k hk), fun k hk => Nat.le_trans ha.size (h4 k hk), h5⟩, Adds.trans ha h6⟩
theorem box_cells {w : World} {n : Nat} {a b : Int} {t : TypeId} (h : w.heap[n]? = some (.cells #[.int .u32 a, .int .u32 b] t (0, 0))) : w.cell? ⟨n, 0, none⟩ = some (.int .u32 a) ∧ w.cell? ⟨n, 1, none⟩ = some (.int .u32 b) := by
  rw [cell_of_row w _ _ _ _ _ h, cell_of_row w _ _ _ _ _ h]
  exact ⟨rfl, rfl⟩
theorem TwoM.stored1 {w0 w : World} {vm vo : Value} {S T : Nat → Nat} {g : Nat} (h : TwoM w0 w vm vo S T) (x : Nat × Nat) (hg : w.heap[g]? = some (.cells #[.int .u32 ((x.1 : Nat) : Int), .int .u32 ((x.2 : Nat) : Int)] 31 (0, 0))) (hx : x.1 < 4294967296 ∧ x.2 < 4294967296) :
    Calls Tryd.prog 12 #[vo, .slice (some ⟨g, 0, none⟩) 1 1] w fun e w' => e = .returned (.int .i64 0) ∧ TwoM w0 w' vm vo S (setW T x.1 x.2) ∧ KeepT w w' :=
  h.storedT (c := [x]) (by simpa [flatC, u32V] using hg) (by intro y hy; rw [List.mem_singleton.1 hy]; exact hx) (by simp)
theorem same_cells {S T : Nat → Nat} {cs ds : List (Nat × Nat)} (h : IsCells S cs) (k : IsCells T ds) (_hS : ∀ a, S a < 4294967296) (_hT : ∀ a, T a < 4294967296) : sameB S T = decide (cs = ds) := by
  by_cases e : cs = ds
  · rw [decide_eq_true e, sameB_true]
    subst e
    intro a ha
    by_cases h0 : S a = 0
    · by_cases h1 : T a = 0
      · rw [h0, h1]
      · have := (h.mem _).1 ((k.mem (a, T a)).2 ⟨ha, rfl, h1⟩)
        exact this.2.1.symm
    · exact ((k.mem _).1 ((h.mem (a, S a)).2 ⟨ha, rfl, h0⟩)).2.1
  · rw [decide_eq_false e]
    cases hb : sameB S T
    · rfl
    · exact absurd (h.uniq k (sameB_true.1 hb)) e
def Reg5C (w0 w1 : World) (vm vo : Value) (S : Nat → Nat) (x y : Nat × Nat) (L2 L3 L6 L7 : Bool) (s28 s32 : Value) (b' fr : Act) (w2 : World) : Prop :=
  b' = fr ∧ TwoM w0 w2 vm vo (cond L3 (setW S x.1 x.2) S) (cond L7 (setW S y.1 y.2) S) ∧ KeepT w1 w2 ∧
    (L2 = true → ∃ g, s28 = .slice (some ⟨g, 0, none⟩) 1 1 ∧ w2.heap[g]? = some (.cells #[.int .u32 ((x.1 : Nat) : Int), .int .u32 ((x.2 : Nat) : Int)] 31 (0, 0))) ∧
    (L6 = true → ∃ g, s32 = .slice (some ⟨g, 0, none⟩) 1 1 ∧ w2.heap[g]? = some (.cells #[.int .u32 ((y.1 : Nat) : Int), .int .u32 ((y.2 : Nat) : Int)] 31 (0, 0)))
def Reg6C (w1 : World) (cx cy : List (Nat × Nat)) (L5 L11 L12 L13 L14 L15 : Bool) (u39 u45 s12 s13 : Value) (b' fr : Act) (w2 : World) : Prop :=
  b' = fr ∧ Adds w1 w2 ∧ (L5 = true → OwnC 0 w2 u39 cx) ∧ (L11 = true → OwnC 0 w2 u45 cy) ∧
    (L12 = true → ∃ g, s12 = .pointer (some ⟨g, 0, none⟩) ∧ w1.heap.size ≤ g ∧ w2.heap[g]? = some (.cells #[cond L14 u39 (.slice none 0 0)] 27 (0, 0))) ∧
    (L13 = true → ∃ g, s13 = .pointer (some ⟨g, 0, none⟩) ∧ w1.heap.size ≤ g ∧ w2.heap[g]? = some (.cells #[cond L15 u45 (.slice none 0 0)] 27 (0, 0))) ∧
    (L12 = true → L13 = true → s12 ≠ s13)
set_option maxRecDepth 100000 in
set_option maxHeartbeats 16000000 in
theorem law_copiesM (v : Value) (l : List (Nat × Nat)) (x y : Nat × Nat) (w : World) (hl : CellsW (fun g => g < w.heap.size) w v l) (hok : cellsOk l) (hx : x.1 < 4294967296 ∧ x.2 < 4294967296) (hy : y.1 < 4294967296 ∧ y.2 < 4294967296) (hw : Widths w) :
    Calls Tryd.prog 5 #[v, .agg #[.int .u32 ((x.1 : Nat) : Int), .int .u32 ((x.2 : Nat) : Int)], .agg #[.int .u32 ((y.1 : Nat) : Int), .int .u32 ((y.2 : Nat) : Int)]] w (TrueM w) := by
  have hmo : Tryd.prog.follows .mixedOrders = true := by kernel_rfl
  have HW := Lib.hid hw; have HOK := Lib.hid hok; have HXX := Lib.hid hx; have HYY := Lib.hid hy
  have HNum := Lib.hid numM_any
  clear hw hok hx hy
  obtain ⟨ao, cap, rfl, h1, h2, _⟩ := id hl
  have HL := Lib.hid hl
  clear hl
  unfold maxLen at h2
  obtain ⟨xa, xv⟩ := x
  obtain ⟨ya, yv⟩ := y
  simp only at HXX HYY
  refine (callsIn_wide (n := 6)).1 ?_
  refine callsIn_of_wp Tryd.func5 rfl trivial ?_ rfl
  simp only [Tryd.ntmps5, List.size_toArray, List.length_cons, List.length_nil, Nat.reduceAdd, Nat.reduceSub, Array.replicate_succ, Array.replicate_zero, List.push_toArray, List.append_toArray, List.nil_append, List.cons_append]
  obtain ⟨w1, hw1⟩ : ∃ w1, (w.alloc (.cells #[.int .u32 ((xa : Nat) : Int), .int .u32 ((xv : Nat) : Int)] 31)).alloc (.cells #[.int .u32 ((ya : Nat) : Int), .int .u32 ((yv : Nat) : Int)] 31) = w1 := ⟨_, rfl⟩
  have A1 := Lib.hid (show Adds w w1 by rw [← hw1]; exact Adds.trans (Adds.new _ _) (Adds.new _ _))
  have HB4 := Lib.hid (show w1.heap[w.heap.size]? = some (.cells #[.int .u32 ((xa : Nat) : Int), .int .u32 ((xv : Nat) : Int)] 31 (0, 0)) by rw [← hw1]; exact (Below.block (Adds.new _ _) _ (by simp)).trans (heap_alloc_new w _))
  have HB5 := Lib.hid (show w1.heap[w.heap.size + 1]? = some (.cells #[.int .u32 ((ya : Nat) : Int), .int .u32 ((yv : Nat) : Int)] 31 (0, 0)) by rw [← hw1]; have := heap_alloc_new (w.alloc (.cells #[.int .u32 ((xa : Nat) : Int), .int .u32 ((xv : Nat) : Int)] 31)) (.cells #[.int .u32 ((ya : Nat) : Int), .int .u32 ((yv : Nat) : Int)] 31); simpa using this)
  have HW1 := Lib.hid hw1
  have HWk := Lib.hid (fun (W : World) (h : Adds w W) => worksM_any W (HW.out.below h))
  by_cases h30 : 30 < l.length
  · have h30' : (30 : Int) < (l.length : Int) := by omega
    clear h30
    have HK := Lib.hid (hw1 ▸ HWk.out w1 A1.out)
    clear hw1
    gi_wp2_with (refine ⟨trivial, ?_⟩; gi_at_call 8; refine (callsIn_wide.2 HK.out).mono ?_; rintro z w2 ⟨rfl, a2⟩; rw [HW1.out] at a2; have A2 := Lib.hid a2; clear a2)
    go_ret
    exact ⟨rfl, Adds.trans A1.out A2.out⟩
  · have h30' : ¬ (30 : Int) < (l.length : Int) := by omega
    clear h30
    have HPl := Lib.hid (played_any (.slice ao l.length cap) l w1 ((HL.out.mono (fun g _ h => Nat.lt_of_lt_of_le h A1.out.size)).frm (Frm.of_adds (fun _ => False) A1.out) (fun _ _ => id)) HOK.out)
    obtain ⟨S, hS⟩ : ∃ S, storeAll (fun _ => 0) l = S := ⟨_, rfl⟩
    obtain ⟨cs, hcs⟩ : ∃ cs, refC l = cs := ⟨_, rfl⟩
    rw [hS, hcs, ← hw1] at HPl
    clear hS hcs hw1
    gi_wp2_with (first
      | (refine ⟨trivial, ?_⟩; gi_at_call 17; refine (callsIn_wide.2 HPl.out).mono ?_; rintro e w2 ⟨vm, rv, rfl, q1⟩; rw [HW1.out] at q1; have Q1 := Lib.hid q1; obtain ⟨rp, rn, rc, rfl⟩ := q1.ref.slice; clear q1; have HCo := Lib.hid ((Q1.out.mem.adds (Adds.new w2 (.cells #[.slice rp rn rc] 27))).copy))
      | (refine ⟨trivial, ?_⟩; gi_at_call 20; refine (callsIn_wide.2 HCo.out).mono ?_; rintro e w3 ⟨vo, rfl, q1, q2⟩; have HT3 := Lib.hid q1; have HA23 := Lib.hid (Adds.trans (Adds.new w2 (.cells #[.slice rp rn rc] 27)) q2); have HX8 := Lib.hid (show Boxed w3 w2.heap.size 27 (.slice rp rn rc) from boxed_adds (heap_alloc_new _ _) q2); clear q1 q2))
    obtain ⟨n4, hn4⟩ : ∃ n4, w.heap.size = n4 := ⟨_, rfl⟩
    have HN4 := Lib.hid hn4
    rw [hn4] at HB4 HB5 ⊢
    obtain ⟨n5, hn5⟩ : ∃ n5, n4 + 1 = n5 := ⟨_, rfl⟩
    rw [hn5] at HB5 ⊢
    obtain ⟨n8, hn8⟩ : ∃ n8, w2.heap.size = n8 := ⟨_, rfl⟩
    rw [hn8] at HX8 ⊢
    clear hn4 hn5 hn8 HPl HCo HW1
    have HA13 := Lib.hid (Adds.trans Q1.out.mem.low HA23.out)
    have HB43 := Lib.hid ((Below.block HA13.out n4 (Array.getElem?_eq_some_iff.1 HB4.out).1).trans HB4.out)
    have HB53 := Lib.hid ((Below.block HA13.out n5 (Array.getElem?_eq_some_iff.1 HB5.out).1).trans HB5.out)
    have HO3 := Lib.hid (Q1.out.ref.adds HA23.out)
    have HT3w := Lib.hid (show TwoM w w3 vm vo S S from HT3.out.under A1.out)
    have HCs := Lib.hid Q1.out.cells
    refine wpIn_region_inv (fun L b' w2 => ∃ s28 s32 : Value, Reg5C w w3 vm vo S (xa, xv) (ya, yv) (L 2) (L 3) (L 6) (L 7) s28 s32 b' ({ tmps := #[Value.slice ao l.length cap, Value.agg #[Value.int IntKind.u32 ((xa : Nat) : Int), Value.int IntKind.u32 ((xv : Nat) : Int)], Value.agg #[Value.int IntKind.u32 ((ya : Nat) : Int), Value.int IntKind.u32 ((yv : Nat) : Int)], undef, Value.pointer (some { block := n4, off := 0 }), Value.pointer (some { block := n5, off := 0 }), Value.bool false, vm, Value.pointer (some { block := n8, off := 0 }), vo, sel2 (L 8) (Value.int IntKind.i64 0) (undef), sel2 (L 9) (Value.int IntKind.i64 0) (undef), undef, undef, undef, Value.slice ao l.length cap, Value.int IntKind.i64 ((l.length : Nat) : Int), Value.bool false, undef, Value.tuple #[vm, Value.agg #[Value.slice rp rn rc]], Value.slice ao l.length cap, Value.tuple #[vm, Value.agg #[Value.slice rp rn rc]], vm, Value.agg #[Value.slice rp rn rc], vm, vo, sel2 (L 0) (vm) (undef), sel2 (L 1) (Value.agg #[Value.int IntKind.u32 ((xa : Nat) : Int), Value.int IntKind.u32 ((xv : Nat) : Int)]) (undef), sel2 (L 2) (s28) (undef), sel2 (L 3) (Value.int IntKind.i64 0) (undef), sel2 (L 4) (vo) (undef), sel2 (L 5) (Value.agg #[Value.int IntKind.u32 ((ya : Nat) : Int), Value.int IntKind.u32 ((yv : Nat) : Int)]) (undef), sel2 (L 6) (s32) (undef), sel2 (L 7) (Value.int IntKind.i64 0) (undef), undef, undef, undef, undef, undef, undef, undef, undef, undef, undef, undef, undef, undef, undef, undef, undef, undef, undef, undef, undef, undef, undef, undef, undef, undef, undef, undef, undef, undef, undef, undef, undef, undef, undef, undef, undef, undef, undef, undef, undef, undef, undef, undef, undef, undef, undef, undef, undef, undef, undef], defers := [] }) w2) hmo (by kernel_rfl) ?inv0 ?step ?fin
    case inv0 => exact ⟨undef, undef, rfl, HT3w.out.adds (Adds.drew _), KeepT.of_adds (Adds.drew _), fun h => (by cases h), fun h => (by cases h)⟩
    case step =>
      rintro L b' w2 i o ho hL hC he ⟨s28, s32, rfl, hP⟩
      have q3 := hC 3 _ rfl
      have q7 := hC 7 _ rfl
      simp [Region.binds] at q3 q7
      clear hC
      have HP := Lib.hid hP
      have hb4 := hP.2.1 n4 _ _ (by decide) HB43.out
      have hb5 := hP.2.1 n5 _ _ (by decide) HB53.out
      obtain ⟨d40, d41⟩ := box_cells hb4
      obtain ⟨d50, d51⟩ := box_cells hb5
      clear hP hb4 hb5
      rcases i with _ | _ | _ | _ | _ | _ | _ | _ | _ | _ | i
      · simp only [List.getElem?_cons_zero, Option.some.injEq] at ho
        subst ho
        try simp [Region.binds] at he
        clear q3 q7
        try simp only []
        gi_wp2
        refine ⟨s28, s32, by simp [sel2, *], (by first | exact HP.out.1 | simpa [he] using HP.out.1), (by first | exact HP.out.2.1 | simpa [he] using HP.out.2.1), (by first | exact HP.out.2.2.1 | simpa [he] using HP.out.2.2.1), (by first | exact HP.out.2.2.2 | simpa [he] using HP.out.2.2.2)⟩
      · simp only [List.getElem?_cons_zero, List.getElem?_cons_succ, Option.some.injEq] at ho
        subst ho
        try simp [Region.binds] at he
        clear q3 q7
        try simp only []
        gi_wp2
        refine ⟨s28, s32, by simp [sel2, *], (by first | exact HP.out.1 | simpa [he] using HP.out.1), (by first | exact HP.out.2.1 | simpa [he] using HP.out.2.1), (by first | exact HP.out.2.2.1 | simpa [he] using HP.out.2.2.1), (by first | exact HP.out.2.2.2 | simpa [he] using HP.out.2.2.2)⟩
      · simp only [List.getElem?_cons_zero, List.getElem?_cons_succ, Option.some.injEq] at ho
        subst ho
        try simp [Region.binds] at he
        have z3 : L 3 = false := by cases h : L 3 with | false => rfl | true => (have := q3 h; simp [hL] at this)
        clear q3 q7
        simp only [he, sel2_t]
        gi_wp2
        refine ⟨.slice (some ⟨w2.heap.size, 0, none⟩) 1 1, s32, by simp [sel2, *], (by have e := HP.out.1; rw [z3] at e; simpa [z3] using e.adds (Adds.new w2 _)), KeepT.trans HP.out.2.1 (KeepT.of_adds (Adds.new w2 _)), (fun _ => ⟨_, rfl, heap_alloc_new w2 _⟩), (fun h => by obtain ⟨g, e1, e2⟩ := HP.out.2.2.2 (by first | exact h | simp [he]); exact ⟨g, e1, (Below.block (Adds.new w2 _) g (Array.getElem?_eq_some_iff.1 e2).1).trans e2⟩)⟩
      · simp only [List.getElem?_cons_zero, List.getElem?_cons_succ, Option.some.injEq] at ho
        subst ho
        try simp [Region.binds] at he
        have z7 : L 7 = false := by cases h : L 7 with | false => rfl | true => (have := q7 h; simp [hL] at this)
        clear q3 q7
        have p2 : L 2 = true := by simp [he]
        obtain ⟨g, rfl, hg⟩ := HP.out.2.2.1 p2
        have e := HP.out.1
        rw [hL, z7] at e
        simp only [cond_false] at e
        have HC := Lib.hid (TwoM.stored1 e.swap (xa, xv) hg HXX.out)
        clear e hg
        simp only [he, sel2_t]
        gi_wp2_with (refine ⟨trivial, ?_⟩; gi_at_call 12; refine (callsIn_wide.2 HC.out).mono ?_; rintro e w3 ⟨rfl, q1, q2⟩; have Q1 := Lib.hid q1; have Q2 := Lib.hid q2; clear q1 q2)
        refine ⟨.slice (some ⟨g, 0, none⟩) 1 1, s32, by simp [sel2, *], (by simpa [z7] using Q1.out.swap), KeepT.trans HP.out.2.1 Q2.out, (fun h => by obtain ⟨g, e1, e2⟩ := HP.out.2.2.1 (by first | exact h | simp [he]); exact ⟨g, e1, Q2.out g _ _ (by decide) e2⟩), (fun h => by obtain ⟨g, e1, e2⟩ := HP.out.2.2.2 (by first | exact h | simp [he]); exact ⟨g, e1, Q2.out g _ _ (by decide) e2⟩)⟩
      · simp only [List.getElem?_cons_zero, List.getElem?_cons_succ, Option.some.injEq] at ho
        subst ho
        try simp [Region.binds] at he
        clear q3 q7
        try simp only []
        gi_wp2
        refine ⟨s28, s32, by simp [sel2, *], (by first | exact HP.out.1 | simpa [he] using HP.out.1), (by first | exact HP.out.2.1 | simpa [he] using HP.out.2.1), (by first | exact HP.out.2.2.1 | simpa [he] using HP.out.2.2.1), (by first | exact HP.out.2.2.2 | simpa [he] using HP.out.2.2.2)⟩
      · simp only [List.getElem?_cons_zero, List.getElem?_cons_succ, Option.some.injEq] at ho
        subst ho
        try simp [Region.binds] at he
        clear q3 q7
        try simp only []
        gi_wp2
        refine ⟨s28, s32, by simp [sel2, *], (by first | exact HP.out.1 | simpa [he] using HP.out.1), (by first | exact HP.out.2.1 | simpa [he] using HP.out.2.1), (by first | exact HP.out.2.2.1 | simpa [he] using HP.out.2.2.1), (by first | exact HP.out.2.2.2 | simpa [he] using HP.out.2.2.2)⟩
      · simp only [List.getElem?_cons_zero, List.getElem?_cons_succ, Option.some.injEq] at ho
        subst ho
        try simp [Region.binds] at he
        have z7 : L 7 = false := by cases h : L 7 with | false => rfl | true => (have := q7 h; simp [hL] at this)
        clear q3 q7
        simp only [he, sel2_t]
        gi_wp2
        refine ⟨s28, .slice (some ⟨w2.heap.size, 0, none⟩) 1 1, by simp [sel2, *], (by have e := HP.out.1; rw [z7] at e; simpa [z7] using e.adds (Adds.new w2 _)), KeepT.trans HP.out.2.1 (KeepT.of_adds (Adds.new w2 _)), (fun h => by obtain ⟨g, e1, e2⟩ := HP.out.2.2.1 (by first | exact h | simp [he]); exact ⟨g, e1, (Below.block (Adds.new w2 _) g (Array.getElem?_eq_some_iff.1 e2).1).trans e2⟩), (fun _ => ⟨_, rfl, heap_alloc_new w2 _⟩)⟩
      · simp only [List.getElem?_cons_zero, List.getElem?_cons_succ, Option.some.injEq] at ho
        subst ho
        try simp [Region.binds] at he
        clear q3 q7
        have p6 : L 6 = true := by simp [he]
        have p3 : L 3 = true := by simp [he]
        obtain ⟨g, rfl, hg⟩ := HP.out.2.2.2 p6
        have e := HP.out.1
        rw [hL, p3] at e
        simp only [cond_false, cond_true] at e
        have HC := Lib.hid (TwoM.stored1 e (ya, yv) hg HYY.out)
        clear e hg
        simp only [he, sel2_t]
        gi_wp2_with (refine ⟨trivial, ?_⟩; gi_at_call 12; refine (callsIn_wide.2 HC.out).mono ?_; rintro e w3 ⟨rfl, q1, q2⟩; have Q1 := Lib.hid q1; have Q2 := Lib.hid q2; clear q1 q2)
        refine ⟨s28, .slice (some ⟨g, 0, none⟩) 1 1, by simp [sel2, *], (by simpa [p3] using Q1.out), KeepT.trans HP.out.2.1 Q2.out, (fun h => by obtain ⟨g, e1, e2⟩ := HP.out.2.2.1 (by first | exact h | simp [he]); exact ⟨g, e1, Q2.out g _ _ (by decide) e2⟩), (fun h => by obtain ⟨g, e1, e2⟩ := HP.out.2.2.2 (by first | exact h | simp [he]); exact ⟨g, e1, Q2.out g _ _ (by decide) e2⟩)⟩
      · simp only [List.getElem?_cons_zero, List.getElem?_cons_succ, Option.some.injEq] at ho
        subst ho
        try simp [Region.binds] at he
        clear q3 q7
        try simp only [he, sel2_t]
        gi_wp2
        refine ⟨s28, s32, by simp [sel2, *], (by first | exact HP.out.1 | simpa [he] using HP.out.1), (by first | exact HP.out.2.1 | simpa [he] using HP.out.2.1), (by first | exact HP.out.2.2.1 | simpa [he] using HP.out.2.2.1), (by first | exact HP.out.2.2.2 | simpa [he] using HP.out.2.2.2)⟩
      · simp only [List.getElem?_cons_zero, List.getElem?_cons_succ, Option.some.injEq] at ho
        subst ho
        try simp [Region.binds] at he
        clear q3 q7
        try simp only [he, sel2_t]
        gi_wp2
        refine ⟨s28, s32, by simp [sel2, *], (by first | exact HP.out.1 | simpa [he] using HP.out.1), (by first | exact HP.out.2.1 | simpa [he] using HP.out.2.1), (by first | exact HP.out.2.2.1 | simpa [he] using HP.out.2.2.1), (by first | exact HP.out.2.2.2 | simpa [he] using HP.out.2.2.2)⟩
      · simp at ho
    case fin =>
      rintro b w4 ⟨s28, s32, rfl, hT, hK, h28, h32⟩
      simp only [List.length_cons, List.length_nil, Nat.reduceAdd, Nat.reduceLT, decide_true, sel2_t, cond_true] at hT ⊢
      obtain ⟨g28, rfl, _⟩ := h28 rfl
      obtain ⟨g32, rfl, _⟩ := h32 rfl
      have HT4 := Lib.hid hT; have HK4 := Lib.hid hK
      clear hT hK h28 h32
      have HX84 := Lib.hid (HK4.out n8 _ _ (by decide) HX8.out)
      have HB44 := Lib.hid (HK4.out n4 _ _ (by decide) HB43.out)
      have HB54 := Lib.hid (HK4.out n5 _ _ (by decide) HB53.out)
      have HO4 := Lib.hid (HO3.out.keepA HK4.out.a)
      have HRS := Lib.hid (fun (W : World) (h : Adds w4 W) (a v : Nat) => refStore_any (.slice rp rn rc) cs a v W ((HO4.out.adds h).cells.mono fun _ _ _ => trivial) (cells_few HCs.out))
      gi_wp2
      refine wpIn_region_inv (fun L b' w2 => ∃ u39 u45 s12 s13 : Value, Reg6C w4 (stC xa xv cs) (stC ya yv cs) (L 5) (L 11) (L 12) (L 13) (L 14) (L 15) u39 u45 s12 s13 b' ({ tmps := #[Value.slice ao l.length cap, Value.agg #[Value.int IntKind.u32 ((xa : Nat) : Int), Value.int IntKind.u32 ((xv : Nat) : Int)], Value.agg #[Value.int IntKind.u32 ((ya : Nat) : Int), Value.int IntKind.u32 ((yv : Nat) : Int)], undef, Value.pointer (some { block := n4, off := 0 }), Value.pointer (some { block := n5, off := 0 }), Value.bool false, vm, Value.pointer (some { block := n8, off := 0 }), vo, Value.int IntKind.i64 0, Value.int IntKind.i64 0, sel2 (L 12) (s12) (undef), sel2 (L 13) (s13) (undef), undef, Value.slice ao l.length cap, Value.int IntKind.i64 ((l.length : Nat) : Int), Value.bool false, undef, Value.tuple #[vm, Value.agg #[Value.slice rp rn rc]], Value.slice ao l.length cap, Value.tuple #[vm, Value.agg #[Value.slice rp rn rc]], vm, Value.agg #[Value.slice rp rn rc], vm, vo, vm, Value.agg #[Value.int IntKind.u32 ((xa : Nat) : Int), Value.int IntKind.u32 ((xv : Nat) : Int)], Value.slice (some { block := g28, off := 0 }) 1 1, Value.int IntKind.i64 0, vo, Value.agg #[Value.int IntKind.u32 ((ya : Nat) : Int), Value.int IntKind.u32 ((yv : Nat) : Int)], Value.slice (some { block := g32, off := 0 }) 1 1, Value.int IntKind.i64 0, sel2 (L 0) (Value.agg #[Value.slice rp rn rc]) (undef), sel2 (L 1) (Value.pointer (some { block := n4, off := 0 })) (undef), sel2 (L 2) (Value.int IntKind.u32 ((xa : Nat) : Int)) (undef), sel2 (L 3) (Value.pointer (some { block := n4, off := 1 })) (undef), sel2 (L 4) (Value.int IntKind.u32 ((xv : Nat) : Int)) (undef), sel2 (L 5) (Value.agg #[u39]) (undef), sel2 (L 6) (Value.agg #[Value.slice rp rn rc]) (undef), sel2 (L 7) (Value.pointer (some { block := n5, off := 0 })) (undef), sel2 (L 8) (Value.int IntKind.u32 ((ya : Nat) : Int)) (undef), sel2 (L 9) (Value.pointer (some { block := n5, off := 1 })) (undef), sel2 (L 10) (Value.int IntKind.u32 ((yv : Nat) : Int)) (undef), sel2 (L 11) (Value.agg #[u45]) (undef), undef, undef, undef, undef, undef, undef, undef, undef, undef, undef, undef, undef, undef, undef, undef, undef, undef, undef, undef, undef, undef, undef, undef, undef, undef, undef, undef, undef, undef, undef, undef, undef, undef, undef, undef, undef, undef, undef], defers := [] }) w2) hmo (by kernel_rfl) ?inv1 ?step1 ?fin1
      case inv1 => exact ⟨undef, undef, undef, undef, rfl, Adds.drew _, fun h => (by cases h), fun h => (by cases h), fun h => (by cases h), fun h => (by cases h), fun h => (by cases h)⟩
      case step1 =>
        rintro L b' w2 i o ho hL hC he ⟨u39, u45, s12, s13, rfl, hA, hP⟩
        have q14 := hC 14 _ rfl
        have q15 := hC 15 _ rfl
        simp [Region.binds] at q14 q15
        clear hC
        have HA := Lib.hid hA; have HP := Lib.hid hP
        obtain ⟨d40, d41⟩ := box_cells ((Below.block hA n4 (Array.getElem?_eq_some_iff.1 HB44.out).1).trans HB44.out)
        obtain ⟨d50, d51⟩ := box_cells ((Below.block hA n5 (Array.getElem?_eq_some_iff.1 HB54.out).1).trans HB54.out)
        have d8 := (boxed_adds HX84.out hA).cell
        clear hA hP
        rcases i with _ | _ | _ | _ | _ | _ | _ | _ | _ | _ | _ | _ | _ | _ | _ | _ | i
        · simp only [List.getElem?_cons_zero, Option.some.injEq] at ho
          subst ho
          try simp [Region.binds] at he
          clear q14 q15
          try simp only []
          gi_wp2
          refine ⟨u39, u45, s12, s13, by simp [sel2, *], HA.out, (by first | exact HP.out.1 | simpa [he] using HP.out.1), (by first | exact HP.out.2.1 | simpa [he] using HP.out.2.1), (by first | exact HP.out.2.2.1 | simpa [he] using HP.out.2.2.1), (by first | exact HP.out.2.2.2.1 | simpa [he] using HP.out.2.2.2.1), (by first | exact HP.out.2.2.2.2 | simpa [he] using HP.out.2.2.2.2)⟩
        · simp only [List.getElem?_cons_zero, List.getElem?_cons_succ, Option.some.injEq] at ho
          subst ho
          try simp [Region.binds] at he
          clear q14 q15
          try simp only []
          gi_wp2
          refine ⟨u39, u45, s12, s13, by simp [sel2, *], HA.out, (by first | exact HP.out.1 | simpa [he] using HP.out.1), (by first | exact HP.out.2.1 | simpa [he] using HP.out.2.1), (by first | exact HP.out.2.2.1 | simpa [he] using HP.out.2.2.1), (by first | exact HP.out.2.2.2.1 | simpa [he] using HP.out.2.2.2.1), (by first | exact HP.out.2.2.2.2 | simpa [he] using HP.out.2.2.2.2)⟩
        · simp only [List.getElem?_cons_zero, List.getElem?_cons_succ, Option.some.injEq] at ho
          subst ho
          try simp [Region.binds] at he
          clear q14 q15
          try simp only [he, sel2_t]
          gi_wp2
          refine ⟨u39, u45, s12, s13, by simp [sel2, *], HA.out, (by first | exact HP.out.1 | simpa [he] using HP.out.1), (by first | exact HP.out.2.1 | simpa [he] using HP.out.2.1), (by first | exact HP.out.2.2.1 | simpa [he] using HP.out.2.2.1), (by first | exact HP.out.2.2.2.1 | simpa [he] using HP.out.2.2.2.1), (by first | exact HP.out.2.2.2.2 | simpa [he] using HP.out.2.2.2.2)⟩
        · simp only [List.getElem?_cons_zero, List.getElem?_cons_succ, Option.some.injEq] at ho
          subst ho
          try simp [Region.binds] at he
          clear q14 q15
          try simp only []
          gi_wp2
          refine ⟨u39, u45, s12, s13, by simp [sel2, *], HA.out, (by first | exact HP.out.1 | simpa [he] using HP.out.1), (by first | exact HP.out.2.1 | simpa [he] using HP.out.2.1), (by first | exact HP.out.2.2.1 | simpa [he] using HP.out.2.2.1), (by first | exact HP.out.2.2.2.1 | simpa [he] using HP.out.2.2.2.1), (by first | exact HP.out.2.2.2.2 | simpa [he] using HP.out.2.2.2.2)⟩
        · simp only [List.getElem?_cons_zero, List.getElem?_cons_succ, Option.some.injEq] at ho
          subst ho
          try simp [Region.binds] at he
          clear q14 q15
          try simp only [he, sel2_t]
          gi_wp2
          refine ⟨u39, u45, s12, s13, by simp [sel2, *], HA.out, (by first | exact HP.out.1 | simpa [he] using HP.out.1), (by first | exact HP.out.2.1 | simpa [he] using HP.out.2.1), (by first | exact HP.out.2.2.1 | simpa [he] using HP.out.2.2.1), (by first | exact HP.out.2.2.2.1 | simpa [he] using HP.out.2.2.2.1), (by first | exact HP.out.2.2.2.2 | simpa [he] using HP.out.2.2.2.2)⟩
        · simp only [List.getElem?_cons_zero, List.getElem?_cons_succ, Option.some.injEq] at ho
          subst ho
          try simp [Region.binds] at he
          have z14 : L 14 = false := by cases h : L 14 with | false => rfl | true => (have := q14 h; simp [hL] at this)
          have z15 : L 15 = false := by cases h : L 15 with | false => rfl | true => (have := q15 h; simp [z14] at this)
          clear q14 q15
          simp only [he, sel2_t]
          gi_wp2_with (refine ⟨trivial, ?_⟩; gi_at_call 10; refine (callsIn_wide.2 (HRS.out w2 HA.out xa xv)).mono ?_; rintro e w3 ⟨s, rfl, hs, hA3⟩; have HA3 := Lib.hid hA3; have HS := Lib.hid (OwnC.base hs (Nat.zero_le _)); clear hs hA3)
          refine ⟨s, u45, s12, s13, by simp [sel2, *], Adds.trans HA.out HA3.out, (fun _ => HS.out), (fun h => (HP.out.2.1 (by first | exact h | simp [he])).adds HA3.out), (fun h => by obtain ⟨g, e1, e2, e3⟩ := HP.out.2.2.1 (by first | exact h | simp [he]); refine ⟨g, e1, e2, ?_⟩; have e4 := (Below.block HA3.out g (Array.getElem?_eq_some_iff.1 e3).1).trans e3; rw [z14] at e4; simpa [z14] using e4), (fun h => by obtain ⟨g, e1, e2, e3⟩ := HP.out.2.2.2.1 (by first | exact h | simp [he]); refine ⟨g, e1, e2, ?_⟩; have e4 := (Below.block HA3.out g (Array.getElem?_eq_some_iff.1 e3).1).trans e3; rw [z15] at e4; simpa [z15] using e4), (by first | exact HP.out.2.2.2.2 | simpa [he] using HP.out.2.2.2.2)⟩
        · simp only [List.getElem?_cons_zero, List.getElem?_cons_succ, Option.some.injEq] at ho
          subst ho
          try simp [Region.binds] at he
          clear q14 q15
          try simp only []
          gi_wp2
          refine ⟨u39, u45, s12, s13, by simp [sel2, *], HA.out, (by first | exact HP.out.1 | simpa [he] using HP.out.1), (by first | exact HP.out.2.1 | simpa [he] using HP.out.2.1), (by first | exact HP.out.2.2.1 | simpa [he] using HP.out.2.2.1), (by first | exact HP.out.2.2.2.1 | simpa [he] using HP.out.2.2.2.1), (by first | exact HP.out.2.2.2.2 | simpa [he] using HP.out.2.2.2.2)⟩
        · simp only [List.getElem?_cons_zero, List.getElem?_cons_succ, Option.some.injEq] at ho
          subst ho
          try simp [Region.binds] at he
          clear q14 q15
          try simp only []
          gi_wp2
          refine ⟨u39, u45, s12, s13, by simp [sel2, *], HA.out, (by first | exact HP.out.1 | simpa [he] using HP.out.1), (by first | exact HP.out.2.1 | simpa [he] using HP.out.2.1), (by first | exact HP.out.2.2.1 | simpa [he] using HP.out.2.2.1), (by first | exact HP.out.2.2.2.1 | simpa [he] using HP.out.2.2.2.1), (by first | exact HP.out.2.2.2.2 | simpa [he] using HP.out.2.2.2.2)⟩
        · simp only [List.getElem?_cons_zero, List.getElem?_cons_succ, Option.some.injEq] at ho
          subst ho
          try simp [Region.binds] at he
          clear q14 q15
          try simp only [he, sel2_t]
          gi_wp2
          refine ⟨u39, u45, s12, s13, by simp [sel2, *], HA.out, (by first | exact HP.out.1 | simpa [he] using HP.out.1), (by first | exact HP.out.2.1 | simpa [he] using HP.out.2.1), (by first | exact HP.out.2.2.1 | simpa [he] using HP.out.2.2.1), (by first | exact HP.out.2.2.2.1 | simpa [he] using HP.out.2.2.2.1), (by first | exact HP.out.2.2.2.2 | simpa [he] using HP.out.2.2.2.2)⟩
        · simp only [List.getElem?_cons_zero, List.getElem?_cons_succ, Option.some.injEq] at ho
          subst ho
          try simp [Region.binds] at he
          clear q14 q15
          try simp only []
          gi_wp2
          refine ⟨u39, u45, s12, s13, by simp [sel2, *], HA.out, (by first | exact HP.out.1 | simpa [he] using HP.out.1), (by first | exact HP.out.2.1 | simpa [he] using HP.out.2.1), (by first | exact HP.out.2.2.1 | simpa [he] using HP.out.2.2.1), (by first | exact HP.out.2.2.2.1 | simpa [he] using HP.out.2.2.2.1), (by first | exact HP.out.2.2.2.2 | simpa [he] using HP.out.2.2.2.2)⟩
        · simp only [List.getElem?_cons_zero, List.getElem?_cons_succ, Option.some.injEq] at ho
          subst ho
          try simp [Region.binds] at he
          clear q14 q15
          try simp only [he, sel2_t]
          gi_wp2
          refine ⟨u39, u45, s12, s13, by simp [sel2, *], HA.out, (by first | exact HP.out.1 | simpa [he] using HP.out.1), (by first | exact HP.out.2.1 | simpa [he] using HP.out.2.1), (by first | exact HP.out.2.2.1 | simpa [he] using HP.out.2.2.1), (by first | exact HP.out.2.2.2.1 | simpa [he] using HP.out.2.2.2.1), (by first | exact HP.out.2.2.2.2 | simpa [he] using HP.out.2.2.2.2)⟩
        · simp only [List.getElem?_cons_zero, List.getElem?_cons_succ, Option.some.injEq] at ho
          subst ho
          try simp [Region.binds] at he
          have z14 : L 14 = false := by cases h : L 14 with | false => rfl | true => (have := q14 h; simp [hL] at this)
          have z15 : L 15 = false := by cases h : L 15 with | false => rfl | true => (have := q15 h; simp [hL] at this)
          clear q14 q15
          simp only [he, sel2_t]
          gi_wp2_with (refine ⟨trivial, ?_⟩; gi_at_call 10; refine (callsIn_wide.2 (HRS.out w2 HA.out ya yv)).mono ?_; rintro e w3 ⟨s, rfl, hs, hA3⟩; have HA3 := Lib.hid hA3; have HS := Lib.hid (OwnC.base hs (Nat.zero_le _)); clear hs hA3)
          refine ⟨u39, s, s12, s13, by simp [sel2, *], Adds.trans HA.out HA3.out, (fun h => (HP.out.1 (by first | exact h | simp [he])).adds HA3.out), (fun _ => HS.out), (fun h => by obtain ⟨g, e1, e2, e3⟩ := HP.out.2.2.1 (by first | exact h | simp [he]); refine ⟨g, e1, e2, ?_⟩; have e4 := (Below.block HA3.out g (Array.getElem?_eq_some_iff.1 e3).1).trans e3; rw [z14] at e4; simpa [z14] using e4), (fun h => by obtain ⟨g, e1, e2, e3⟩ := HP.out.2.2.2.1 (by first | exact h | simp [he]); refine ⟨g, e1, e2, ?_⟩; have e4 := (Below.block HA3.out g (Array.getElem?_eq_some_iff.1 e3).1).trans e3; rw [z15] at e4; simpa [z15] using e4), (by first | exact HP.out.2.2.2.2 | simpa [he] using HP.out.2.2.2.2)⟩
        · simp only [List.getElem?_cons_zero, List.getElem?_cons_succ, Option.some.injEq] at ho
          subst ho
          try simp [Region.binds] at he
          have z14 : L 14 = false := by cases h : L 14 with | false => rfl | true => (have := q14 h; simp [hL] at this)
          clear q14 q15
          gi_wp2
          refine ⟨u39, u45, (.pointer (some ⟨w2.heap.size, 0, none⟩)), s13, by simp [sel2, *], Adds.trans HA.out (Adds.new w2 _), (fun h => (HP.out.1 (by first | exact h | simp [he])).adds (Adds.new w2 _)), (fun h => (HP.out.2.1 (by first | exact h | simp [he])).adds (Adds.new w2 _)), (fun _ => ⟨_, rfl, Below.size HA.out, by have e := heap_alloc_new w2 (.cells #[.slice none 0 0] 27); simpa [z14] using e⟩), (fun h => by obtain ⟨g, e1, e2, e3⟩ := HP.out.2.2.2.1 (by first | exact h | simp [he]); exact ⟨g, e1, e2, (Below.block (Adds.new w2 _) g (Array.getElem?_eq_some_iff.1 e3).1).trans e3⟩), (fun _ h e => by obtain ⟨g, e1, e2, e3⟩ := HP.out.2.2.2.1 (by first | exact h | simp [he]); rw [e1] at e; injection e with e; injection e with e; injection e with e; have := (Array.getElem?_eq_some_iff.1 e3).1; omega)⟩
        · simp only [List.getElem?_cons_zero, List.getElem?_cons_succ, Option.some.injEq] at ho
          subst ho
          try simp [Region.binds] at he
          have z15 : L 15 = false := by cases h : L 15 with | false => rfl | true => (have := q15 h; simp [hL] at this)
          clear q14 q15
          gi_wp2
          refine ⟨u39, u45, s12, (.pointer (some ⟨w2.heap.size, 0, none⟩)), by simp [sel2, *], Adds.trans HA.out (Adds.new w2 _), (fun h => (HP.out.1 (by first | exact h | simp [he])).adds (Adds.new w2 _)), (fun h => (HP.out.2.1 (by first | exact h | simp [he])).adds (Adds.new w2 _)), (fun h => by obtain ⟨g, e1, e2, e3⟩ := HP.out.2.2.1 (by first | exact h | simp [he]); exact ⟨g, e1, e2, (Below.block (Adds.new w2 _) g (Array.getElem?_eq_some_iff.1 e3).1).trans e3⟩), (fun _ => ⟨_, rfl, Below.size HA.out, by have e := heap_alloc_new w2 (.cells #[.slice none 0 0] 27); simpa [z15] using e⟩), (fun h _ e => by obtain ⟨g, e1, e2, e3⟩ := HP.out.2.2.1 (by first | exact h | simp [he]); rw [e1] at e; injection e with e; injection e with e; injection e with e; have := (Array.getElem?_eq_some_iff.1 e3).1; omega)⟩
        · simp only [List.getElem?_cons_zero, List.getElem?_cons_succ, Option.some.injEq] at ho
          subst ho
          try simp [Region.binds] at he
          have z15 : L 15 = false := by cases h : L 15 with | false => rfl | true => (have := q15 h; simp [hL] at this)
          clear q14 q15
          have p12 : L 12 = true := by simp [he]
          have p5 : L 5 = true := by simp [he]
          obtain ⟨g, rfl, e2, e3⟩ := HP.out.2.2.1 p12
          rw [hL] at e3
          obtain ⟨p, k, c, rfl⟩ := (HP.out.1 p5).slice
          simp only [he, sel2_t]
          have HE3 := Lib.hid (show w2.heap[g]? = some (.cells #[.slice none 0 0] 27 (0, 0)) by simpa using e3)
          have c9 := (cell_of_box_a HE3.out).1
          have f9 := (cell_of_box_a HE3.out).2
          have HE2 := Lib.hid e2
          clear e2 e3
          gi_wp2
          have HT := Lib.hid (Turns.setCell g 0 w2 (.slice p k c))
          have HKA := Lib.hid (KeepA.turn HT.out HE3.out (by decide))
          have hbx := heap_setCell_box_a (.slice p k c) HE3.out
          refine ⟨.slice p k c, u45, .pointer (some ⟨g, 0, none⟩), s13, by simp [sel2, *], Below.grown HA.out HT.out (Below.size HA.out) (fun k e => by cases e; exact HE2.out), (fun h => (HP.out.1 (by first | exact h | simp [he])).keepA HKA.out), (fun h => (HP.out.2.1 (by first | exact h | simp [he])).keepA HKA.out), (fun _ => ⟨g, rfl, HE2.out, by simpa using hbx⟩), (fun h => by obtain ⟨g', e1, e2, e3⟩ := HP.out.2.2.2.1 (by first | exact h | simp [he]); have hne : some g' ≠ some g := fun e => HP.out.2.2.2.2 p12 (by first | exact h | simp [he]) (by rw [e1, Option.some.inj e]); have e4 := (HT.out.block g' (Array.getElem?_eq_some_iff.1 e3).1 hne).trans e3; rw [z15] at e4; exact ⟨g', e1, e2, by simpa [z15] using e4⟩), (by first | exact HP.out.2.2.2.2 | simpa [he] using HP.out.2.2.2.2)⟩
        · simp only [List.getElem?_cons_zero, List.getElem?_cons_succ, Option.some.injEq] at ho
          subst ho
          try simp [Region.binds] at he
          clear q14 q15
          have p13 : L 13 = true := by simp [he]
          have p11 : L 11 = true := by simp [he]
          have p14 : L 14 = true := by simp [he]
          obtain ⟨g, rfl, e2, e3⟩ := HP.out.2.2.2.1 p13
          rw [hL] at e3
          obtain ⟨p, k, c, rfl⟩ := (HP.out.2.1 p11).slice
          simp only [he, sel2_t]
          have HE3 := Lib.hid (show w2.heap[g]? = some (.cells #[.slice none 0 0] 27 (0, 0)) by simpa using e3)
          have c9 := (cell_of_box_a HE3.out).1
          have f9 := (cell_of_box_a HE3.out).2
          have HE2 := Lib.hid e2
          clear e2 e3
          gi_wp2
          have HT := Lib.hid (Turns.setCell g 0 w2 (.slice p k c))
          have HKA := Lib.hid (KeepA.turn HT.out HE3.out (by decide))
          have hbx := heap_setCell_box_a (.slice p k c) HE3.out
          refine ⟨u39, .slice p k c, s12, .pointer (some ⟨g, 0, none⟩), by simp [sel2, *], Below.grown HA.out HT.out (Below.size HA.out) (fun k e => by cases e; exact HE2.out), (fun h => (HP.out.1 (by first | exact h | simp [he])).keepA HKA.out), (fun h => (HP.out.2.1 (by first | exact h | simp [he])).keepA HKA.out), (fun h => by obtain ⟨g', e1, e2, e3⟩ := HP.out.2.2.1 (by first | exact h | simp [he]); have hne : some g' ≠ some g := fun e => HP.out.2.2.2.2 (by first | exact h | simp [he]) p13 (by rw [e1, Option.some.inj e]); have e4 := (HT.out.block g' (Array.getElem?_eq_some_iff.1 e3).1 hne).trans e3; rw [p14] at e4; exact ⟨g', e1, e2, by simpa [p14] using e4⟩), (fun _ => ⟨g, rfl, HE2.out, by simpa using hbx⟩), (by first | exact HP.out.2.2.2.2 | simpa [he] using HP.out.2.2.2.2)⟩
        · simp at ho
      case fin1 =>
        rintro b w5 ⟨u39, u45, s12, s13, rfl, hA, h39, h45, h12, h13, _⟩
        simp only [List.length_cons, List.length_nil, Nat.reduceAdd, Nat.reduceLT, decide_true, sel2_t]
        obtain ⟨g12, rfl, _, hx12⟩ := h12 rfl
        obtain ⟨g13, rfl, _, hx13⟩ := h13 rfl
        have hx12 : w5.heap[g12]? = some (.cells #[u39] 27 (0, 0)) := hx12
        have hx13 : w5.heap[g13]? = some (.cells #[u45] 27 (0, 0)) := hx13
        have H39 := Lib.hid (h39 rfl); have H45 := Lib.hid (h45 rfl); have HA5 := Lib.hid hA
        obtain ⟨p1, k1, c1, rfl⟩ := (h39 rfl).slice
        obtain ⟨p2, k2, c2, rfl⟩ := (h45 rfl).slice
        have HX12 := Lib.hid hx12; have HX13 := Lib.hid hx13
        have c12 := (cell_of_box_a hx12).1
        have c13 := (cell_of_box_a hx13).1
        clear hA h39 h45 h12 h13 hx12 hx13
        have HT5 := Lib.hid (HT4.out.adds HA5.out)
        obtain ⟨cx, hcx⟩ : ∃ cx, stC xa xv cs = cx := ⟨_, rfl⟩
        obtain ⟨cy, hcy⟩ : ∃ cy, stC ya yv cs = cy := ⟨_, rfl⟩
        have hIx := HCs.out.store xa xv HXX.out.1
        have hIy := HCs.out.store ya yv HYY.out.1
        obtain ⟨Sx, hSx⟩ : ∃ Sx, setW S xa xv = Sx := ⟨_, rfl⟩
        obtain ⟨Sy, hSy⟩ : ∃ Sy, setW S ya yv = Sy := ⟨_, rfl⟩
        rw [hcx, hSx] at hIx
        rw [hcy, hSy] at hIy
        have HT5' := Lib.hid (show TwoM w w5 vm vo Sx Sy by rw [← hSx, ← hSy]; exact HT5.out)
        rw [hcx] at H39
        rw [hcy] at H45
        have HIx := Lib.hid hIx; have HIy := Lib.hid hIy
        have hz : sameB Sx Sy = decide (cx = cy) := same_cells hIx hIy HT5'.out.has.word HT5'.out.swap.has.word
        have hz2 : sameB Sy Sx = decide (cx = cy) := (same_cells hIy hIx HT5'.out.swap.has.word HT5'.out.has.word).trans (by simp [eq_comm])
        have HCl := Lib.hid (refCells_any _ _ cx cy w5 (H39.out.cells.mono fun _ _ _ => trivial) (H45.out.cells.mono fun _ _ _ => trivial))
        obtain ⟨z, hzz⟩ : ∃ z, decide (cx = cy) = z := ⟨_, rfl⟩
        rw [hzz] at hz hz2 HCl
        have HS1 := Lib.hid (fun (W : World) (h : Adds w5 W) => (hz ▸ (HT5'.out.adds h).sameCall : Calls Tryd.prog 14 #[vm, vo] W fun e w' => e = Ending.returned (.bool z) ∧ Adds W w'))
        have HS2 := Lib.hid (fun (W : World) (h : Adds w5 W) => (hz2 ▸ (HT5'.out.swap.adds h).sameCall : Calls Tryd.prog 14 #[vo, vm] W fun e w' => e = Ending.returned (.bool z) ∧ Adds W w'))
        have HI1 := Lib.hid (fun (W : World) (h : Adds w5 W) => is_any vm (.slice p1 k1 c1) Sx cx 0 (by omega) 99 w W (HT5'.out.adds h).has (cells_adds (H39.out.cells.mono fun _ _ _ => trivial) h) HIx.out)
        have HI2 := Lib.hid (fun (W : World) (h : Adds w5 W) => is_any vo (.slice p2 k2 c2) Sy cy 0 (by omega) 99 w W (HT5'.out.swap.adds h).has (cells_adds (H45.out.cells.mono fun _ _ _ => trivial) h) HIy.out)
        have HWl := Lib.hid (show Adds w w5 from HT5'.out.low)
        clear hcx hcy hIx hIy hSx hSy hz hz2 hzz HT5 HT5' HIx HIy H39 H45 HT4 HRS HO4
        gi_wp2_with (first
          | (refine ⟨trivial, ?_⟩; gi_at_call 21; refine (callsIn_wide.2 HCl.out).mono ?_; rintro e w6 ⟨rfl, q⟩; have HA6 := Lib.hid q; have d12 := Adds.cellAt q c12; have d13 := Adds.cellAt q c13; clear q HCl)
          | (refine ⟨trivial, ?_⟩; gi_at_call 11; refine (callsIn_wide.2 (HNum.out _ _)).mono ?_; rintro e w3 ⟨rfl, rfl⟩)
          | (refine ⟨trivial, ?_⟩; gi_at_call 13; refine (callsIn_wide.2 (HI1.out w6 HA6.out)).mono ?_; rintro e w7 ⟨rfl, q⟩; have HA7 := Lib.hid (Adds.trans HA6.out q); have e13 := Adds.cellAt q d13; clear q HI1)
          | (refine ⟨trivial, ?_⟩; gi_at_call 13; refine (callsIn_wide.2 (HI2.out w7 HA7.out)).mono ?_; rintro e w8 ⟨rfl, q⟩; have HA8 := Lib.hid (Adds.trans HA7.out q); clear q HI2)
          | (refine ⟨trivial, ?_⟩; gi_at_call 14; refine (callsIn_wide.2 (HS1.out w8 HA8.out)).mono ?_; rintro e w9 ⟨rfl, q⟩; have HA9 := Lib.hid (Adds.trans HA8.out q); clear q HS1)
          | (refine ⟨trivial, ?_⟩; gi_at_call 14; refine (callsIn_wide.2 (HS2.out w9 HA9.out)).mono ?_; rintro e wa ⟨rfl, q⟩; have HAa := Lib.hid (Adds.trans HA9.out q); clear q HS2)
          | (refine ⟨trivial, ?_⟩; gi_at_call 8; refine (callsIn_wide.2 (HWk.out wa (Adds.trans HWl.out HAa.out))).mono ?_; rintro e wb ⟨rfl, q⟩; have HAb := Lib.hid (Adds.trans HAa.out q); clear q HWk))
        go_ret
        exact ⟨by simp, Adds.trans HWl.out HAb.out⟩
end Go.Proofs.YtleihmmkonakhaaDoor
