/- The law MemoryHolds, walked. -/
import Derived.Test.YtleihmmkonakhaaDoorMTwo2
import Derived.Test.YtleihmmkonakhaaDoorML1
import Derived.BigQuiet
namespace Go.Proofs.YtleihmmkonakhaaDoor
open Go Go.RowKit Go.Shelf Go.Maps

theorem two_new {w w1 w2 : World} {bm b bo bb : Nat} {vm vo : Value} (h1 : MemP w1 vm (fun _ => 0) bm b []) (a1 : Adds w w1) (l1 : w.heap.size ≤ bm) (l2 : w.heap.size ≤ b) (h2 : MemP w2 vo (fun _ => 0) bo bb []) (a2 : Adds w1 w2) (l3 : w1.heap.size ≤ bo) (l4 : w1.heap.size ≤ bb) :
    TwoM w w2 vm vo (fun _ => 0) (fun _ => 0) := by
  have hs := a1.size
  have hm : ∀ k, footP bm b [] k → k = bm ∨ k = b := fun k hk => by
    rcases hk with h | h | h
    · exact .inl h
    · exact .inr h
    · simp at h
  have ho : ∀ k, footP bo bb [] k → k = bo ∨ k = bb := fun k hk => by
    rcases hk with h | h | h
    · exact .inl h
    · exact .inr h
    · simp at h
  refine ⟨⟨bm, b, [], bo, bb, [], h1.adds a2, h2, fun k hk => ?_, fun k hk => ?_, fun k hk hf => ?_⟩, Adds.trans a1 a2⟩
  · rcases hm k hk with rfl | rfl <;> assumption
  · rcases ho k hk with rfl | rfl <;> omega
  · have hk1 := h1.foot_lt hk
    rcases ho k hf with rfl | rfl <;> omega
theorem cells_at {B : Nat → Prop} {w W : World} {ao : Option Addr} {cap : Nat} {l : List (Nat × Nat)} (h : CellsW B w (.slice ao l.length cap) l) (ha : Adds w W) {k : Nat} (hk : k < l.length) :
    ∃ g off, ao = some ⟨g, off, none⟩ ∧ W.cell? ⟨g, off + k * 2, none⟩ = some (.int .u32 (((atL l k).1 : Nat) : Int)) ∧ W.cell? ⟨g, off + k * 2 + 1, none⟩ = some (.int .u32 (((atL l k).2 : Nat) : Int)) := by
  obtain ⟨ao', cap', e, _, _, h3⟩ := h
  cases e
  obtain ⟨g, off, rfl, hg, hc⟩ := h3 (by rintro rfl; simp at hk)
  obtain ⟨k0, k1⟩ := hc k hk
  exact ⟨g, off, rfl, ha.cellAt k0, ha.cellAt k1⟩

theorem exec_build1 {o : Oper} {ev : Operand → Value} {w : World} {a : Operand} {x : Int} (ho : o.op = .build 31 #[(0, a)]) (ha : ev a = .int .u32 x) : (execOp ev o).run Tryd.prog w = .ok (.value (.agg #[.int .u32 x, .int .u32 0])) w := by
  have h : (Instr.build 31 #[(0, .int .u32 x)]).run Tryd.prog w = .ok (.agg #[.int .u32 x, .int .u32 0]) w := by kernel_rfl
  simp [execOp, ho, ha, h, Result.andThen]
theorem exec_build2 {o : Oper} {ev : Operand → Value} {w : World} {a b : Operand} {x y : Int} (ho : o.op = .build 31 #[(0, a), (1, b)]) (ha : ev a = .int .u32 x) (hb : ev b = .int .u32 y) : (execOp ev o).run Tryd.prog w = .ok (.value (.agg #[.int .u32 x, .int .u32 y])) w := by
  have h : (Instr.build 31 #[(0, .int .u32 x), (1, .int .u32 y)]).run Tryd.prog w = .ok (.agg #[.int .u32 x, .int .u32 y]) w := by kernel_rfl
  simp [execOp, ho, ha, hb, h, Result.andThen]

theorem bs3c (a b c d e f : Int) (w : World) : (Instr.buildSlice 22 3 #[(0, .agg #[.int .u32 a, .int .u32 b]), (1, .agg #[.int .u32 c, .int .u32 d]), (2, .agg #[.int .u32 e, .int .u32 f])]).run Tryd.prog w =
    .ok (.slice (some ⟨w.heap.size, 0, none⟩) 3 3) (w.alloc (.cells #[.int .u32 a, .int .u32 b, .int .u32 c, .int .u32 d, .int .u32 e, .int .u32 f] 31)) := by kernel_rfl
theorem bs1c (a b : Int) (w : World) : (Instr.buildSlice 22 1 #[(0, .agg #[.int .u32 a, .int .u32 b])]).run Tryd.prog w =
    .ok (.slice (some ⟨w.heap.size, 0, none⟩) 1 1) (w.alloc (.cells #[.int .u32 a, .int .u32 b] 31)) := by kernel_rfl
theorem exec_bs3 {o : Oper} {ev : Operand → Value} {x y z : Operand} (p q r : Nat × Nat) (ho : o.op = .buildSlice 22 3 #[(0, x), (1, y), (2, z)]) (hx : ev x = .agg #[.int .u32 ((p.1 : Nat) : Int), .int .u32 ((p.2 : Nat) : Int)]) (hy : ev y = .agg #[.int .u32 ((q.1 : Nat) : Int), .int .u32 ((q.2 : Nat) : Int)])
    (hz : ev z = .agg #[.int .u32 ((r.1 : Nat) : Int), .int .u32 ((r.2 : Nat) : Int)]) (w : World) : (execOp ev o).run Tryd.prog w = .ok (.value (.slice (some ⟨w.heap.size, 0, none⟩) [p, q, r].length [p, q, r].length)) (w.alloc (.cells (flatC [p, q, r]) 31)) := by
  have h := bs3c p.1 p.2 q.1 q.2 r.1 r.2 w
  simp [execOp, ho, hx, hy, hz, h, Result.andThen, flatC, u32V]
theorem exec_bs1 {o : Oper} {ev : Operand → Value} {x : Operand} (p : Nat × Nat) (ho : o.op = .buildSlice 22 1 #[(0, x)]) (hx : ev x = .agg #[.int .u32 ((p.1 : Nat) : Int), .int .u32 ((p.2 : Nat) : Int)]) (w : World) :
    (execOp ev o).run Tryd.prog w = .ok (.value (.slice (some ⟨w.heap.size, 0, none⟩) [p].length [p].length)) (w.alloc (.cells (flatC [p]) 31)) := by
  have h := bs1c p.1 p.2 w
  simp [execOp, ho, hx, h, Result.andThen, flatC, u32V]

theorem quiet_leftM {P : Program} {f : FuncId} {args : Array Value} {w : World} {n : Nat} {v : Value}
    (h : Calls P f args (w.drewN n) fun e w' => e = .returned v ∧ w.drewN n = w') : Calls P f args (w.drewN n) fun e w'' => e = .returned v ∧ ∃ m, w'' = w.drewN m :=
  h.mono fun _ _ ⟨he, hm⟩ => ⟨he, n, hm.symm⟩
set_option maxRecDepth 100000 in
set_option maxHeartbeats 16000000 in
theorem law_holdsM (v : Value) (l : List (Nat × Nat)) (w : World) (hl : CellsW (fun g => g < w.heap.size) w v l) (hok : cellsOk l) (hw : Widths w) :
    Calls Tryd.prog 7 #[v] w (TrueM w) := by
  have HW := Lib.hid hw; have HOK := Lib.hid hok
  clear hw hok
  obtain ⟨ao, cap, rfl, h1, h2, _⟩ := id hl
  have HL := Lib.hid hl
  clear hl
  unfold maxLen at h2
  by_cases h30 : 30 < l.length
  · have HK := Lib.hid (worksM_any w HW.out)
    have h30' : (30 : Int) < (l.length : Int) := by omega
    clear h30
    go_enter Tryd.func7, Tryd.ntmps7
    go_wp2_with (go_at_call 8; refine HK.out.mono ?_; rintro e w1 ⟨rfl, a1⟩; have A1 := Lib.hid a1; clear a1)
    go_ret
    exact ⟨rfl, A1.out⟩
  · have HLen := Lib.hid h30
    have h30' : ¬ (30 : Int) < (l.length : Int) := by omega
    clear h30
    go_enter Tryd.func7, Tryd.ntmps7
    go_wp2_with fail
    refine (newM_any w).mono ?_
    rintro e w1 ⟨bm, b, rfl, hm, ha, hbm, hb⟩
    have HM1 := Lib.hid hm; have HA1 := Lib.hid ha; have HB1 := Lib.hid (And.intro hbm hb)
    clear hm ha hbm hb
    go_wp2_with fail
    refine (newM_any w1).mono ?_
    rintro e w2 ⟨bo, bb, rfl, hm, ha, hbm, hb⟩
    have HT0 := Lib.hid (two_new HM1.out HA1.out HB1.out.1 HB1.out.2 hm ha hbm hb)
    clear hm ha hbm hb HM1 HA1 HB1
    obtain ⟨vm, hvm⟩ : ∃ vm, Value.pointer (some ⟨bm, 0, none⟩) = vm := ⟨_, rfl⟩
    obtain ⟨vo, hvo⟩ : ∃ vo, Value.pointer (some ⟨bo, 0, none⟩) = vo := ⟨_, rfl⟩
    rw [hvm] at HT0 ⊢
    rw [hvo] at HT0 ⊢
    clear hvm hvo
    go_wp2_with fail
    go_loopw [5] (fun i wr => ∃ k : Nat, k ≤ l.length ∧ i = .int .i64 k ∧ TwoM w wr vm vo (storeAll (fun _ => 0) (l.take k)) (fun _ => 0)) (fun i _ => l.length - (intOf i).toNat)
    case atStart => exact ⟨0, Nat.zero_le _, rfl, HT0.out⟩
    case round =>
      obtain ⟨k, hk, rfl, hT⟩ := hrel
      have HT := Lib.hid hT; have HK := Lib.hid hk
      clear hT hk
      by_cases hlt : k < l.length
      · obtain ⟨g, off, rfl, k0, k1⟩ := cells_at HL.out HT.out.low hlt
        have HS := Lib.hid (storeAll_take (fun _ => 0) l k hlt)
        have HX := Lib.hid (HOK.out.at k)
        have HLt := Lib.hid hlt
        have hltI : (k : Int) < (l.length : Int) := by omega
        obtain ⟨x, hx⟩ : ∃ x, atL l k = x := ⟨_, rfl⟩
        unfold atL at hx
        rw [hx] at HS HX
        unfold atL at k0 k1
        rw [hx] at k0 k1
        clear hx hlt
        obtain ⟨xa, xv⟩ := x
        simp only at HS HX k0 k1
        have HSt := Lib.hid ((HT.out.swap).stored (Adds.new wr (.cells #[.int .u32 ((xa : Nat) : Int), .int .u32 ((xv : Nat) : Int)] 31)) (cells_lit1 _ wr (xa, xv) (.inr (Nat.le_refl _))) (by intro y hy; rw [List.mem_singleton.1 hy]; exact HX.out))
        go_wp2_with (go_at_call 12; refine HSt.out.mono ?_; rintro e w3 ⟨rfl, q1⟩; have Q1 := Lib.hid q1.swap; clear q1)
        go_roundw
        case rel => exact ⟨k + 1, HLt.out, rfl, by rw [HS.out]; exact Q1.out⟩
        case measure => simp [intOf]; have := HLt.out; omega
      · obtain rfl : k = l.length := by have := HK.out; omega
        rw [List.take_length] at HT
        obtain ⟨S, hS⟩ : ∃ S, storeAll (fun _ => 0) l = S := ⟨_, rfl⟩
        have HSE := Lib.hid hS
        rw [hS] at HT
        clear hlt hS
        go_wp2_with fail
        go_loopw [6] (fun t6 wr => ∃ i : Nat, i ≤ l.length ∧ t6 = .int .i64 ((i : Int) - 1) ∧ TwoM w wr vm vo S (endT S l i)) (fun t6 _ => (intOf t6 + 1).toNat)
        case atStart => exact ⟨l.length, Nat.le_refl _, rfl, by rw [endT_none]; exact HT.out⟩
        case round =>
          clear HK HT HLen
          obtain ⟨i, hi, rfl, hT⟩ := hrel
          have HT := Lib.hid hT; have HI := Lib.hid hi
          clear hT hi
          by_cases hi0 : i = 0
          · subst hi0
            rw [← HSE.out, endT_all, HSE.out] at HT
            obtain ⟨cs, hcs⟩ := HT.out.cells
            have HSm := Lib.hid ((sameB_true.2 (fun _ _ => rfl : SameW S S)) ▸ HT.out.sameCall)
            have HD1 := Lib.hid (fun (W : World) (h : Adds wr W) => (HT.out.adds h).digest (HW.out.below (Adds.trans HT.out.low h)) hcs)
            have HD2 := Lib.hid (fun (W : World) (h : Adds wr W) => (HT.out.adds h).swap.digest (HW.out.below (Adds.trans HT.out.low h)) hcs)
            have HL1 := Lib.hid (fun (W : World) (h : Adds wr W) => (HT.out.adds h).len hcs)
            have HL2 := Lib.hid (fun (W : World) (h : Adds wr W) => (HT.out.adds h).swap.len hcs)
            have HWk := Lib.hid (fun (W : World) (h : Adds wr W) => worksM_any W (HW.out.below (Adds.trans HT.out.low h)))
            obtain ⟨z, hz⟩ : ∃ z, sumS (cellsB cs) = z := ⟨_, rfl⟩
            obtain ⟨n, hn⟩ : ∃ n, cs.length = n := ⟨_, rfl⟩
            rw [hz] at HD1 HD2
            rw [hn] at HL1 HL2
            have HLow := Lib.hid HT.out.low
            clear hcs hz hn HT
            go_wp2_with (first
              | (go_at_call 14; refine HSm.out.mono ?_; rintro e wA ⟨rfl, qA⟩; have QA := Lib.hid qA; clear qA HSm)
              | (go_at_call 15; refine (HD1.out wA QA.out).mono ?_; rintro e wB ⟨rfl, qB⟩; have QB := Lib.hid (Adds.trans QA.out qB); clear qB HD1)
              | (go_at_call 15; refine (HD2.out wB QB.out).mono ?_; rintro e wC ⟨rfl, qC⟩; have QC := Lib.hid (Adds.trans QB.out qC); clear qC HD2)
              | (go_at_call 23; refine (HL1.out wC QC.out).mono ?_; rintro e wD ⟨rfl, qD⟩; have QD := Lib.hid (Adds.trans QC.out qD); clear qD HL1)
              | (go_at_call 23; refine (HL2.out wD QD.out).mono ?_; rintro e wE ⟨rfl, qE⟩; have QE := Lib.hid (Adds.trans QD.out qE); clear qE HL2)
              | (go_at_call 8; refine (HWk.out wE QE.out).mono ?_; rintro e wF ⟨rfl, qF⟩; have QF := Lib.hid (Adds.trans QE.out qF); clear qF HWk))
            go_ret
            exact ⟨by simp, Adds.trans HLow.out QF.out⟩
          · obtain ⟨j, rfl⟩ : ∃ j, i = j + 1 := ⟨i - 1, by omega⟩
            have e1 : ((j + 1 : Nat) : Int) - 1 = (j : Int) := by omega
            rw [e1]
            have hjI : (j : Int) < (l.length : Int) := by have := HI.out; omega
            clear hi0 e1
            go_wp2_with fail
            go_loopw [7, 8] (fun t7 t8 wq => ∃ kk : Nat, j + 1 ≤ kk ∧ kk ≤ l.length ∧ t8 = .int .i64 kk ∧ t7 = .bool (decide ((atL l j).1 ∈ ((l.drop (j + 1)).take (kk - (j + 1))).map (·.1))) ∧ Adds wr wq) (fun _ t8 _ => l.length - (intOf t8).toNat)
            case atStart => exact ⟨j + 1, Nat.le_refl _, HI.out, by go_num, by simp, Adds.refl _⟩
            case round =>
              obtain ⟨kk, hk1, hk2, rfl, rfl, hA⟩ := hrel
              have HA := Lib.hid hA; have HK1 := Lib.hid hk1; have HK2 := Lib.hid hk2
              clear hA hk1 hk2
              obtain ⟨z, hz⟩ : ∃ z, decide ((atL l j).1 ∈ ((l.drop (j + 1)).take (kk - (j + 1))).map (·.1)) = z := ⟨_, rfl⟩
              have HZ := Lib.hid hz
              rw [hz]
              clear hz
              by_cases hlt : kk < l.length
              · have hltI : (kk : Int) < (l.length : Int) := by omega
                obtain ⟨g, off, rfl, k0, k1⟩ := cells_at HL.out (Adds.trans HT.out.low HA.out) hlt
                obtain ⟨g', off', e, j0, j1⟩ := cells_at HL.out (Adds.trans HT.out.low HA.out) (show j < l.length by omega)
                simp only [Option.some.injEq, Addr.mk.injEq, and_true] at e
                obtain ⟨rfl, rfl⟩ := e
                have HTk := Lib.hid (take_drop_at hlt HK1.out)
                have HLt := Lib.hid hlt
                clear k1 j1 hlt
                obtain ⟨x, hx⟩ : ∃ x, (atL l kk).1 = x := ⟨_, rfl⟩
                obtain ⟨y, hy⟩ : ∃ y, (atL l j).1 = y := ⟨_, rfl⟩
                have HX := Lib.hid hx; have HY := Lib.hid hy
                rw [hx] at k0; rw [hy] at j0 HZ
                clear hx hy
                have HNew := Lib.hid (show decide ((atL l j).1 ∈ ((l.drop (j + 1)).take (kk + 1 - (j + 1))).map (·.1)) = (z || decide (x = y)) by
                  rw [HTk.out, HY.out, List.map_append, ← HZ.out]
                  simp [HX.out, eq_comm])
                have HK1' := Lib.hid (show j + 1 ≤ kk + 1 ∧ kk + 1 ≤ l.length by have := HK1.out; have := HLt.out; omega)
                cases z with
                | true =>
                  go_wp2_with fail
                  go_quiet (fail)
                  go_wp2_with fail
                  go_roundw
                  case rel => exact ⟨kk + 1, HK1'.out.1, HK1'.out.2, rfl, by rw [HNew.out]; rfl, ⟨HA.out.os, HA.out.tape, HA.out.output, HA.out.size, HA.out.block⟩⟩
                  case measure => simp [intOf]; have := HLt.out; omega
                | false =>
                  by_cases hxy : x = y
                  · subst hxy
                    go_wp2_with fail
                    go_quiet (fail)
                    go_wp2_with fail
                    go_roundw
                    case rel => exact ⟨kk + 1, HK1'.out.1, HK1'.out.2, rfl, by rw [HNew.out]; simp, ⟨HA.out.os, HA.out.tape, HA.out.output, HA.out.size, HA.out.block⟩⟩
                    case measure => simp [intOf]; have := HLt.out; omega
                  · have hxI : ¬ ((x : Nat) : Int) = ((y : Nat) : Int) := by omega
                    have hd : decide (x = y) = false := decide_eq_false hxy
                    have HD := Lib.hid hd
                    clear hxy hd
                    go_wp2_with fail
                    go_quiet (fail)
                    go_wp2_with fail
                    go_roundw
                    case rel => exact ⟨kk + 1, HK1'.out.1, HK1'.out.2, rfl, by rw [HNew.out, HD.out, beq_eq_false_iff_ne.2 hxI]; rfl, ⟨HA.out.os, HA.out.tape, HA.out.output, HA.out.size, HA.out.block⟩⟩
                    case measure => simp [intOf]; have := HLt.out; omega
              · obtain rfl : kk = l.length := by have := HK2.out; omega
                have hfull : (l.drop (j + 1)).take (l.length - (j + 1)) = l.drop (j + 1) := List.take_of_length_le (by simp)
                rw [hfull] at HZ
                have HTw := Lib.hid (HT.out.adds HA.out)
                have HTw0 := HTw
                clear hlt hfull HT
                cases z with
                | true =>
                  have HIn := Lib.hid (of_decide_eq_true HZ.out)
                  have hj : j < l.length := by have := HI.out; omega
                  have hE := endT_later S l j hj HIn.out
                  rw [← hE] at HTw
                  have HT := HTw
                  have HX := Lib.hid (HOK.out.at j)
                  have HAt := Lib.hid (show l.getD j (0, 0) = atL l j from rfl)
                  rw [HAt.out] at HX
                  obtain ⟨g, off, rfl, j0, j1⟩ := cells_at HL.out HT.out.low hj
                  clear j0 j1 hj hE HTw HTw0
                  obtain ⟨y, hy⟩ : ∃ y, atL l j = y := ⟨_, rfl⟩
                  have HY := Lib.hid hy
                  rw [hy] at HX
                  clear hy
                  obtain ⟨ya, yv⟩ := y
                  simp only at HX
                  have HCj := Lib.hid (fun (W : World) (hW : Adds w W) => cells_at HL.out hW (show j < l.length by have := HI.out; omega))
                  rw [HY.out] at HCj
                  simp only at HCj
                  have HC := Lib.hid (fun (W : World) (hW : Adds w W) => show W.cell? ⟨g, off + j * 2, none⟩ = some (.int .u32 ((ya : Nat) : Int)) ∧ W.cell? ⟨g, off + j * 2 + 1, none⟩ = some (.int .u32 ((yv : Nat) : Int)) by
                    obtain ⟨g', off', e, h3, h4⟩ := HCj.out W hW
                    simp only [Option.some.injEq, Addr.mk.injEq, and_true] at e
                    obtain ⟨rfl, rfl⟩ := e
                    exact ⟨h3, h4⟩)
                  clear HCj
                  by_cases hne : S ya = yv
                  · have HEq := Lib.hid hne
                    clear hne
                    have HLd := Lib.hid (fun (W : World) (hW : Adds wr W) => (HT.out.adds hW).load ya HX.out.1)
                    rw [HEq.out] at HLd
                    obtain ⟨j0, j1⟩ := HC.out _ HT.out.low
                    go_wp2_with fail
                    go_quiet ((go_at_call 22; exact quiet_leftM (HLd.out _ (Adds.drewN _ _))))
                    go_wp2_with fail
                    go_roundw
                    case rel => exact ⟨j, Nat.le_of_lt (Nat.lt_of_succ_le HI.out), rfl, HT.out.adds (Adds.drewN _ _)⟩
                    case measure => simp [intOf]
                  · skip
                    have HLd := Lib.hid (fun (W : World) (hW : Adds wr W) => (HT.out.adds hW).load ya HX.out.1)
                    obtain ⟨sy, hsy⟩ : ∃ sy, S ya = sy := ⟨_, rfl⟩
                    rw [hsy] at HLd hne
                    have hneI : ¬ ((sy : Nat) : Int) = ((yv : Nat) : Int) := by omega
                    clear hsy hne
                    obtain ⟨j0, j1⟩ := HC.out _ HT.out.low
                    go_wp2_with fail
                    go_quiet ((go_at_call 22; exact quiet_leftM (HLd.out _ (Adds.drewN _ _))))
                    go_wp2_with fail
                    go_roundw
                    case rel => exact ⟨j, Nat.le_of_lt (Nat.lt_of_succ_le HI.out), rfl, HT.out.adds (Adds.drewN _ _)⟩
                    case measure => simp [intOf]
                | false =>
                  have HIn := Lib.hid (of_decide_eq_false HZ.out)
                  have hj : j < l.length := by have := HI.out; omega
                  obtain ⟨g, off, rfl, j0, j1⟩ := cells_at HL.out HTw.out.low hj
                  have HX := Lib.hid (HOK.out.at j)
                  have HSl := Lib.hid (HSE.out ▸ storeAll_last (fun _ => 0) l j hj HIn.out : S (atL l j).1 = (atL l j).2)
                  have HSt := Lib.hid (endT_step S l j hj HIn.out HSl.out)
                  have HAt := Lib.hid (show l.getD j (0, 0) = atL l j from rfl)
                  rw [HAt.out] at HX
                  obtain ⟨y, hy⟩ : ∃ y, atL l j = y := ⟨_, rfl⟩
                  have HY := Lib.hid hy
                  rw [hy] at j0 j1 HX HSl HSt
                  clear hy hj
                  obtain ⟨ya, yv⟩ := y
                  simp only at j0 j1 HX HSl HSt
                  have hxor : bits .xor .u32 ((ya : Nat) : Int) 5 = ((ya ^^^ 5 : Nat) : Int) := u32_xor_nat ya 5 HX.out.1 (by decide)
                  have hx32 : ya ^^^ 5 < 4294967296 := Nat.xor_lt_two_pow (n := 32) HX.out.1 (by decide)
                  obtain ⟨yx, hyx⟩ : ∃ yx, ya ^^^ 5 = yx := ⟨_, rfl⟩
                  have HYX := Lib.hid hyx
                  rw [hyx] at hxor hx32 HSt
                  have HXOK := Lib.hid hx32
                  clear hyx hx32
                  obtain ⟨T, hT⟩ : ∃ T, endT S l (j + 1) = T := ⟨_, rfl⟩
                  rw [hT] at HTw HSt
                  clear hT
                  have HCok := Lib.hid (show cellsOk [(yx, 0), (ya, yv), (ya, yv)] by intro z hz; simp at hz; rcases hz with rfl | rfl; (· exact ⟨HXOK.out, Nat.zero_lt_succ _⟩); exact HX.out)
                  go_wp2_with fail
                  have HC := Lib.hid (fun (W : World) (hW : RelS w vm vo S T [(yx, 0), (ya, yv), (ya, yv)] wr.drew W) => ((low_in (HTw.out.adds (Adds.drew wr)) hW)))
                  have HCell := Lib.hid (fun (W : World) (hW : RelS w vm vo S T [(yx, 0), (ya, yv), (ya, yv)] wr.drew W) => cells_at HL.out (HC.out W hW) (show j < l.length by have := HI.out; omega))
                  rw [HY.out] at HCell
                  have HCell2 := Lib.hid (fun (W : World) (hW : RelS w vm vo S T [(yx, 0), (ya, yv), (ya, yv)] wr.drew W) => show W.cell? ⟨g, off + j * 2, none⟩ = some (.int .u32 ((ya : Nat) : Int)) ∧ W.cell? ⟨g, off + j * 2 + 1, none⟩ = some (.int .u32 ((yv : Nat) : Int)) by
                    obtain ⟨g', off', e, h1, h2⟩ := HCell.out W hW
                    simp only [Option.some.injEq, Addr.mk.injEq, and_true] at e
                    obtain ⟨rfl, rfl⟩ := e
                    exact ⟨h1, h2⟩)
                  clear HC HCell j0 j1
                  refine wp_region_loose [83, 84] (KeyS 83 84 w vm vo S T [(yx, 0), (ya, yv), (ya, yv)]) (RelS w vm vo S T [(yx, 0), (ya, yv), (ya, yv)]) (by kernel_rfl) (by kernel_rfl) (by simp) (fun W => RelS.of_adds (Adds.refl W)) (fun _ _ _ h k => h.trans k) KeyS.stay ?_
                  repeat (refine wpL_step (fun K hK => ?_); first
                    | (refine stepL_ex (v := .int .u32 ((yx : Nat) : Int)) rfl rfl rfl (fun W => RelS.of_adds (Adds.refl W)) ?_ ?_; (· (intro w' hw'; clear hK; go_simp)); go_simp; refine hK _ ?_; clear hK K)
                    | (refine stepL_ex rfl rfl rfl (fun W => RelS.of_adds (Adds.refl W)) (fun w' hw' => rfl) ?_; go_simp; refine hK _ ?_; clear hK K)
                    | (refine stepL_ex (v := .pointer (some ⟨g, off + j * 2, none⟩)) rfl rfl rfl (fun W => RelS.of_adds (Adds.refl W)) ?_ ?_; (· (intro w' hw'; clear hK; go_simp)); go_simp; refine hK _ ?_; clear hK K)
                    | (refine stepL_ex (v := .int .u32 ((ya : Nat) : Int)) rfl rfl rfl (fun W => RelS.of_adds (Adds.refl W)) ?_ ?_; (· (intro w' hw'; clear hK; have hc := (HCell2.out w' hw').1; go_simp)); go_simp; refine hK _ ?_; clear hK K)
                    | (refine stepL_ex (v := .int .u32 ((yv : Nat) : Int)) rfl rfl rfl (fun W => RelS.of_adds (Adds.refl W)) ?_ ?_; (· (intro w' hw'; clear hK; have hc := (HCell2.out w' hw').2; go_simp)); go_simp; refine hK _ ?_; clear hK K)
                    | (refine stepL_ex (v := .agg #[.int .u32 ((ya : Nat) : Int), .int .u32 ((yv : Nat) : Int)]) rfl rfl rfl (fun W => RelS.of_adds (Adds.refl W)) ?_ ?_; (· (intro w' hw'; clear hK; have hc := (HCell2.out w' hw').1; have hc2 := (HCell2.out w' hw').2; go_simp)); go_simp; refine hK _ ?_; clear hK K)
                    | (refine stepL_ex (v := .agg #[.int .u32 ((yx : Nat) : Int), .int .u32 0]) rfl rfl rfl (fun W => RelS.of_adds (Adds.refl W)) (fun w' hw' => exec_build1 rfl rfl) ?_; go_simp; refine hK _ ?_; clear hK K)
                    | (refine stepL_ex (v := .agg #[.int .u32 ((ya : Nat) : Int), .int .u32 ((yv : Nat) : Int)]) rfl rfl rfl (fun W => RelS.of_adds (Adds.refl W)) (fun w' hw' => exec_build2 rfl rfl rfl) ?_; go_simp; refine hK _ ?_; clear hK K)
                    | (refine stepL_mk 83 rfl rfl rfl rfl (fun w' hw' => ⟨_, _, exec_bs3 (yx, 0) (ya, yv) (ya, yv) rfl rfl rfl rfl w', mk_in (by decide), RelS.of_adds (Adds.new _ _)⟩) ?_; refine hK _ ?_; clear hK K)
                    | (refine stepL_key1 (f := 12) 83 84 (fun u => #[vo, u]) rfl rfl rfl ?_ (fun w' u hw' hu => storedS (by decide) (HTw.out.adds (Adds.drew wr)) hw' hu HCok.out (by simp)) ?_; (· (intro w' u hw' hu; refine ⟨rfl, ?_⟩; clear hK; go_simp)); refine hK _ ?_; clear hK K))
                  refine wpL_nil ?_
                  intro wI aI
                  simp only [forL]
                  rintro u83 _ u84 hK84
                  obtain ⟨rfl, hT84⟩ := hK84.2 rfl
                  obtain ⟨U, hU⟩ : ∃ U, storeAll T [(yx, 0), (ya, yv), (ya, yv)] = U := ⟨_, rfl⟩
                  rw [hU] at hT84 HSt
                  have HT84 := Lib.hid hT84
                  clear hK84 hT84 hU aI HCell2 HCok HTw
                  have HSya := Lib.hid (HTw0.out.word)
                  go_wp2_with fail
                  go_loopw [9] (fun t9 wq => ∃ kk : Nat, j + 1 ≤ kk ∧ kk ≤ l.length ∧ t9 = .int .i64 kk ∧ TwoM w wq vm vo S (innerU U yx (S yx) ((l.drop (j + 1)).take (kk - (j + 1))))) (fun t9 _ => l.length - (intOf t9).toNat)
                  case atStart => exact ⟨j + 1, Nat.le_refl _, HI.out, by go_num, by simpa [innerU] using HT84.out⟩
                  case round =>
                    clear HT84
                    obtain ⟨kk, hk1, hk2, rfl, hT⟩ := hrel
                    have HT := Lib.hid hT; have HK1 := Lib.hid hk1; have HK2 := Lib.hid hk2
                    clear hT hk1 hk2
                    by_cases hlt : kk < l.length
                    · have hltI : (kk : Int) < (l.length : Int) := by omega
                      have HCk := Lib.hid (fun (W : World) (hW : Adds w W) => cells_at HL.out hW hlt)
                      have HCj := Lib.hid (fun (W : World) (hW : Adds w W) => cells_at HL.out hW (show j < l.length by have := HI.out; omega))
                      have HTk := Lib.hid (take_drop_at hlt HK1.out)
                      have HX1 := Lib.hid (show (atL l kk).1 < 4294967296 from (HOK.out.at kk).1)
                      have HLt := Lib.hid hlt
                      have HK1' := Lib.hid (show j + 1 ≤ kk + 1 ∧ kk + 1 ≤ l.length by have := HK1.out; have := HLt.out; omega)
                      clear hlt
                      obtain ⟨xx, hxx⟩ : ∃ xx, atL l kk = xx := ⟨_, rfl⟩
                      rw [hxx] at HCk HTk HX1
                      rw [HY.out] at HCj
                      clear hxx
                      obtain ⟨xa, xv⟩ := xx
                      simp only at HCk HTk HX1 HCj
                      have HC := Lib.hid (fun (W : World) (hW : Adds w W) => show W.cell? ⟨g, off + kk * 2, none⟩ = some (.int .u32 ((xa : Nat) : Int)) ∧ W.cell? ⟨g, off + j * 2, none⟩ = some (.int .u32 ((ya : Nat) : Int)) by
                        obtain ⟨g', off', e, h1, h2⟩ := HCk.out W hW
                        simp only [Option.some.injEq, Addr.mk.injEq, and_true] at e
                        obtain ⟨rfl, rfl⟩ := e
                        obtain ⟨g', off', e, h3, h4⟩ := HCj.out W hW
                        simp only [Option.some.injEq, Addr.mk.injEq, and_true] at e
                        obtain ⟨rfl, rfl⟩ := e
                        exact ⟨h1, h3⟩)
                      clear HCk HCj
                      obtain ⟨k0, j0⟩ := HC.out _ HT.out.low
                      by_cases hxy : xa = yx
                      · subst hxy
                        have HNew := Lib.hid (innerU_yes U xa (S xa) ((l.drop (j + 1)).take (kk - (j + 1))) (xa, xv) rfl)
                        rw [← HTk.out] at HNew
                        obtain ⟨V, hV⟩ : ∃ V, innerU U xa (S xa) ((l.drop (j + 1)).take (kk - (j + 1))) = V := ⟨_, rfl⟩
                        rw [hV] at HT HNew
                        clear hV
                        go_wp2_with fail
                        go_quiet (fail)
                        go_wp2_with fail
                        have HTd := Lib.hid (HT.out.adds (Adds.trans (Adds.drewN wr nq) (Adds.drew (wr.drewN nq))))
                        clear HT
                        have HCok2 := Lib.hid (show cellsOk [(xa, S xa)] by intro z hz; rw [List.mem_singleton.1 hz]; exact ⟨HX1.out, HSya.out xa⟩)
                        have HLd := Lib.hid (fun (W : World) (hW : RelS w vm vo S V [(xa, S xa)] (wr.drewN nq).drew W) => load_in HTd.out hW xa HX1.out)
                        have HKs := Lib.hid (fun (W : World) (u : Value) (hW : RelS w vm vo S V [(xa, S xa)] (wr.drewN nq).drew W) (hu : KeyS 119 120 w vm vo S V [(xa, S xa)] 119 u W) => storedS (d1 := 120) (by decide) HTd.out hW hu HCok2.out (by simp))
                        obtain ⟨sx, hsx⟩ : ∃ sx, S xa = sx := ⟨_, rfl⟩
                        rw [hsx] at HLd HKs HNew
                        have HSx := Lib.hid hsx
                        have HCell2 := Lib.hid (fun (W : World) (hW : RelS w vm vo S V [(xa, sx)] (wr.drewN nq).drew W) => (HC.out W (low_in HTd.out hW)).1)
                        clear HC HCok2 hsx k0 j0
                        refine wp_region_loose [119, 120] (KeyS 119 120 w vm vo S V [(xa, sx)]) (RelS w vm vo S V [(xa, sx)]) (by kernel_rfl) (by kernel_rfl) (by simp) (fun W => RelS.of_adds (Adds.refl W)) (fun _ _ _ h k => h.trans k) KeyS.stay ?_
                        repeat (refine wpL_step (fun K hK => ?_); first
                          | (refine stepL_ex rfl rfl rfl (fun W => RelS.of_adds (Adds.refl W)) (fun w' hw' => rfl) ?_; go_simp; refine hK _ ?_; clear hK K)
                          | (refine stepL_ex (v := .pointer (some ⟨g, off + kk * 2, none⟩)) rfl rfl rfl (fun W => RelS.of_adds (Adds.refl W)) ?_ ?_; (· (intro w' hw'; clear hK; go_simp)); go_simp; refine hK _ ?_; clear hK K)
                          | (refine stepL_ex (v := .int .u32 ((xa : Nat) : Int)) rfl rfl rfl (fun W => RelS.of_adds (Adds.refl W)) ?_ ?_; (· (intro w' hw'; clear hK; have hc := HCell2.out w' hw'; go_simp)); go_simp; refine hK _ ?_; clear hK K)
                          | (refine stepL_call (f := 22) (args := #[vm, .int .u32 ((xa : Nat) : Int)]) rfl rfl rfl ?_ (fun w' hw' => HLd.out w' hw') ?_; (· (intro w'; clear hK; go_simp)); go_simp; refine hK _ ?_; clear hK K)
                          | (refine stepL_ex (v := .agg #[.int .u32 ((xa : Nat) : Int), .int .u32 ((sx : Nat) : Int)]) rfl rfl rfl (fun W => RelS.of_adds (Adds.refl W)) (fun w' hw' => exec_build2 rfl rfl rfl) ?_; go_simp; refine hK _ ?_; clear hK K)
                          | (refine stepL_mk 119 rfl rfl rfl rfl (fun w' hw' => ⟨_, _, exec_bs1 (xa, sx) rfl rfl w', mk_in (by decide), RelS.of_adds (Adds.new _ _)⟩) ?_; refine hK _ ?_; clear hK K)
                          | (refine stepL_key1 (f := 12) 119 120 (fun u => #[vo, u]) rfl rfl rfl ?_ (fun w' u hw' hu => HKs.out w' u hw' hu) ?_; (· (intro w' u hw' hu; refine ⟨rfl, ?_⟩; clear hK; go_simp)); refine hK _ ?_; clear hK K))
                        refine wpL_nil ?_
                        intro wI aI
                        simp only [forL]
                        rintro u119 _ u120 hK120
                        obtain ⟨rfl, hT120⟩ := hK120.2 rfl
                        have HT120 := Lib.hid hT120
                        clear hK120 hT120 aI HCell2 HTd HLd HKs
                        go_wp2_with fail
                        go_roundw
                        case rel => exact ⟨kk + 1, HK1'.out.1, HK1'.out.2, rfl, by rw [HSx.out, HNew.out]; exact HT120.out⟩
                        case measure => simp [intOf]; have := HLt.out; omega
                      · have hxI : ¬ ((xa : Nat) : Int) = ((yx : Nat) : Int) := by omega
                        have HNew := Lib.hid (innerU_no U yx (S yx) ((l.drop (j + 1)).take (kk - (j + 1))) (xa, xv) hxy)
                        rw [← HTk.out] at HNew
                        clear hxy
                        go_wp2_with fail
                        go_quiet (fail)
                        go_wp2_with fail
                        go_roundw
                        case rel => exact ⟨kk + 1, HK1'.out.1, HK1'.out.2, rfl, by rw [HNew.out]; exact HT.out.adds (Adds.drewN _ _)⟩
                        case measure => simp [intOf]; have := HLt.out; omega
                    · obtain rfl : kk = l.length := by have := HK2.out; omega
                      have hfull : (l.drop (j + 1)).take (l.length - (j + 1)) = l.drop (j + 1) := List.take_of_length_le (by simp)
                      rw [hfull, HSt.out] at HT
                      clear hlt hfull HSt
                      have HEq := HSl
                      have HCj := Lib.hid (fun (W : World) (hW : Adds w W) => cells_at HL.out hW (show j < l.length by have := HI.out; omega))
                      rw [HY.out] at HCj
                      simp only at HCj
                      have HC := Lib.hid (fun (W : World) (hW : Adds w W) => show W.cell? ⟨g, off + j * 2, none⟩ = some (.int .u32 ((ya : Nat) : Int)) ∧ W.cell? ⟨g, off + j * 2 + 1, none⟩ = some (.int .u32 ((yv : Nat) : Int)) by
                        obtain ⟨g', off', e, h3, h4⟩ := HCj.out W hW
                        simp only [Option.some.injEq, Addr.mk.injEq, and_true] at e
                        obtain ⟨rfl, rfl⟩ := e
                        exact ⟨h3, h4⟩)
                      clear HCj
                      have HLd := Lib.hid (fun (W : World) (hW : Adds wr W) => (HT.out.adds hW).load ya HX.out.1)
                      rw [HEq.out] at HLd
                      obtain ⟨j0, j1⟩ := HC.out _ HT.out.low
                      go_wp2_with fail
                      go_quiet ((go_at_call 22; exact quiet_leftM (HLd.out _ (Adds.drewN _ _))))
                      go_wp2_with fail
                      go_roundw
                      case rel => exact ⟨j, Nat.le_of_lt (Nat.lt_of_succ_le HI.out), rfl, HT.out.adds (Adds.drewN _ _)⟩
                      case measure => simp [intOf]
end Go.Proofs.YtleihmmkonakhaaDoor
