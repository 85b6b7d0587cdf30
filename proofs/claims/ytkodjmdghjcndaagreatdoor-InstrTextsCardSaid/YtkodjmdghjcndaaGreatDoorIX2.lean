/- Reading an instruction's text: contract. (genX2.py wrote this.) -/
import Derived.Lib.ParseIntBCases
import Derived.Test.YtkodjmdghjcndaaGreatDoorIX1
namespace Go.Proofs.YtkodjmdghjcndaaGreatDoor
open Go Go.RowKit Go.Shelf Go.Lib

def textPl : List (Nat × Nat) → List UInt8 → Nat → In → Option In
  | [], _, _, x => some x
  | p :: t, l, k, x => if p.2 = 3 then textPl t l k x else if wE (wordN (markN p.2) (l.drop k)) = 0 then textPl t l (k + wM (wordN (markN p.2) (l.drop k))) (putP p.1 x (wU (wordN (markN p.2) (l.drop k)) : Nat)) else none
/-- The instruction that the words say with which a text begins. -/
def textR (l : List UInt8) : Option In :=
  if bE (begunI l) = 0 then textPl (partsN (bX (begunI l)).1.toNat) l (bM (begunI l)) (bX (begunI l)) else none
theorem textPl_at {P : List (Nat × Nat)} {l : List UInt8} {j k : Nat} {x : In} (h : j < P.length) : textPl (P.drop j) l k x =
    if (P.getD j (0, 0)).2 = 3 then textPl (P.drop (j + 1)) l k x else if wE (wordN (markN (P.getD j (0, 0)).2) (l.drop k)) = 0 then textPl (P.drop (j + 1)) l (k + wM (wordN (markN (P.getD j (0, 0)).2) (l.drop k))) (putP (P.getD j (0, 0)).1 x (wU (wordN (markN (P.getD j (0, 0)).2) (l.drop k)) : Nat)) else none := by
  rw [List.drop_eq_getElem_cons h]
  simp only [textPl]
  simp [List.getD_eq_getElem?_getD, h]
theorem wU_lt (mk l : List UInt8) : wU (wordN mk l) < 4294967296 := by
  unfold wordN
  split
  · cases h : parseUintB 32 (digsOf (behindP (32 :: mk) l)) with
    | ok u => have := parseUintB_le h; show u < _; omega
    | _ => show 0 < _; omega
  · show 0 < _; omega
/-- The numbers of an instruction under way: B, Imm. -/
def okT (x : In) : Prop := (0 ≤ x.2.2.1 ∧ x.2.2.1 < 4294967296) ∧ (0 ≤ x.2.2.2.2 ∧ x.2.2.2.2 < 4294967296)
theorem okT_put (k : Nat) (x : In) (u : Nat) (hu : u < 4294967296) (h : okT x) : okT (putP k x (u : Nat)) := by
  obtain ⟨o, a, b, c, i⟩ := x
  unfold okT at h ⊢
  unfold putP
  split <;> simp only [] at h ⊢ <;> omega
theorem opN_le (s : ByteArray) : ∀ k, opN s (k + 1) ≤ k
  | 0 => by unfold opN; simp only [opN]; split <;> (try split) <;> omega
  | k + 1 => by
    have := opN_le s k
    rw [opN]
    split
    · omega
    · split <;> omega
theorem begun_op {l : List UInt8} (h : bE (begunI l) = 0) : (∃ op : Nat, (bX (begunI l)).1 = op ∧ 1 ≤ op ∧ op ≤ 19) ∧ okT (bX (begunI l)) := by
  unfold begunI begunS begunN at h ⊢
  have hp := pN_le (str (headOf l)) 12
  have ho := opN_le (str (headOf l)) 19
  split at h
  · rename_i hk
    rw [if_pos hk]
    refine ⟨⟨3, rfl, by omega, by omega⟩, ?_⟩
    simp only [bX, okT]
    omega
  · rename_i hk
    rw [if_neg hk]
    split at h
    · rename_i hq
      rw [if_pos hq]
      refine ⟨⟨opN (str (headOf l)) 20, rfl, by omega, by omega⟩, ?_⟩
      simp [bX, okT]
    · cases h
def TxInPost (r : Option In) (br : Nat) (w : World) (e : Ending) (w' : World) : Prop :=
  TnS br w w' ∧ match r with
    | some x => e = .returned (insV x)
    | none => e = .panicked [{ v := .iface 140 (.int .i64 180), recovered := false }]
structure TxSt (br n2 n3 g : Nat) (v : Value) (ps : List Pt) (w : World) (kk : Nat) (x : In) (wr : World) : Prop where
  rd : BkS 91 wr br (rdC v kk)
  ins : BkS 25 wr n3 (insC x)
  res : BkS 25 wr n2 (insC (0, 0, 0, 0, 0))
  row : RowP wr g ps
  tn : TnS br w wr
  dis : br < n2 ∧ n2 = w.heap.size ∧ n2 < n3 ∧ n3 < g
theorem TxSt.adds {br n2 n3 g : Nat} {v : Value} {ps : List Pt} {w : World} {kk : Nat} {x : In} {wr w' : World} (h : TxSt br n2 n3 g v ps w kk x wr) (ha : Adds wr w') : TxSt br n2 n3 g v ps w kk x w' :=
  ⟨h.rd.adds ha, h.ins.adds ha, h.res.adds ha, h.row.adds ha, h.tn.trans (TnS.of_adds br ha), h.dis⟩
theorem TxSt.read {br n2 n3 g : Nat} {v : Value} {ps : List Pt} {w : World} {kk k2 : Nat} {x : In} {wr w' : World} (h : TxSt br n2 n3 g v ps w kk x wr) (ht : TnS br wr w') (hr : BkS 91 w' br (rdC v k2)) : TxSt br n2 n3 g v ps w k2 x w' := by
  obtain ⟨d1, d2, d3, d4⟩ := h.dis
  exact ⟨hr, h.ins.tn ht (by omega), h.res.tn ht (by omega), h.row.tn ht (by omega), h.tn.trans ht, h.dis⟩
theorem TxSt.put {br n2 n3 g : Nat} {v : Value} {ps : List Pt} {w : World} {kk : Nat} {x y : In} {wr w' : World} (h : TxSt br n2 n3 g v ps w kk x wr) (ht : TnS n3 wr w') (hr : BkS 25 w' n3 (insC y)) : TxSt br n2 n3 g v ps w kk y w' := by
  obtain ⟨d1, d2, d3, d4⟩ := h.dis
  exact ⟨h.rd.tn ht (by omega), hr, h.res.tn ht (by omega), h.row.tn ht (by omega), h.tn.mine (by omega) ht, h.dis⟩
set_option maxRecDepth 100000 in
set_option maxHeartbeats 8000000 in
theorem textRd8 {n : Nat} (br : Nat) (wB : World) (aa : Addr) (cap : Nat) (l : List UInt8) (hl : l.length ≤ 65536) (hv : Bytes n wB (.slice (some aa) l.length cap) l) (hn : n ≤ wB.heap.size) (hw : IVars wB) (hbr : wB.heap.size ≤ br)
    (w : World) (hB : Below wB.heap.size wB w) (hr : BkS 91 w br (rdC (.slice (some aa) l.length cap) 0)) :
    Calls Tryz.prog 39 #[.pointer (some ⟨br, 0, none⟩)] w (TxInPost (textR l) br w) := by
  have hmx : Tryz.prog.follows .mixedOrders = true := by kernel_rfl
  obtain ⟨w1, hw1⟩ : ∃ w1, w.alloc (.cells #[.int .i64 0, .int .i64 0, .int .i64 0, .int .i64 0, .int .u32 0] 25) = w1 := ⟨_, rfl⟩
  have HA1 := Lib.hid (show Adds w w1 by rw [← hw1]; exact (Gr.new _ _).adds)
  have HB2 := Lib.hid (show BkS 25 w1 w.heap.size (insC (0, 0, 0, 0, 0)) by rw [← hw1]; exact BkS.new _ _ _)
  have HSz := Lib.hid (show w1.heap.size = w.heap.size + 1 by rw [← hw1]; simp)
  have HLow := Lib.hid (show ∀ W, TnS br w W → Below wB.heap.size wB W from fun W ht => hB.trans (ht.below8 hbr hB.size))
  have HAt := Lib.hid (show ∀ W, TnS br w W → n ≤ W.heap.size ∧ Bytes n W (.slice (some aa) l.length cap) l ∧ IVars W from fun W ht => by
    have h := HLow.out W ht
    exact ⟨Nat.le_trans hn h.size, hv.below (h.mono hn), hw.below h⟩)
  have HO := Lib.hid (show Calls Tryz.prog 88 #[.pointer (some ⟨br, 0, none⟩), .func (.func 89) #[] #[]] w1
      (RdPostE (decide (bE (begunI l) = 0)) (insV (bX (begunI l))) br (.slice (some aa) l.length cap) (0 + bM (begunI l)) w1) from by
    obtain ⟨h1, h2, h3⟩ := HAt.out w1 (TnS.of_adds br HA1.out)
    have := readB8 br aa cap l 0 (Nat.zero_le _) hl w1 h1 h2 h3 (hr.adds HA1.out)
    rw [List.drop_zero] at this
    exact this)
  have HRd := Lib.hid hr
  have HLl := Lib.hid hl
  have HBm := Lib.hid (bM_le l)
  clear hl hv hn hw hbr hB hr
  unfold textR
  have hbo := @begun_op l
  obtain ⟨eb, heb⟩ : ∃ eb, bE (begunI l) = eb := ⟨_, rfl⟩
  rw [heb] at HO hbo ⊢
  clear heb
  by_cases h0 : eb = 0
  case neg =>
    rw [if_neg h0]
    have HO1 := Lib.hid (show Calls Tryz.prog 88 #[.pointer (some ⟨br, 0, none⟩), .func (.func 89) #[] #[]] w1 fun e w' => e = .panicked [{ v := .iface 140 (.int .i64 180), recovered := false }] ∧ Adds w1 w' from HO.out.mono fun e w' h => by
      rw [decide_eq_false h0] at h
      simpa [RdPostE] using h)
    clear HO h0 hbo
    go_enter Tryz.func39, Tryz.ntmps39
    go_wp2_with (go_at_call 88; refine HO1.out.mono ?_; rintro e w2 ⟨rfl, q⟩; have HA2 := Lib.hid q; clear q)
    exact ⟨rfl, TnS.of_adds br (Adds.trans HA1.out HA2.out), rfl⟩
  case pos =>
    rw [if_pos h0]
    have HO1 := Lib.hid (show Calls Tryz.prog 88 #[.pointer (some ⟨br, 0, none⟩), .func (.func 89) #[] #[]] w1 fun e w' => e = .returned (insV (bX (begunI l))) ∧ BkS 91 w' br (rdC (.slice (some aa) l.length cap) (bM (begunI l))) ∧ TnS br w1 w' from HO.out.mono fun e w' h => by
      rw [decide_eq_true h0, Nat.zero_add] at h
      simpa [RdPostE] using h)
    obtain ⟨⟨op, ho, o1, o2⟩, hok⟩ := hbo h0
    obtain ⟨x0, hx0⟩ : ∃ x, bX (begunI l) = x := ⟨_, rfl⟩
    obtain ⟨k0, hk0⟩ : ∃ k, bM (begunI l) = k := ⟨_, rfl⟩
    rw [hx0] at HO1 ho hok ⊢
    rw [hk0] at HO1 HBm ⊢
    clear HO h0 hx0 hk0 hbo
    obtain ⟨xo, xa, xb, xc, xi⟩ := x0
    obtain rfl : xo = op := ho
    have HX0 := Lib.hid hok
    clear hok
    rw [show (((op : Int), xa, xb, xc, xi) : In).1.toNat = op from rfl]
    have HOk := Lib.hid (okParts_op op)
    have HPa := Lib.hid (fun W => parts_op op o1 o2 W)
    rw [show PartsPost (shOf op) = fun w e w' => ∃ g, e = .returned (.slice (some ⟨g, 0, none⟩) (partsOf (shOf op)).length 4) ∧ w.heap.size ≤ g ∧ RowP w' g (partsOf (shOf op)) ∧ Adds w w' from rfl, partsOf_op op o1 o2] at HPa
    unfold ptN at HPa
    simp only [List.length_map] at HPa
    have HLk := Lib.hid (fun bm W (h : MapS W bm 19) => look_op0 op o1 o2 bm W h)
    clear o1 o2
    obtain ⟨rr, hrr⟩ : ∃ rr, textPl (partsN op) l k0 ((op : Int), xa, xb, xc, xi) = rr := ⟨_, rfl⟩
    rw [hrr]
    have HRR := Lib.hid hrr
    clear hrr
    generalize partsN op = P at HOk HPa HRR
    unfold shapeV at HPa HLk
    generalize slotV (shOf op).1 = v0 at HPa HLk
    generalize slotV (shOf op).2.1 = v1 at HPa HLk
    generalize slotV (shOf op).2.2.1 = v2 at HPa HLk
    generalize slotV (shOf op).2.2.2 = v3 at HPa HLk
    go_enter Tryz.func39, Tryz.ntmps39
    go_wp2_with (go_at_call 88; refine HO1.out.mono ?_; rintro e w2 ⟨rfl, q1, q2⟩; have HQ2 := Lib.hid (And.intro q1 q2); clear q1 q2)
    obtain ⟨w3, hw3⟩ : ∃ w3, w2.alloc (.cells #[.int .i64 (op : Nat), .int .i64 xa, .int .i64 xb, .int .i64 xc, .int .u32 xi] 25) = w3 := ⟨_, rfl⟩
    have HA3 := Lib.hid (show Adds w2 w3 by rw [← hw3]; exact (Gr.new _ _).adds)
    have HB3 := Lib.hid (show BkS 25 w3 w2.heap.size (insC ((op : Int), xa, xb, xc, xi)) by rw [← hw3]; exact BkS.new _ _ _)
    obtain ⟨n2, hn2⟩ : ∃ n, w.heap.size = n := ⟨_, rfl⟩
    obtain ⟨n3, hn3⟩ : ∃ n, w2.heap.size = n := ⟨_, rfl⟩
    have HNs := Lib.hid (show br < n2 ∧ n2 = w.heap.size ∧ n2 < n3 ∧ n3 < w3.heap.size from ⟨by have := HRd.out.lt; omega, hn2.symm, by have h1 := HSz.out; have h2 := HQ2.out.2.size; omega, by have := HB3.out.lt; omega⟩)
    rw [hw3]
    rw [hn3] at HB3 ⊢
    rw [hn2] at HB2 ⊢
    clear hw3 hn2 hn3
    have HB23 := Lib.hid ((HB2.out.tn HQ2.out.2 (by have := HNs.out; omega)).adds HA3.out)
    have HRd3 := Lib.hid (HQ2.out.1.adds HA3.out)
    have HT3 := Lib.hid ((TnS.of_adds br HA1.out).trans (HQ2.out.2.trans (TnS.of_adds br HA3.out)))
    have k0i := HB3.out.cell 0
    refine Code.wp_mono (Q := fun e a W => Hid (e = .normal ∧ ∃ (g bm : Nat), a = { tmps := #[Value.pointer (some { block := br, off := 0 }), undef, Value.pointer (some { block := n2, off := 0 }), Value.pointer (some { block := n3, off := 0 }), undef, undef, undef, Value.pointer (some { block := br, off := 0 }), insV (((op : Nat) : Int), xa, xb, xc, xi), Value.map (some bm), Value.pointer (some { block := n3, off := 0 }), Value.int IntKind.i64 ((op : Nat) : Int), Value.agg #[v0, v1, v2, v3], Value.slice (some { block := g, off := 0 }) P.length 4, Value.int IntKind.i64 ((P.length : Nat) : Int), Value.int IntKind.i64 0, undef, undef, undef, undef, undef, undef, undef, undef, undef, undef, undef, undef, undef, undef, undef, undef, undef], defers := [] } ∧ w3.heap.size ≤ g ∧ RowP W g (P.map fun p => (p.2 + 1, p.1)) ∧ Adds w3 W)) ?_ ?_
    case refine_2 =>
      refine wp_calm8 ?_
      go_region_with (first
        | (go_at_call 33; refine (shapes_any _).mono ?_; rintro e w4 ⟨bm, rfl, _, hM, q⟩; have HA4 := Lib.hid (Adds.trans (Adds.drew w3) q); have hlk := HLk.out bm w4 hM; have k4 := (HB3.out.adds HA4.out).cell 0; clear q hM)
        | (go_at_call 34; refine (HPa.out _).mono ?_; rintro e w5 ⟨g, rfl, q1, q2, q3⟩; have HG := Lib.hid q1; have HRow := Lib.hid q2; have HA5 := Lib.hid (Adds.trans HA4.out q3); clear q1 q2 q3))
      all_goals
        simp only [Exit.then]
        exact Lib.hid ⟨(by first | rfl | trivial), g, bm, rfl, Nat.le_trans HA4.out.size HG.out, HRow.out, HA5.out⟩
    · rintro e a w5 hq
      obtain ⟨rfl, g, bm, rfl, hg, hrow5, ha5⟩ := hq.out
      have HS0 := Lib.hid (show TxSt br n2 n3 g (.slice (some aa) l.length cap) (P.map fun p => ((p.2 + 1, p.1) : Pt)) w k0 ((op : Int), xa, xb, xc, xi) w5 from
        ⟨HRd3.out.adds ha5, HB3.out.adds ha5, HB23.out.adds ha5, hrow5, HT3.out.trans (TnS.of_adds br ha5), by have := HNs.out; omega⟩)
      clear hq hg hrow5 ha5 k0i
      have HLen := Lib.hid (show P.length ≤ 4 from HOk.out.2.2)
      simp only [Exit.then]
      go_wp2_with fail
      go_loopw [15] (fun i wr => ∃ (j kk : Nat) (x : In), i = .int .i64 j ∧ j ≤ P.length ∧ kk ≤ l.length ∧ Hid (okT x) ∧ Hid (textPl (P.drop j) l kk x = rr) ∧ Hid (TxSt br n2 n3 g (.slice (some aa) l.length cap) (P.map fun p => ((p.2 + 1, p.1) : Pt)) w kk x wr)) (fun i _ => P.length + 1 - (RowKit.intOf i).toNat)
      case atStart => exact ⟨0, k0, _, rfl, Nat.zero_le _, HBm.out, HX0, HRR, HS0⟩
      case round =>
        obtain ⟨j, kk, x, rfl, hj, hkk, HX, HEq, HS⟩ := hrel
        have hjI : (j : Int) ≤ 4 := by have := HLen.out; omega
        by_cases hlt : j < P.length
        · have hltI : (j : Int) < (P.length : Int) := by omega
          have hrow : ∀ q, q < 4 → wr.cell? ⟨g, j * 4 + q, none⟩ = (ptC ((P.getD j (0, 0)).2 + 1, (P.getD j (0, 0)).1))[q]? := fun q hq => by
            have h0 := HS.out.row j (by simpa using hlt) q hq
            rw [ptN_get hlt] at h0
            exact h0
          have c0 := hrow 0 (by omega); have c1 := hrow 1 (by omega); have c2 := hrow 2 (by omega); have c3 := hrow 3 (by omega)
          have HOp2 := Lib.hid (HOk.out.1.1 _ (mem_getD hlt))
          have HRe := Lib.hid (textPl_at (l := l) (k := kk) (x := x) hlt)
          have HLt := Lib.hid hlt; have HKk := Lib.hid hkk
          have ep := enter_put (P.getD j (0, 0)).1 HOp2.out.1
          have ei := enter_is (P.getD j (0, 0)).2 HOp2.out.2
          have HPut := Lib.hid (fun (W : World) (y : Int) (h : BkS 25 W n3 (insC x)) => put_any (P.getD j (0, 0)).1 HOp2.out.1 n3 x y W h)
          have HIm := Lib.hid (put_imm (P.getD j (0, 0)).1 x)
          have HPok := Lib.hid (fun u hu => okT_put (P.getD j (0, 0)).1 x u hu HX.out)
          have HIs := Lib.hid (fun W => is_any (P.getD j (0, 0)).2 HOp2.out.2 x (fun _ => by have h1 := HX.out.1; show -1000000000000 ≤ x.2.2.1 ∧ x.2.2.1 ≤ 1000000000000; omega) W)
          have HMk := Lib.hid (markN_short (P.getD j (0, 0)).2)
          obtain ⟨z, hz⟩ : ∃ z, ((P.getD j (0, 0)).2 == 3) = z := ⟨_, rfl⟩
          have HZ := Lib.hid (show (P.getD j (0, 0)).2 = 3 ↔ z = true by rw [← hz]; simp)
          rw [hz] at HIs
          simp only [ptC, List.getElem?_cons_zero, List.getElem?_cons_succ, Nat.add_zero, slotV] at c0 c1 c2 c3
          unfold fnV at c0 c2 c3
          generalize isF (P.getD j (0, 0)).2 = fi at c0 HIs ei
          generalize getF (P.getD j (0, 0)).1 = fg at c2
          generalize putF (P.getD j (0, 0)).1 = fp at c3 HPut ep
          generalize widN (P.getD j (0, 0)).1 = wd at c1
          generalize loN (P.getD j (0, 0)).2 = lo at HIs
          generalize hiN (P.getD j (0, 0)).2 x = hi at HIs
          obtain ⟨mk, hmk⟩ : ∃ mk, markN (P.getD j (0, 0)).2 = mk := ⟨_, rfl⟩
          rw [hmk] at HIs HRe HMk
          obtain ⟨ms, hms⟩ : ∃ ms, (⟨mk.toArray⟩ : ByteArray) = ms := ⟨_, rfl⟩
          have HMs := Lib.hid hms
          have HIs := Lib.hid (show ∀ W, Calls Tryz.prog fi #[insV x] W fun e w' => e = .returned (.agg #[.int .i64 lo, .int .i64 hi, .string ms, .bool z]) ∧ Gr W w' from hms ▸ HIs.out)
          have hmf : ∀ (fn : Fn) (first cap : Array Value) (w : World), (Instr.makeFunc fn first cap).run Tryz.prog w = .ok (.func fn first cap) w := fun _ _ _ _ => rfl
          clear hrow hlt hkk hj hz hmk hms
          have HIx := Lib.hid HS.out.ins
          obtain ⟨xo, ya, yb, yc, yi⟩ := x
          have jj : ∀ o q v, wr.cell? ⟨n3, q, none⟩ = some v → (wr.alloc o).cell? ⟨n3, q, none⟩ = some v := fun o q v h => (Gr.new wr o).adds.cellAt h
          have j0 := fun o => jj o 0 _ (HIx.out.cell 0)
          have j1 := fun o => jj o 1 _ (HIx.out.cell 1)
          have j2 := fun o => jj o 2 _ (HIx.out.cell 2)
          have j3 := fun o => jj o 3 _ (HIx.out.cell 3)
          have j4 := fun o => jj o 4 _ (HIx.out.cell 4)
          have gz : (wr.alloc (.cells #[.func (.func fi) #[] #[], .int .i64 wd, .func (.func fg) #[] #[], .func (.func fp) #[] #[]] 83)).cell? ⟨wr.heap.size, 0, none⟩ = some (.func (.func fi) #[] #[]) := (BkS.new 83 wr [.func (.func fi) #[] #[], .int .i64 wd, .func (.func fg) #[] #[], .func (.func fp) #[] #[]]).cell 0
          clear jj
          go_wp2_with fail
          obtain ⟨sz, hsz⟩ : ∃ sz, wr.heap.size = sz := ⟨_, rfl⟩
          obtain ⟨wb, hwb⟩ : ∃ wb, wr.alloc (.cells #[.func (.func fi) #[] #[], .int .i64 wd, .func (.func fg) #[] #[], .func (.func fp) #[] #[]] 83) = wb := ⟨_, rfl⟩
          have HGb := Lib.hid (show Adds wr wb by rw [← hwb]; exact (Gr.new _ _).adds)
          have HPb := Lib.hid (show BkS 83 wb sz [.func (.func fi) #[] #[], .int .i64 wd, .func (.func fg) #[] #[], .func (.func fp) #[] #[]] by rw [← hwb, ← hsz]; exact BkS.new _ _ _)
          have HSz2 := Lib.hid (show g < sz from by rw [← hsz]; exact HS.out.row.lt (by rw [List.length_map]; have := HLt.out; omega))
          rw [hwb, hsz]
          clear hwb hsz c0 c1 c2 c3 j0 j1 j2 j3 j4 gz
          cases z
          case true =>
            go_wp2_with (go_at_fn fi; refine (HIs.out _).mono ?_; rintro e w6 ⟨rfl, h5⟩; have H6 := Lib.hid (Adds.trans HGb.out h5.adds); have nf : (w6.alloc (.cells #[.int .i64 lo, .int .i64 hi, .string ms, .bool true] 85)).cell? ⟨w6.heap.size, 3, none⟩ = some (.bool true) := (BkS.new 85 w6 [.int .i64 lo, .int .i64 hi, .string ms, .bool true]).cell 3; clear h5)
            go_roundw
            case rel =>
              have ha := Adds.trans H6.out (Gr.new w6 (.cells #[.int .i64 lo, .int .i64 hi, .string ms, .bool true] 85)).adds
              refine ⟨j + 1, kk, (xo, ya, yb, yc, yi), rfl, HLt.out, HKk.out, HX, Lib.hid ?_, Lib.hid (HS.out.adds ha)⟩
              rw [← HEq.out, HRe.out, if_pos (HZ.out.2 (by first | rfl | trivial))]
            case measure => simp [RowKit.intOf]; have := HLt.out; omega
          case false =>
            have hre := HRe.out
            rw [if_neg (fun h => by have := HZ.out.1 h; cases this), HEq.out] at hre
            have HRe2 := Lib.hid hre
            clear hre HRe HZ
            go_wp2_with (go_at_fn fi; refine (HIs.out _).mono ?_; rintro e w6 ⟨rfl, h5⟩; have H6 := Lib.hid (Adds.trans HGb.out h5.adds); have H6b := Lib.hid h5.adds; have nf : (w6.alloc (.cells #[.int .i64 lo, .int .i64 hi, .string ms, .bool false] 85)).cell? ⟨w6.heap.size, 3, none⟩ = some (.bool false) := (BkS.new 85 w6 [.int .i64 lo, .int .i64 hi, .string ms, .bool false]).cell 3; clear h5)
            obtain ⟨bn, hbn⟩ : ∃ bn, w6.heap.size = bn := ⟨_, rfl⟩
            obtain ⟨wc, hwc⟩ : ∃ wc, w6.alloc (.cells #[.int .i64 lo, .int .i64 hi, .string ms, .bool false] 85) = wc := ⟨_, rfl⟩
            have HSb := Lib.hid (show TxSt br n2 n3 g (.slice (some aa) l.length cap) (P.map fun p => ((p.2 + 1, p.1) : Pt)) w kk (xo, ya, yb, yc, yi) wc by rw [← hwc]; exact HS.out.adds (Adds.trans H6.out (Gr.new _ _).adds))
            have HPc := Lib.hid (show BkS 83 wc sz [.func (.func fi) #[] #[], .int .i64 wd, .func (.func fg) #[] #[], .func (.func fp) #[] #[]] by rw [← hwc]; exact HPb.out.adds (Adds.trans H6b.out (Gr.new _ _).adds))
            have HNb := Lib.hid (show BkS 85 wc bn [.int .i64 lo, .int .i64 hi, .string ms, .bool false] by rw [← hwc, ← hbn]; exact BkS.new _ _ _)
            have HDs := Lib.hid (show br < sz ∧ n3 < sz ∧ sz < bn from by have h1 := HSb.out.dis; have h2 := HSz2.out; have h3 := HPb.out.lt; have h4 := H6b.out.size; omega)
            rw [hwc, hbn]
            clear hwc hbn nf ei
            have HCall := Lib.hid (fun (W : World) (hp : BkS 85 W bn [.int .i64 lo, .int .i64 hi, .string ms, .bool false]) (hr : BkS 91 W br (rdC (.slice (some aa) l.length cap) kk)) (ht : TnS br w W) =>
              readW8 br bn lo hi mk false HMk.out (.slice (some aa) l.length cap) l kk HKk.out HLl.out W (HAt.out W ht).1 (HAt.out W ht).2.1 (HAt.out W ht).2.2 (HMs.out.symm ▸ hp) hr)
            have hub := wU_lt mk (l.drop kk)
            have hle := wM_le mk (l.drop kk)
            obtain ⟨u, hu⟩ : ∃ u, wU (wordN mk (l.drop kk)) = u := ⟨_, rfl⟩
            obtain ⟨m, hm⟩ : ∃ m, wM (wordN mk (l.drop kk)) = m := ⟨_, rfl⟩
            obtain ⟨er, her⟩ : ∃ er, wE (wordN mk (l.drop kk)) = er := ⟨_, rfl⟩
            rw [hu] at HCall HRe2 hub
            rw [hm] at HCall HRe2 hle
            rw [her] at HCall HRe2
            have HUb := Lib.hid hub
            have HLe := Lib.hid (show kk + m ≤ l.length by rw [List.length_drop] at hle; have := HKk.out; omega)
            clear hub hle hu hm her
            by_cases hsh : er = 0
            case neg =>
              have HC1 := Lib.hid (fun W hp hr ht => (HCall.out W hp hr ht).mono (R' := fun e w' => e = .panicked [{ v := .iface 140 (.int .i64 180), recovered := false }] ∧ Adds W w') fun e w' h => by
                rw [decide_eq_false hsh] at h
                simpa [RdPostE] using h)
              have hr5 := HRe2.out
              rw [if_neg hsh] at hr5
              have HR5 := Lib.hid hr5
              clear hr5 hsh HCall
              refine (wpIn_wide (n := 6)).1 ?_
              refine wpIn_region_inv (fun L b' w2 => b' = ({ tmps := #[Value.pointer (some { block := br, off := 0 }), undef, Value.pointer (some { block := n2, off := 0 }), Value.pointer (some { block := n3, off := 0 }), undef, Value.pointer (some { block := sz, off := 0 }), Value.pointer (some { block := bn, off := 0 }), Value.pointer (some { block := br, off := 0 }), insV (((op : Nat) : Int), xa, xb, xc, xi), Value.map (some bm), Value.pointer (some { block := n3, off := 0 }), Value.int IntKind.i64 ((op : Nat) : Int), Value.agg #[v0, v1, v2, v3], Value.slice (some { block := g, off := 0 }) P.length 4, Value.int IntKind.i64 ((P.length : Nat) : Int), Value.int IntKind.i64 ((j : Nat) : Int), Value.bool true, Value.pointer (some { block := g, off := j * 4 }), Value.agg #[Value.func (Fn.func fi) #[] #[], Value.int IntKind.i64 wd, Value.func (Fn.func fg) #[] #[], Value.func (Fn.func fp) #[] #[]], Value.pointer (some { block := sz, off := 0 }), Value.func (Fn.func fi) #[] #[], Value.agg #[Value.int IntKind.i64 xo, Value.int IntKind.i64 ya, Value.int IntKind.i64 yb, Value.int IntKind.i64 yc, Value.int IntKind.u32 yi], Value.agg #[Value.int IntKind.i64 lo, Value.int IntKind.i64 hi, Value.string ms, Value.bool false], Value.pointer (some { block := bn, off := 3 }), Value.bool false, sel8 (L 0) (Value.pointer (some { block := sz, off := 3 })) (u25), sel8 (L 1) (Value.func (Fn.func fp) #[] #[]) (u26), sel8 (L 2) (Value.pointer (some { block := br, off := 0 })) (u27), sel8 (L 3) (Value.func (Fn.func 91) #[] #[Value.pointer (some { block := bn, off := 0 })]) (u28), u29, u30, u31, undef], defers := [] } : Act) ∧ Adds wc w2 ∧ L 4 = false) hmx (by kernel_rfl) ?inv1 ?step1 ?fin1
              case inv1 => exact ⟨rfl, Adds.drew _, rfl⟩
              case step1 =>
                rintro L b' w2 i o ho hL hC he ⟨rfl, hP⟩
                clear hC
                have HP := Lib.hid hP
                have k3 : w2.cell? ⟨sz, 3, none⟩ = some (.func (.func fp) #[] #[]) := (HPc.out.adds hP.1).cell 3
                clear hP
                rcases i with _ | _ | _ | _ | _ | _ | i
                · simp only [List.getElem?_cons_zero, Option.some.injEq] at ho
                  subst ho
                  try simp [Region.binds] at he
                  try simp only []
                  gi_wp2
                  refine ⟨by simp [sel8, *], HP.out.1, (by first | exact HP.out.2 | simpa [he] using HP.out.2)⟩
                · simp only [List.getElem?_cons_zero, List.getElem?_cons_succ, Option.some.injEq] at ho
                  subst ho
                  try simp [Region.binds] at he
                  try simp only [he, sel8_t]
                  gi_wp2
                  refine ⟨by simp [sel8, *], HP.out.1, (by first | exact HP.out.2 | simpa [he] using HP.out.2)⟩
                · simp only [List.getElem?_cons_zero, List.getElem?_cons_succ, Option.some.injEq] at ho
                  subst ho
                  try simp [Region.binds] at he
                  try simp only []
                  gi_wp2
                  refine ⟨by simp [sel8, *], HP.out.1, (by first | exact HP.out.2 | simpa [he] using HP.out.2)⟩
                · simp only [List.getElem?_cons_zero, List.getElem?_cons_succ, Option.some.injEq] at ho
                  subst ho
                  try simp [Region.binds] at he
                  try simp only []
                  gi_wp2
                  refine ⟨by simp [sel8, *], HP.out.1, (by first | exact HP.out.2 | simpa [he] using HP.out.2)⟩
                · simp only [List.getElem?_cons_zero, List.getElem?_cons_succ, Option.some.injEq] at ho
                  subst ho
                  try simp [Region.binds] at he
                  simp only [he, sel8_t]
                  gi_wp2_with (refine ⟨trivial, ?_⟩; gi_at_call 90; refine (callsIn_wide.2 (HC1.out w2 (HNb.out.adds HP.out.1) (HSb.out.adds HP.out.1).rd (HSb.out.adds HP.out.1).tn)).mono ?_; rintro e w3 ⟨rfl, hA3⟩; have HA3 := Lib.hid hA3; clear hA3)
                  exact ⟨rfl, (HSb.out.adds HP.out.1).tn.trans (TnS.of_adds br HA3.out), by rw [HR5.out]⟩
                · simp only [List.getElem?_cons_zero, List.getElem?_cons_succ, Option.some.injEq] at ho
                  subst ho
                  try simp [Region.binds] at he
                  exfalso
                  have h4 := HP.out.2
                  have p4 : L 4 = true := by simp [he]
                  rw [p4] at h4
                  cases h4
                · simp at ho
              case fin1 =>
                rintro b' w7 ⟨rfl, _, h⟩
                simp at h
            case pos =>
              have HC2 := Lib.hid (fun W hp hr ht => (HCall.out W hp hr ht).mono (R' := fun e w' => e = .returned (.int .i64 (u : Nat)) ∧ BkS 91 w' br (rdC (.slice (some aa) l.length cap) (kk + m)) ∧ TnS br W w') fun e w' h => by
                rw [decide_eq_true hsh] at h
                simpa [RdPostE] using h)
              have hr5 := HRe2.out
              rw [if_pos hsh] at hr5
              have HR5 := Lib.hid hr5
              clear hr5 hsh HCall
              refine (wpIn_wide (n := 6)).1 ?_
              refine wpIn_region_inv (fun L b' w2 => b' = ({ tmps := #[Value.pointer (some { block := br, off := 0 }), undef, Value.pointer (some { block := n2, off := 0 }), Value.pointer (some { block := n3, off := 0 }), undef, Value.pointer (some { block := sz, off := 0 }), Value.pointer (some { block := bn, off := 0 }), Value.pointer (some { block := br, off := 0 }), insV (((op : Nat) : Int), xa, xb, xc, xi), Value.map (some bm), Value.pointer (some { block := n3, off := 0 }), Value.int IntKind.i64 ((op : Nat) : Int), Value.agg #[v0, v1, v2, v3], Value.slice (some { block := g, off := 0 }) P.length 4, Value.int IntKind.i64 ((P.length : Nat) : Int), Value.int IntKind.i64 ((j : Nat) : Int), Value.bool true, Value.pointer (some { block := g, off := j * 4 }), Value.agg #[Value.func (Fn.func fi) #[] #[], Value.int IntKind.i64 wd, Value.func (Fn.func fg) #[] #[], Value.func (Fn.func fp) #[] #[]], Value.pointer (some { block := sz, off := 0 }), Value.func (Fn.func fi) #[] #[], Value.agg #[Value.int IntKind.i64 xo, Value.int IntKind.i64 ya, Value.int IntKind.i64 yb, Value.int IntKind.i64 yc, Value.int IntKind.u32 yi], Value.agg #[Value.int IntKind.i64 lo, Value.int IntKind.i64 hi, Value.string ms, Value.bool false], Value.pointer (some { block := bn, off := 3 }), Value.bool false, sel8 (L 0) (Value.pointer (some { block := sz, off := 3 })) (u25), sel8 (L 1) (Value.func (Fn.func fp) #[] #[]) (u26), sel8 (L 2) (Value.pointer (some { block := br, off := 0 })) (u27), sel8 (L 3) (Value.func (Fn.func 91) #[] #[Value.pointer (some { block := bn, off := 0 })]) (u28), sel8 (L 4) (Value.int IntKind.i64 ((u : Nat) : Int)) (u29), sel8 (L 5) (Value.tuple #[]) (u30), u31, undef], defers := [] } : Act) ∧ (BkS 83 w2 sz [.func (.func fi) #[] #[], .int .i64 wd, .func (.func fg) #[] #[], .func (.func fp) #[] #[]] ∧ BkS 85 w2 bn [.int .i64 lo, .int .i64 hi, .string ms, .bool false]) ∧ TxSt br n2 n3 g (.slice (some aa) l.length cap) (P.map fun p => ((p.2 + 1, p.1) : Pt)) w (cond (L 4) (kk + m) kk) (cond (L 5) (putP (P.getD j (0, 0)).1 (xo, ya, yb, yc, yi) (u : Nat)) (xo, ya, yb, yc, yi)) w2) hmx (by kernel_rfl) ?inv2 ?step2 ?fin2
              case inv2 => exact ⟨rfl, ⟨HPc.out.adds (Adds.drew _), HNb.out.adds (Adds.drew _)⟩, HSb.out.adds (Adds.drew _)⟩
              case step2 =>
                rintro L b' w2 i o ho hL hC he ⟨rfl, hP⟩
                have q5 := hC 5 _ rfl
                simp [Region.binds] at q5
                clear hC
                have HP := Lib.hid hP
                have k3 : w2.cell? ⟨sz, 3, none⟩ = some (.func (.func fp) #[] #[]) := hP.1.1.cell 3
                clear hP
                rcases i with _ | _ | _ | _ | _ | _ | i
                · simp only [List.getElem?_cons_zero, Option.some.injEq] at ho
                  subst ho
                  try simp [Region.binds] at he
                  clear q5
                  try simp only []
                  gi_wp2
                  refine ⟨by simp [sel8, *], HP.out.1, (by first | exact HP.out.2 | simpa [he] using HP.out.2)⟩
                · simp only [List.getElem?_cons_zero, List.getElem?_cons_succ, Option.some.injEq] at ho
                  subst ho
                  try simp [Region.binds] at he
                  clear q5
                  try simp only [he, sel8_t]
                  gi_wp2
                  refine ⟨by simp [sel8, *], HP.out.1, (by first | exact HP.out.2 | simpa [he] using HP.out.2)⟩
                · simp only [List.getElem?_cons_zero, List.getElem?_cons_succ, Option.some.injEq] at ho
                  subst ho
                  try simp [Region.binds] at he
                  clear q5
                  try simp only []
                  gi_wp2
                  refine ⟨by simp [sel8, *], HP.out.1, (by first | exact HP.out.2 | simpa [he] using HP.out.2)⟩
                · simp only [List.getElem?_cons_zero, List.getElem?_cons_succ, Option.some.injEq] at ho
                  subst ho
                  try simp [Region.binds] at he
                  clear q5
                  try simp only []
                  gi_wp2
                  refine ⟨by simp [sel8, *], HP.out.1, (by first | exact HP.out.2 | simpa [he] using HP.out.2)⟩
                · simp only [List.getElem?_cons_zero, List.getElem?_cons_succ, Option.some.injEq] at ho
                  subst ho
                  try simp [Region.binds] at he
                  have z5 : L 5 = false := by cases h : L 5 with | false => rfl | true => (have := q5 h; simp_all)
                  clear q5
                  have hst := HP.out.2
                  rw [hL, z5] at hst
                  have HST := Lib.hid hst
                  clear hst
                  simp only [he, sel8_t]
                  gi_wp2_with (refine ⟨trivial, ?_⟩; gi_at_call 90; refine (callsIn_wide.2 (HC2.out w2 HP.out.1.2 HST.out.rd HST.out.tn)).mono ?_; rintro e w3 ⟨rfl, q1, q2⟩; have HQ := Lib.hid (And.intro q1 q2); clear q1 q2)
                  refine ⟨by simp [sel8, *], ⟨HP.out.1.1.tn HQ.out.2 (by have := HDs.out; omega), HP.out.1.2.tn HQ.out.2 (by have := HDs.out; omega)⟩, ?_⟩
                  simpa [z5] using HST.out.read HQ.out.2 HQ.out.1
                · simp only [List.getElem?_cons_zero, List.getElem?_cons_succ, Option.some.injEq] at ho
                  subst ho
                  try simp [Region.binds] at he
                  clear q5
                  have p4 : L 4 = true := by simp [he]
                  have p1 : L 1 = true := by simp [he]
                  have hst := HP.out.2
                  rw [hL, p4] at hst
                  have HST := Lib.hid hst
                  clear hst
                  simp only [p1, p4, sel8_t]
                  gi_wp2_with (refine ⟨trivial, ?_⟩; gi_at_fn fp; refine (callsIn_wide.2 (HPut.out w2 _ HST.out.ins)).mono ?_; rintro e w3 ⟨rfl, q1, q2⟩; rw [(HIm.out u HUb.out HX.out.2).1] at q1; have HQ := Lib.hid (And.intro q1 q2); clear q1 q2)
                  refine ⟨by simp [sel8, *], ⟨HP.out.1.1.tn HQ.out.2 (by have := HDs.out; omega), HP.out.1.2.tn HQ.out.2 (by have := HDs.out; omega)⟩, ?_⟩
                  simpa [p4] using HST.out.put HQ.out.2 HQ.out.1
                · simp at ho
              case fin2 =>
                rintro b' w7 ⟨rfl, hp7, hs7⟩
                simp only [List.length_cons, List.length_nil, Nat.reduceAdd, Nat.reduceLT, decide_true, sel8_t, cond_true] at hs7 ⊢
                have HS7 := Lib.hid hs7
                clear hp7 hs7
                go_wp2_with fail
                go_roundw
                case rel => exact ⟨j + 1, kk + m, _, rfl, HLt.out, HLe.out, Lib.hid (HPok.out u HUb.out), Lib.hid HR5.out.symm, HS7⟩
                case measure => simp [RowKit.intOf]; have := HLt.out; omega
        · obtain rfl : j = P.length := by omega
          have heq := HEq.out
          rw [List.drop_length] at heq
          simp only [textPl] at heq
          have HR3 := Lib.hid heq
          have hs3 := HS.out.ins
          have hs2 := HS.out.res
          obtain ⟨xo, ya, yb, yc, yi⟩ := x
          have i0 : wr.cell? ⟨n3, 0, none⟩ = some (.int .i64 xo) := hs3.cell 0
          have i1 : wr.cell? ⟨n3, 1, none⟩ = some (.int .i64 ya) := hs3.cell 1
          have i2 : wr.cell? ⟨n3, 2, none⟩ = some (.int .i64 yb) := hs3.cell 2
          have i3 : wr.cell? ⟨n3, 3, none⟩ = some (.int .i64 yc) := hs3.cell 3
          have i4 : wr.cell? ⟨n3, 4, none⟩ = some (.int .u32 yi) := hs3.cell 4
          have z0 : wr.cell? ⟨n2, 0, none⟩ = some (.int .i64 0) := hs2.cell 0
          have z1 : wr.cell? ⟨n2, 1, none⟩ = some (.int .i64 0) := hs2.cell 1
          have z2 : wr.cell? ⟨n2, 2, none⟩ = some (.int .i64 0) := hs2.cell 2
          have z3 : wr.cell? ⟨n2, 3, none⟩ = some (.int .i64 0) := hs2.cell 3
          have z4 : wr.cell? ⟨n2, 4, none⟩ = some (.int .u32 0) := hs2.cell 4
          have y0 := hs2.free 0; have y1 := hs2.free 1; have y2 := hs2.free 2; have y3 := hs2.free 3; have y4 := hs2.free 4
          clear heq hs3 hs2 hlt hj hkk
          go_wp2_with fail
          have hb := (((((HS.out.res.set 0 (.int .i64 xo)).set 1 (.int .i64 ya)).set 2 (.int .i64 yb)).set 3 (.int .i64 yc)).set 4 (.int .u32 yi))
          refine bodyPost_ret (res_box rfl _ _ _ (insC (xo, ya, yb, yc, yi)).toArray _ _ _ rfl hb Tryz.underlying25 rfl (by kernel_rfl)) rfl ?_
          have hT := (((((TnS.setCell n2 0 wr (.int .i64 xo)).trans (TnS.setCell n2 1 _ (.int .i64 ya))).trans (TnS.setCell n2 2 _ (.int .i64 yb))).trans (TnS.setCell n2 3 _ (.int .i64 yc))).trans (TnS.setCell n2 4 _ (.int .u32 yi)))
          refine ⟨HS.out.tn.mine (by have := HNs.out; omega) hT, ?_⟩
          rw [← HR3.out]
end Go.Proofs.YtkodjmdghjcndaaGreatDoor
