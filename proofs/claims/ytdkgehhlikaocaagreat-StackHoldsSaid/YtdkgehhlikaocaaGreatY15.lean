/- Merged: G4. -/
import Derived.BigCall
import Derived.BigGuard
import Derived.Deep.RegionLaw
import Derived.Shelf.AbstractIn
import Derived.Test.YtdkgehhlikaocaaGreatY5
import Derived.Test.YtdkgehhlikaocaaGreatY14
import Derived.Test.YtdkgehhlikaocaaGreatY3
namespace Go.Proofs.YtdkgehhlikaocaaGreat
open Go Go.RowKit Go.Shelf Go.Lib

def maxI (a b : Int) : Int := if a < b then b else a
/-- The registers that parts name. -/
def regP (l : List (Nat × Nat)) (x : In) : Int := l.foldl (fun a p => if p.2 = 0 then maxI a (getP p.1 x + 1) else a) 0
def regsI (x : In) : Int := if mayI x then (if x.1 = 8 ∨ x.1 = 10 then maxI (regP (partsN x.1.toNat) x) (x.2.2.1 + x.2.2.2.1) else regP (partsN x.1.toNat) x) else 0
theorem regP_take {P : List (Nat × Nat)} {x : In} {k : Nat} (h : k < P.length) : regP (P.take (k + 1)) x = if (P.getD k (0, 0)).2 = 0 then maxI (regP (P.take k) x) (getP (P.getD k (0, 0)).1 x + 1) else regP (P.take k) x := by
  unfold regP
  rw [List.take_succ_eq_append_getElem h, List.foldl_append]
  simp [List.getD_eq_getElem?_getD, h]
theorem mark_eq (n : Nat) : ((⟨(markN n).toArray⟩ : ByteArray).toList == [114]) = decide (n = 0) := by
  rw [ByteArray.toList_eq]
  match n with
  | 0 | 1 | 2 | 3 | 4 | 5 => decide
  | k + 6 =>
    have h : markN (k + 6) = [] := rfl
    rw [h, decide_eq_false (by omega)]
    decide
set_option maxRecDepth 100000 in
theorem regs_no (x : In) (hx : OkIn x) (hm : mayI x = false) (w : World) : Calls Tryz.prog 109 #[insV x] w fun e w' => e = .returned (.int .i64 0) ∧ Adds w w' := by
  obtain ⟨w1, hw1⟩ : ∃ w1, w.alloc (.cells (insC x).toArray 56) = w1 := ⟨_, rfl⟩
  have HA1 := Lib.hid (show Adds w w1 by rw [← hw1]; exact (Gr.new _ _).adds)
  have HB1 := Lib.hid (show BkS 56 w1 w.heap.size (insC x) by rw [← hw1]; exact BkS.new _ _ _)
  have hc := check8 x hx w1
  unfold errI at hc
  rw [hm] at hc
  have HC := Lib.hid hc
  clear hc
  obtain ⟨xo, xa, xb, xc, xi⟩ := x
  have i0 : w1.cell? ⟨w.heap.size, 0, none⟩ = some (.int .i64 xo) := HB1.out.cell 0
  have i1 : w1.cell? ⟨w.heap.size, 1, none⟩ = some (.int .i64 xa) := HB1.out.cell 1
  have i2 : w1.cell? ⟨w.heap.size, 2, none⟩ = some (.int .i64 xb) := HB1.out.cell 2
  have i3 : w1.cell? ⟨w.heap.size, 3, none⟩ = some (.int .i64 xc) := HB1.out.cell 3
  have i4 : w1.cell? ⟨w.heap.size, 4, none⟩ = some (.int .u32 xi) := HB1.out.cell 4
  go_enter Tryz.func109, Tryz.ntmps109
  go_wp2_with (go_at_call 97; refine HC.out.mono ?_; rintro e w2 ⟨rfl, q⟩; have HA2 := Lib.hid q; clear q)
  go_ret
  exact ⟨rfl, Adds.trans HA1.out HA2.out⟩
set_option maxRecDepth 100000 in
set_option maxHeartbeats 4000000 in
theorem regs_yes (x : In) (hx : OkIn x) (hm : mayI x = true) (w : World) : Calls Tryz.prog 109 #[insV x] w fun e w' => e = .returned (.int .i64 (regsI x)) ∧ Adds w w' := by
  have hmx : Tryz.prog.follows .mixedOrders = true := by kernel_rfl
  obtain ⟨w1, hw1⟩ : ∃ w1, w.alloc (.cells (insC x).toArray 56) = w1 := ⟨_, rfl⟩
  have HA1 := Lib.hid (show Adds w w1 by rw [← hw1]; exact (Gr.new _ _).adds)
  have HB1 := Lib.hid (show BkS 56 w1 w.heap.size (insC x) by rw [← hw1]; exact BkS.new _ _ _)
  have HSz := Lib.hid (show w1.heap.size = w.heap.size + 1 by rw [← hw1]; simp)
  have hc := check8 x hx w1
  unfold errI at hc
  rw [hm] at hc
  have HC := Lib.hid hc
  clear hc
  obtain ⟨op, hop, o1, o2, hl⟩ := mayI_op hm
  have HHo := Lib.hid (holdsL_all hl)
  have HOk := Lib.hid (okParts_op op)
  have HPa := Lib.hid (fun W => parts_op op o1 o2 W)
  rw [show PartsPost (shOf op) = fun w e w' => ∃ g, e = .returned (.slice (some ⟨g, 0, none⟩) (partsOf (shOf op)).length 4) ∧ w.heap.size ≤ g ∧ RowP w' g (partsOf (shOf op)) ∧ Adds w w' from rfl, partsOf_op op o1 o2] at HPa
  unfold ptN at HPa
  simp only [List.length_map] at HPa
  have HLk := Lib.hid (fun bm W (h : MapS W bm 19) => look_op0 op o1 o2 bm W h)
  have hrI : regsI x = if op = 8 ∨ op = 10 then maxI (regP (partsN op) x) (x.2.2.1 + x.2.2.2.1) else regP (partsN op) x := by
    unfold regsI
    rw [if_pos hm, hop]
    by_cases h : op = 8 ∨ op = 10
    · rw [if_pos h, if_pos (by omega)]; rfl
    · rw [if_neg h, if_neg (by omega)]; rfl
  have HReg := Lib.hid hrI
  have HBC := Lib.hid (show op = 8 ∨ op = 10 → (0 ≤ x.2.2.1 ∧ x.2.2.1 ≤ 15) ∧ (0 ≤ x.2.2.2.1 ∧ x.2.2.2.1 ≤ 16) from fun h => by
    obtain ⟨o, a, b, c, i⟩ := x
    rcases h with rfl | rfl
    · simp [holdsL, partsN, holdsP, bare, putP, getP, loN, hiN] at hl ⊢
      omega
    · simp [holdsL, partsN, holdsP, bare, putP, getP, loN, hiN] at hl ⊢
      omega)
  have HOp := Lib.hid (And.intro o1 o2)
  generalize partsN op = P at HHo HOk HPa HReg
  unfold shapeV at HPa HLk
  generalize slotV (shOf op).1 = v0 at HPa HLk
  generalize slotV (shOf op).2.1 = v1 at HPa HLk
  generalize slotV (shOf op).2.2.1 = v2 at HPa HLk
  generalize slotV (shOf op).2.2.2 = v3 at HPa HLk
  have HX := Lib.hid hx
  have hop19 : (op : Int) ≤ 19 := by omega
  have HO19 := Lib.hid hop19
  clear hm hl hx o1 o2 hrI hop19
  obtain ⟨xo, xa, xb, xc, xi⟩ := x
  obtain rfl : xo = op := hop
  have i0 : w1.cell? ⟨w.heap.size, 0, none⟩ = some (.int .i64 (op : Nat)) := HB1.out.cell 0
  have i1 : w1.cell? ⟨w.heap.size, 1, none⟩ = some (.int .i64 xa) := HB1.out.cell 1
  have i2 : w1.cell? ⟨w.heap.size, 2, none⟩ = some (.int .i64 xb) := HB1.out.cell 2
  have i3 : w1.cell? ⟨w.heap.size, 3, none⟩ = some (.int .i64 xc) := HB1.out.cell 3
  have i4 : w1.cell? ⟨w.heap.size, 4, none⟩ = some (.int .u32 xi) := HB1.out.cell 4
  go_enter Tryz.func109, Tryz.ntmps109
  go_wp2_with (go_at_call 97; refine HC.out.mono ?_; rintro e w3 ⟨rfl, q⟩; have HA3 := Lib.hid q; have k0 := (HB1.out.adds q).cell 0; clear q)
  clear i0 i1 i2 i3 i4
  refine Code.wp_mono (Q := fun e a W => Hid (e = .normal ∧ ∃ (g bm : Nat), a = { tmps := #[insV (((op : Nat) : Int), xa, xb, xc, xi), Value.pointer (some { block := w.heap.size, off := 0 }), Value.int IntKind.i64 0, Value.int IntKind.i64 0, undef, undef, Value.agg #[Value.int IntKind.i64 ((op : Nat) : Int), Value.int IntKind.i64 xa, Value.int IntKind.i64 xb, Value.int IntKind.i64 xc, Value.int IntKind.u32 xi], Value.int IntKind.i64 0, Value.bool false, Value.map (some bm), Value.pointer (some { block := w.heap.size, off := 0 }), Value.int IntKind.i64 ((op : Nat) : Int), Value.agg #[v0, v1, v2, v3], Value.slice (some { block := g, off := 0 }) P.length 4, Value.int IntKind.i64 ((P.length : Nat) : Int), Value.int IntKind.i64 0, undef, undef, undef, undef, undef, undef, undef, undef, undef, undef, undef, undef, undef, undef, undef, undef, undef, undef, undef, undef, undef, undef, undef, undef, undef, undef, undef, undef, undef, undef, undef, undef, undef], defers := [] } ∧ w3.heap.size ≤ g ∧ RowP W g (P.map fun p => (p.2 + 1, p.1)) ∧ Adds w3 W)) ?_ ?_
  case refine_2 =>
    refine wp_calm8 ?_
    go_region_with (first
      | (go_at_call 117; refine (shapes_any _).mono ?_; rintro e w4 ⟨bm, rfl, _, hM, q⟩; have HA4 := Lib.hid (Adds.trans (Adds.drew w3) q); have hlk := HLk.out bm w4 hM; have k4 := (HB1.out.adds (Adds.trans HA3.out HA4.out)).cell 0; clear q hM)
      | (go_at_call 119; refine (HPa.out _).mono ?_; rintro e w5 ⟨g, rfl, q1, q2, q3⟩; have HG := Lib.hid q1; have HRow := Lib.hid q2; have HA5 := Lib.hid (Adds.trans HA4.out q3); clear q1 q2 q3))
    all_goals
      simp only [Exit.then]
      exact Lib.hid ⟨(by first | rfl | trivial), g, bm, rfl, Nat.le_trans HA4.out.size HG.out, HRow.out, HA5.out⟩
  · rintro e a w5 hq
    obtain ⟨rfl, g, bm, rfl, hg, hrow5, ha5⟩ := hq.out
    have HG := Lib.hid hg; have HRow := Lib.hid hrow5; have HA5 := Lib.hid ha5
    clear hq hg hrow5 ha5 k0
    obtain ⟨k0, hk0⟩ : ∃ k0, w.heap.size = k0 := ⟨_, rfl⟩
    have HK0 := Lib.hid (show k0 = w.heap.size ∧ w1.heap.size = k0 + 1 from ⟨hk0.symm, by have := HB1.out; have := HSz.out; omega⟩)
    have HB := Lib.hid (hk0 ▸ HB1.out)
    rw [hk0]
    clear hk0
    have HA15 := Lib.hid (Adds.trans HA3.out HA5.out)
    have HLen := Lib.hid (show P.length ≤ 4 from HOk.out.2.2)
    simp only [Exit.then]
    go_wp2_with fail
    go_loopw [3, 15] (fun s i wr => ∃ k : Nat, i = .int .i64 k ∧ k ≤ P.length ∧ s = .int .i64 (regP (P.take k) ((op : Int), xa, xb, xc, xi)) ∧ Hid (Adds w1 wr) ∧ Hid (RowP wr g (P.map fun p => (p.2 + 1, p.1)))) (fun _ i _ => P.length + 1 - (intOf i).toNat)
    case atStart => exact ⟨0, rfl, Nat.zero_le _, rfl, HA15, HRow⟩
    case round =>
      obtain ⟨k, rfl, hk, rfl, HBe, HRw⟩ := hrel
      have hkI : (k : Int) ≤ 4 := by have := HLen.out; omega
      have HBx := Lib.hid (HB.out.adds HBe.out)
      have HAll := Lib.hid (Adds.trans HA1.out HBe.out)
      by_cases hlt : k < P.length
      · have hltI : (k : Int) < (P.length : Int) := by omega
        have hrow : ∀ q, q < 4 → wr.cell? ⟨g, k * 4 + q, none⟩ = (ptC ((P.getD k (0, 0)).2 + 1, (P.getD k (0, 0)).1))[q]? := fun q hq => by
          have h0 := HRw.out k (by simpa using hlt) q hq
          rw [ptN_get hlt] at h0
          exact h0
        have c0 := hrow 0 (by omega); have c1 := hrow 1 (by omega); have c2 := hrow 2 (by omega); have c3 := hrow 3 (by omega)
        have HOp2 := Lib.hid (HOk.out.1.1 _ (mem_getD hlt))
        have hHk := HHo.out k hlt
        have hB1 : (P.getD k (0, 0)).2 = 1 → 0 ≤ getP 1 ((op : Int), xa, xb, xc, xi) ∧ getP 1 ((op : Int), xa, xb, xc, xi) ≤ 15 := fun h => by
          obtain ⟨j, hj, e⟩ := HOk.out.1.2 k hlt h
          have h2 := HHo.out j (by omega)
          rw [e] at h2
          have h3 : 0 ≤ xb ∧ xb ≤ 15 := by simpa [holdsP, loN, hiN, getP] using h2
          exact h3
        have HTk := Lib.hid (regP_take (x := ((op : Int), xa, xb, xc, xi)) hlt)
        have HGet := Lib.hid (fun W => get_any (P.getD k (0, 0)).1 HOp2.out.1 ((op : Int), xa, xb, xc, xi) HX.out.imm.1 HX.out.imm.2 W)
        have HIs := Lib.hid (fun W => is_any (P.getD k (0, 0)).2 HOp2.out.2 ((op : Int), xa, xb, xc, xi) (fun h => by have := hB1 h; omega) W)
        have hm0 : (P.getD k (0, 0)).2 = 0 → 0 ≤ getP (P.getD k (0, 0)).1 ((op : Int), xa, xb, xc, xi) ∧ getP (P.getD k (0, 0)).1 ((op : Int), xa, xb, xc, xi) ≤ 15 := fun h => by
          unfold holdsP at hHk
          rw [decide_eq_true_eq, h] at hHk
          exact hHk
        have eg := enter_get (P.getD k (0, 0)).1 HOp2.out.1
        have ei := enter_is (P.getD k (0, 0)).2 HOp2.out.2
        have hmk := mark_eq (P.getD k (0, 0)).2
        have HLt := Lib.hid hlt
        simp only [ptC, List.getElem?_cons_zero, List.getElem?_cons_succ, Nat.add_zero, slotV] at c0 c1 c2 c3
        unfold fnV at c0 c2 c3
        generalize isF (P.getD k (0, 0)).2 = fi at c0 HIs ei
        generalize getF (P.getD k (0, 0)).1 = fg at c2 HGet eg
        generalize putF (P.getD k (0, 0)).1 = fp at c3
        generalize widN (P.getD k (0, 0)).1 = wd at c1
        generalize loN (P.getD k (0, 0)).2 = lo at HIs
        generalize hiN (P.getD k (0, 0)).2 _ = hi at HIs
        generalize ((P.getD k (0, 0)).2 == 3) = zz at HIs
        unfold numV8 at HIs
        generalize (⟨(markN (P.getD k (0, 0)).2).toArray⟩ : ByteArray) = ms at HIs hmk
        generalize getP (P.getD k (0, 0)).1 ((op : Int), xa, xb, xc, xi) = m at HGet HTk hm0
        generalize regP (P.take k) ((op : Int), xa, xb, xc, xi) = ac at HTk ⊢
        have hfld : ∀ W : World, (Instr.field 176 (.agg #[.int .i64 lo, .int .i64 hi, .string ms, .bool zz]) 2).run Tryz.prog W = .ok (.string ms) W := fun W => by kernel_rfl
        obtain ⟨wb, hwb⟩ : ∃ wb, wr.alloc (.cells #[.func (.func fi) #[] #[], .int .i64 wd, .func (.func fg) #[] #[], .func (.func fp) #[] #[]] 174) = wb := ⟨_, rfl⟩
        have HGb := Lib.hid (show Adds wr wb by rw [← hwb]; exact (Gr.new _ _).adds)
        have HPb := Lib.hid (show BkS 174 wb wr.heap.size [.func (.func fi) #[] #[], .int .i64 wd, .func (.func fg) #[] #[], .func (.func fp) #[] #[]] by rw [← hwb]; exact BkS.new _ _ _)
        have hib := HBx.out.adds HGb.out
        have j0 : wb.cell? ⟨k0, 0, none⟩ = some (.int .i64 (op : Nat)) := hib.cell 0
        have j1 : wb.cell? ⟨k0, 1, none⟩ = some (.int .i64 xa) := hib.cell 1
        have j2 : wb.cell? ⟨k0, 2, none⟩ = some (.int .i64 xb) := hib.cell 2
        have j3 : wb.cell? ⟨k0, 3, none⟩ = some (.int .i64 xc) := hib.cell 3
        have j4 : wb.cell? ⟨k0, 4, none⟩ = some (.int .u32 xi) := hib.cell 4
        have p0 : wb.cell? ⟨wr.heap.size, 0, none⟩ = some (.func (.func fi) #[] #[]) := HPb.out.cell 0
        have HIb := Lib.hid hib
        have HK1 := Lib.hid hk
        clear hrow hlt hk hHk hB1 hib
        by_cases hz : (P.getD k (0, 0)).2 = 0
        · have hm15 := hm0 hz
          rw [decide_eq_true hz] at hmk
          have hTk := HTk.out
          rw [if_pos hz] at hTk
          have HTk2 := Lib.hid hTk
          have HZ := Lib.hid hz
          have hm1 : 0 ≤ m := hm15.1
          have hm2 : m ≤ 15 := hm15.2
          clear hm0 hz hTk hm15 HTk
          unfold maxI at HTk2
          by_cases hmx2 : ac < m + 1
          · rw [if_pos hmx2] at HTk2
            go_wp2_with (first
              | (go_at_fn fi; refine (HIs.out _).mono ?_; rintro e w6 ⟨rfl, h5⟩; have H6 := Lib.hid h5.adds; have hi6 := HIb.out.adds h5.adds; have j0 : w6.cell? ⟨k0, 0, none⟩ = some (.int .i64 (op : Nat)) := hi6.cell 0; have j1 : w6.cell? ⟨k0, 1, none⟩ = some (.int .i64 xa) := hi6.cell 1; have j2 : w6.cell? ⟨k0, 2, none⟩ = some (.int .i64 xb) := hi6.cell 2; have j3 : w6.cell? ⟨k0, 3, none⟩ = some (.int .i64 xc) := hi6.cell 3; have j4 : w6.cell? ⟨k0, 4, none⟩ = some (.int .u32 xi) := hi6.cell 4; have p2 : w6.cell? ⟨wr.heap.size, 2, none⟩ = some (.func (.func fg) #[] #[]) := (HPb.out.adds h5.adds).cell 2; clear h5 hi6)
              | (go_at_fn fg; refine (HGet.out _).mono ?_; rintro e w7 ⟨rfl, h7⟩; have H7 := Lib.hid h7.adds; clear h7))
            go_roundw
            case rel => exact ⟨k + 1, by go_num, HLt.out, by rw [HTk2.out], Lib.hid (Adds.trans HBe.out (Adds.trans HGb.out (Adds.trans H6.out H7.out))), Lib.hid (HRw.out.adds (Adds.trans HGb.out (Adds.trans H6.out H7.out)))⟩
            case measure => simp [intOf]; have := HLt.out; omega
          · rw [if_neg hmx2] at HTk2
            go_wp2_with (first
              | (go_at_fn fi; refine (HIs.out _).mono ?_; rintro e w6 ⟨rfl, h5⟩; have H6 := Lib.hid h5.adds; have hi6 := HIb.out.adds h5.adds; have j0 : w6.cell? ⟨k0, 0, none⟩ = some (.int .i64 (op : Nat)) := hi6.cell 0; have j1 : w6.cell? ⟨k0, 1, none⟩ = some (.int .i64 xa) := hi6.cell 1; have j2 : w6.cell? ⟨k0, 2, none⟩ = some (.int .i64 xb) := hi6.cell 2; have j3 : w6.cell? ⟨k0, 3, none⟩ = some (.int .i64 xc) := hi6.cell 3; have j4 : w6.cell? ⟨k0, 4, none⟩ = some (.int .u32 xi) := hi6.cell 4; have p2 : w6.cell? ⟨wr.heap.size, 2, none⟩ = some (.func (.func fg) #[] #[]) := (HPb.out.adds h5.adds).cell 2; clear h5 hi6)
              | (go_at_fn fg; refine (HGet.out _).mono ?_; rintro e w7 ⟨rfl, h7⟩; have H7 := Lib.hid h7.adds; clear h7))
            go_roundw
            case rel => exact ⟨k + 1, by go_num, HLt.out, by rw [HTk2.out], Lib.hid (Adds.trans HBe.out (Adds.trans HGb.out (Adds.trans H6.out H7.out))), Lib.hid (HRw.out.adds (Adds.trans HGb.out (Adds.trans H6.out H7.out)))⟩
            case measure => simp [intOf]; have := HLt.out; omega
        · rw [decide_eq_false hz] at hmk
          have hTk := HTk.out
          rw [if_neg hz] at hTk
          have HTk2 := Lib.hid hTk
          clear hm0 hz hTk HTk
          go_wp2_with (first
            | (go_at_fn fi; refine (HIs.out _).mono ?_; rintro e w6 ⟨rfl, h5⟩; have H6 := Lib.hid h5.adds; clear h5))
          go_roundw
          case rel => exact ⟨k + 1, by go_num, HLt.out, by rw [HTk2.out], Lib.hid (Adds.trans HBe.out (Adds.trans HGb.out H6.out)), Lib.hid (HRw.out.adds (Adds.trans HGb.out H6.out))⟩
          case measure => simp [intOf]; have := HLt.out; omega
      · obtain rfl : k = P.length := by omega
        have j0 : wr.cell? ⟨k0, 0, none⟩ = some (.int .i64 (op : Nat)) := HBx.out.cell 0
        have j2 : wr.cell? ⟨k0, 2, none⟩ = some (.int .i64 xb) := HBx.out.cell 2
        have j3 : wr.cell? ⟨k0, 3, none⟩ = some (.int .i64 xc) := HBx.out.cell 3
        rw [List.take_length]
        have hR := HReg.out
        generalize regP P ((op : Int), xa, xb, xc, xi) = ac at hR ⊢
        clear hlt hk
        by_cases h8 : op = 8 ∨ op = 10
        · rw [if_pos h8] at hR
          obtain ⟨⟨q1, q2⟩, q3, q4⟩ := HBC.out h8
          unfold maxI at hR
          have HR := Lib.hid hR
          clear hR
          by_cases hmx3 : ac < xb + xc
          · rw [if_pos hmx3] at HR
            rcases h8 with rfl | rfl
            · go_wp2
              go_ret
              exact ⟨(congrArg (fun z => Ending.returned (Value.int .i64 z)) HR.out).symm, HAll.out⟩
            · go_wp2
              go_ret
              exact ⟨(congrArg (fun z => Ending.returned (Value.int .i64 z)) HR.out).symm, HAll.out⟩
          · rw [if_neg hmx3] at HR
            rcases h8 with rfl | rfl
            · go_wp2
              go_ret
              exact ⟨(congrArg (fun z => Ending.returned (Value.int .i64 z)) HR.out).symm, HAll.out⟩
            · go_wp2
              go_ret
              exact ⟨(congrArg (fun z => Ending.returned (Value.int .i64 z)) HR.out).symm, HAll.out⟩
        · rw [if_neg h8] at hR
          have HR := Lib.hid hR
          have n8 : ((op : Int) == 8) = false := by rw [beq_eq_false_iff_ne]; omega
          have n10 : ((op : Int) == 10) = false := by rw [beq_eq_false_iff_ne]; omega
          clear hR h8
          go_wp2
          go_ret
          exact ⟨(congrArg (fun z => Ending.returned (Value.int .i64 z)) HR.out).symm, HAll.out⟩
theorem regs_any (x : In) (hx : OkIn x) (w : World) : Calls Tryz.prog 109 #[insV x] w fun e w' => e = .returned (.int .i64 (regsI x)) ∧ Adds w w' := by
  cases hm : mayI x
  · have e : regsI x = 0 := by unfold regsI; rw [hm]; rfl
    rw [e]
    exact regs_no x hx hm w
  · exact regs_yes x hx hm w
end Go.Proofs.YtdkgehhlikaocaaGreat
