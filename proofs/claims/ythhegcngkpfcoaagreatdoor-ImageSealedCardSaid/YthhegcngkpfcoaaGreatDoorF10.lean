/- Merged: IF9. -/
import Derived.Test.YthhegcngkpfcoaaGreatDoorF7
import Derived.Test.YthhegcngkpfcoaaGreatDoorF9
import Derived.Test.YthhegcngkpfcoaaGreatDoorF4
namespace Go.Proofs.YthhegcngkpfcoaaGreatDoor
open Go Go.RowKit Go.Shelf Go.Lib

def bytesP (l : List (Nat × Nat)) (x : In) : List UInt8 := l.flatMap fun p => fixB (getP p.1 x).toNat (widN p.1)
/-- The bytes of an instruction that may be. -/
def bytesI (x : In) : List UInt8 := UInt8.ofNat x.1.toNat :: bytesP (partsN x.1.toNat) x
theorem look_op0 (k : Nat) (h1 : 1 ≤ k) (h2 : k ≤ 19) (b : Nat) (w : World) (h : MapS w b 19) :
    (Instr.lookup 144 (.map (some b)) (.int .i64 k) false).run Tryz.prog w = .ok (shapeV (shOf k)) w := by
  obtain ⟨v, ps, hr, hv⟩ := h.lookup kop Tryz.underlying144 (zeroSh w) (zd := shD (0, 0, 0, 0)) (zp := []) zero_elem (Maps.keyOf_int_mk Tryz.underlying56 (wf_op k h1 h2))
  rw [at_op k h1 h2] at hv
  rw [shElem_inj hv (elem_op k h1 h2)] at hr
  exact hr
theorem mayI_op {x : In} (h : mayI x = true) : ∃ k : Nat, x.1 = k ∧ 1 ≤ k ∧ k ≤ 19 ∧ holdsL (partsN k) x = true := by
  unfold mayI at h
  rw [Bool.and_eq_true, decide_eq_true_eq] at h
  obtain ⟨h1, h2⟩ := h
  exact ⟨x.1.toNat, by omega, by omega, by omega, h2⟩
theorem holdsL_all {P : List (Nat × Nat)} {x : In} (h : holdsL P x = true) : ∀ j, j < P.length → holdsP (P.getD j (0, 0)) x = true := by
  unfold holdsL at h
  rw [Bool.and_eq_true] at h
  exact all_holds.1 h.1
theorem lo_pos (n : Nat) : 0 ≤ loN n := by unfold loN; split <;> omega
theorem holdsP_get {p : Nat × Nat} {x : In} (h : holdsP p x = true) (hb : p.2 = 1 → 0 ≤ getP 1 x) : 0 ≤ getP p.1 x ∧ getP p.1 x ≤ 4294967295 := by
  unfold holdsP at h
  rw [decide_eq_true_eq] at h
  have := lo_pos p.2
  refine ⟨by have := h.1; omega, ?_⟩
  have h2 := h.2
  unfold hiN at h2
  split at h2 <;> first | omega | (rename_i e; have := hb e; omega)
theorem bytesP_take {P : List (Nat × Nat)} {x : In} {k : Nat} (h : k < P.length) : bytesP (P.take (k + 1)) x = bytesP (P.take k) x ++ fixB (getP (P.getD k (0, 0)).1 x).toNat (widN (P.getD k (0, 0)).1) := by
  unfold bytesP
  rw [List.take_succ_eq_append_getElem h, List.flatMap_append]
  simp [List.getD_eq_getElem?_getD, h]
theorem RowP.same {w w' : World} {g : Nat} {ps : List Pt} (h : RowP w g ps) (hb : w'.heap[g]? = w.heap[g]?) : RowP w' g ps := fun i hi q hq => by
  rw [← h i hi q hq]
  unfold World.cell?
  rw [hb]
theorem RowP.lt {w : World} {g : Nat} {ps : List Pt} (h : RowP w g ps) (hp : 0 < ps.length) : g < w.heap.size := by
  have h0 := h 0 hp 0 (by omega)
  have h1 : (ptC (ps.getD 0 (0, 0)))[0]? = some (slotV (ps.getD 0 (0, 0)).1) := rfl
  exact World.block_lt_of_cell? w _ (h0.trans h1)
theorem RowP.adds {w w' : World} {g : Nat} {ps : List Pt} (h : RowP w g ps) (ha : Adds w w') : RowP w' g ps := fun i hi => (h.same (ha.block g (h.lt (by omega)))) i hi
theorem slot_no8 (n : Nat) (x : Int) : slotV n ≠ .int .u8 x := by cases n <;> (intro h; cases h)
theorem fixB_short (m : Nat) (x : Int) : (fixB m x).length ≤ 8 := by
  unfold fixB
  split
  · rename_i h
    unfold fixE at h
    split at h
    · rename_i hw
      have : x = 1 ∨ x = 2 ∨ x = 4 ∨ x = 8 := by simpa [isW, or_assoc] using hw
      rw [leB_length]; omega
    · cases h
  · simp
theorem bytesP_short (l : List (Nat × Nat)) (x : In) : (bytesP l x).length ≤ 8 * l.length := by
  unfold bytesP
  induction l with
  | nil => simp
  | cons p t ih => rw [List.flatMap_cons, List.length_append, List.length_cons]; have := fixB_short (getP p.1 x).toNat (widN p.1); omega
/-- How region 8 of Bytes stands. -/
def RegB8 (W0 : World) (l7 : Bool) (vp : Value) (bl : List UInt8) (b' fr : Act) (w2 : World) : Prop :=
  b' = fr ∧ Adds W0 w2 ∧ (l7 = true → OwnB w2 W0.heap.size vp bl)
set_option maxRecDepth 100000 in
set_option maxHeartbeats 4000000 in
theorem bytes8_yes (x : In) (hx : OkIn x) (hm : mayI x = true) (w : World) (hv : Widths w) : Calls Tryz.prog 62 #[insV x] w fun e w' => ∃ v, e = .returned (.tuple #[v, .int .i64 0]) ∧ OwnB w' w.heap.size v (bytesI x) ∧ Adds w w' := by
  have hmx : Tryz.prog.follows .mixedOrders = true := by kernel_rfl
  obtain ⟨w1, hw1⟩ : ∃ w1, w.alloc (.cells (insC x).toArray 59) = w1 := ⟨_, rfl⟩
  have HA1 := Lib.hid (show Adds w w1 by rw [← hw1]; exact (Gr.new _ _).adds)
  have HB1 := Lib.hid (show BkS 59 w1 w.heap.size (insC x) by rw [← hw1]; exact BkS.new _ _ _)
  have HSz := Lib.hid (show w1.heap.size = w.heap.size + 1 by rw [← hw1]; simp)
  have hc := check8 x hx w1
  unfold errI at hc
  rw [hm] at hc
  have HC := Lib.hid hc
  clear hc
  obtain ⟨op, hop, o1, o2, hl⟩ := mayI_op hm
  have HHo := Lib.hid (holdsL_all hl)
  have HOk := Lib.hid (okParts_op op)
  have HPa := Lib.hid (fun W => parts_op op o1 o2 W)
  rw [show PartsPost (shOf op) = fun w e w' => ∃ g, e = .returned (.slice (some ⟨g, 0, none⟩) (partsOf (shOf op)).length 4) ∧ w.heap.size ≤ g ∧ RowP w' g (partsOf (shOf op)) ∧ Adds w w' from rfl, partsOf_op op o1 o2] at HPa
  unfold ptN at HPa
  simp only [List.length_map] at HPa
  have HLk := Lib.hid (fun bm W (h : MapS W bm 19) => look_op0 op o1 o2 bm W h)
  have HBy := Lib.hid (show bytesI x = UInt8.ofNat op :: bytesP (partsN op) x by unfold bytesI; rw [hop]; rfl)
  have HOp := Lib.hid (And.intro o1 o2)
  generalize partsN op = P at HHo HOk HPa HBy
  unfold shapeV at HPa HLk
  generalize slotV (shOf op).1 = v0 at HPa HLk
  generalize slotV (shOf op).2.1 = v1 at HPa HLk
  generalize slotV (shOf op).2.2.1 = v2 at HPa HLk
  generalize slotV (shOf op).2.2.2 = v3 at HPa HLk
  have HX := Lib.hid hx
  have HV := Lib.hid hv
  have hu8 : IntKind.u8.wrap (op : Int) = ((UInt8.ofNat op).toNat : Nat) := by rw [byte_wrap, UInt8.toNat_ofNat']
  clear hm hl hx hv o1 o2
  obtain ⟨xo, xa, xb, xc, xi⟩ := x
  obtain rfl : xo = op := hop
  have i0 : w1.cell? ⟨w.heap.size, 0, none⟩ = some (.int .i64 (op : Nat)) := HB1.out.cell 0
  have i1 : w1.cell? ⟨w.heap.size, 1, none⟩ = some (.int .i64 xa) := HB1.out.cell 1
  have i2 : w1.cell? ⟨w.heap.size, 2, none⟩ = some (.int .i64 xb) := HB1.out.cell 2
  have i3 : w1.cell? ⟨w.heap.size, 3, none⟩ = some (.int .i64 xc) := HB1.out.cell 3
  have i4 : w1.cell? ⟨w.heap.size, 4, none⟩ = some (.int .u32 xi) := HB1.out.cell 4
  go_enter Tryz.func62, Tryz.ntmps62
  go_wp2_with (go_at_call 76; refine HC.out.mono ?_; rintro e w2 ⟨rfl, q⟩; have HA2 := Lib.hid q; have c0 := (HB1.out.adds q).cell 0; clear q)
  obtain ⟨w3, hw3⟩ : ∃ w3, w2.alloc (.cells #[.int .u8 ((op : Int) % 256)] 5) = w3 := ⟨_, rfl⟩
  have HA3 := Lib.hid (show Adds w1 w3 by rw [← hw3]; exact Adds.trans HA2.out (Gr.new _ _).adds)
  have HO3 := Lib.hid (show OwnB w3 (w.heap.size + 1) (.slice (some ⟨w2.heap.size, 0, none⟩) 1 1) [UInt8.ofNat op] by
    have h := OwnB.lit w2 [UInt8.ofNat op] (by simp [maxLen])
    have e : (w2.alloc (.cells (List.map byteV [UInt8.ofNat op]).toArray 5)) = w3 := by rw [← hw3]; simp [byteV, UInt8.toNat_ofNat']
    rw [e] at h
    exact h.lower (by have h1 := HA2.out.size; have h2 := HB1.out.lt; omega))
  rw [hw3]
  clear hw3 c0 i0 i1 i2 i3 i4
  have k0 := (HB1.out.adds HA3.out).cell 0
  refine Code.wp_mono (Q := fun e a W => Hid (e = .normal ∧ ∃ (g bm : Nat), a = { tmps := #[insV (((op : Nat) : Int), xa, xb, xc, xi), Value.pointer (some { block := w.heap.size, off := 0 }), Value.slice none 0 0, Value.int IntKind.i64 0, Value.int IntKind.i64 0, Value.slice (some { block := w2.heap.size, off := 0 }) 1 1, undef, undef, undef, undef, Value.agg #[Value.int IntKind.i64 ((op : Nat) : Int), Value.int IntKind.i64 xa, Value.int IntKind.i64 xb, Value.int IntKind.i64 xc, Value.int IntKind.u32 xi], Value.int IntKind.i64 0, Value.int IntKind.i64 0, Value.bool false, undef, Value.pointer (some { block := w.heap.size, off := 0 }), Value.int IntKind.i64 ((op : Nat) : Int), Value.int IntKind.u8 ((op : Int) % 256), Value.slice (some { block := w2.heap.size, off := 0 }) 1 1, Value.map (some bm), Value.pointer (some { block := w.heap.size, off := 0 }), Value.int IntKind.i64 ((op : Nat) : Int), Value.agg #[v0, v1, v2, v3], Value.slice (some { block := g, off := 0 }) P.length 4, Value.int IntKind.i64 ((P.length : Nat) : Int), Value.int IntKind.i64 0, undef, undef, undef, undef, undef, undef, undef, undef, undef, undef, undef, undef, undef, undef, undef, undef, undef, undef, undef], defers := [] } ∧ w3.heap.size ≤ g ∧ RowP W g (P.map fun p => (p.2 + 1, p.1)) ∧ Adds w3 W)) ?_ ?_
  case refine_2 =>
    refine wp_calm8 ?_
    go_region_with (first
      | (go_at_call 86; refine (shapes_any _).mono ?_; rintro e w4 ⟨bm, rfl, _, hM, q⟩; have HA4 := Lib.hid (Adds.trans (Adds.drew w3) q); have hlk := HLk.out bm w4 hM; have k4 := (HB1.out.adds (Adds.trans HA3.out HA4.out)).cell 0; clear q hM)
      | (go_at_call 87; refine (HPa.out _).mono ?_; rintro e w5 ⟨g, rfl, q1, q2, q3⟩; have HG := Lib.hid q1; have HRow := Lib.hid q2; have HA5 := Lib.hid (Adds.trans HA4.out q3); clear q1 q2 q3))
    all_goals
      simp only [Exit.then]
      exact Lib.hid ⟨(by first | rfl | trivial), g, bm, rfl, Nat.le_trans HA4.out.size HG.out, HRow.out, HA5.out⟩
  · rintro e a w5 hq
    obtain ⟨rfl, g, bm, rfl, hg, hrow5, ha5⟩ := hq.out
    have HG := Lib.hid hg; have HRow := Lib.hid hrow5; have HA5 := Lib.hid ha5
    clear hq hg hrow5 ha5 k0
    obtain ⟨k0, hk0⟩ : ∃ k0, w.heap.size = k0 := ⟨_, rfl⟩
    have HK0 := Lib.hid (show k0 = w.heap.size ∧ w1.heap.size = k0 + 1 from ⟨hk0.symm, by have := HB1.out; have := HSz.out; omega⟩)
    have HB := Lib.hid (hk0 ▸ HB1.out)
    have HO5 := Lib.hid ((hk0 ▸ HO3.out : OwnB w3 (k0 + 1) _ _).adds HA5.out)
    rw [hk0]
    clear hk0
    have HA15 := Lib.hid (Adds.trans HA3.out HA5.out)
    have HLen := Lib.hid (show P.length ≤ 4 from HOk.out.2.2)
    have HG5 := Lib.hid (show k0 + 1 ≤ g from by have h1 := HG.out; have h3 := HA3.out.size; have h4 := HK0.out; omega)
    simp only [Exit.then]
    go_wp2_with fail
    go_loopw [5, 25] (fun s i wr => ∃ k : Nat, i = .int .i64 k ∧ k ≤ P.length ∧ Hid (OwnB wr (k0 + 1) s (UInt8.ofNat op :: bytesP (P.take k) ((op : Int), xa, xb, xc, xi))) ∧ Hid (Below (k0 + 1) w1 wr) ∧ Hid (RowP wr g (P.map fun p => (p.2 + 1, p.1)))) (fun _ i _ => P.length + 1 - (intOf i).toNat)
    case atStart => exact ⟨0, rfl, Nat.zero_le _, HO5, Lib.hid (HA15.out.mono (Nat.le_of_eq HK0.out.2.symm)), HRow⟩
    case round =>
      obtain ⟨k, rfl, hk, HOw, HBe, HRw⟩ := hrel
      have hkI : (k : Int) ≤ 4 := by have := HLen.out; omega
      have HHo2 := HHo.out
      have bx : BkS 59 wr k0 (insC ((op : Int), xa, xb, xc, xi)) := (HBe.out.block k0 (by omega)).trans HB.out
      have HBx := Lib.hid bx
      have hk0 := bx.lt
      have HAll := Lib.hid (show Adds w wr from Below.trans HA1.out (HBe.out.mono (by have := HK0.out; omega)))
      clear bx
      by_cases hlt : k < P.length
      · have hltI : (k : Int) < (P.length : Int) := by omega
        have hrow : ∀ q, q < 4 → wr.cell? ⟨g, k * 4 + q, none⟩ = (ptC ((P.getD k (0, 0)).2 + 1, (P.getD k (0, 0)).1))[q]? := fun q hq => by
          have h0 := HRw.out k (by simpa using hlt) q hq
          rw [ptN_get hlt] at h0
          exact h0
        have c0 := hrow 0 (by omega); have c1 := hrow 1 (by omega); have c2 := hrow 2 (by omega); have c3 := hrow 3 (by omega)
        have hgl := HRw.out.lt (by simp; omega)
        have HGne := Lib.hid (show ∀ (W : World) (v : Value) (l : List UInt8), Adds wr W → OwnB W (k0 + 1) v (UInt8.ofNat op :: l) → v.ownBlock ≠ some g from fun W v l ha ho => by
          have h0 := (HRw.out.adds ha) 0 (by simp; omega) 0 (by omega)
          exact own_not8 h0 (fun x => slot_no8 _ x) ho)
        have HOp2 := Lib.hid (HOk.out.1.1 _ (mem_getD hlt))
        have hB1 : (P.getD k (0, 0)).2 = 1 → 0 ≤ getP 1 ((op : Int), xa, xb, xc, xi) := fun h => by
          obtain ⟨j, hj, e⟩ := HOk.out.1.2 k hlt h
          have h2 := HHo2 j (by omega)
          rw [e] at h2
          have h3 : 0 ≤ xb ∧ xb ≤ 15 := by simpa [holdsP, loN, hiN, getP] using h2
          exact h3.1
        obtain ⟨m, hm⟩ : ∃ m : Nat, getP (P.getD k (0, 0)).1 ((op : Int), xa, xb, xc, xi) = m := ⟨(getP (P.getD k (0, 0)).1 ((op : Int), xa, xb, xc, xi)).toNat, by have := (holdsP_get (HHo2 k hlt) hB1).1; omega⟩
        have hmb : m ≤ 4294967295 := by have := (holdsP_get (HHo2 k hlt) hB1).2; rw [hm] at this; omega
        have HTk := Lib.hid (bytesP_take (x := ((op : Int), xa, xb, xc, xi)) hlt)
        have HGet := Lib.hid (fun W => get_any (P.getD k (0, 0)).1 HOp2.out.1 ((op : Int), xa, xb, xc, xi) HX.out.imm.1 HX.out.imm.2 W)
        rw [hm] at HTk HGet
        have eg := enter_get (P.getD k (0, 0)).1 HOp2.out.1
        have ew := u64_in (a := m) (by omega)
        have HLt := Lib.hid hlt
        simp only [ptC, List.getElem?_cons_zero, List.getElem?_cons_succ, Nat.add_zero, slotV] at c0 c1 c2 c3
        unfold fnV at c0 c2 c3
        generalize isF (P.getD k (0, 0)).2 = fi at c0
        generalize getF (P.getD k (0, 0)).1 = fg at c2 HGet eg
        generalize putF (P.getD k (0, 0)).1 = fp at c3
        generalize widN (P.getD k (0, 0)).1 = wd at c1 HTk
        have HMb := Lib.hid hmb
        clear hm hB1 hrow hlt hk HHo2 hmb
        have HSz0 := Lib.hid (show k0 + 1 ≤ wr.heap.size from hk0)
        have HPl := Lib.hid (show 0 < (P.map fun p => ((p.2 + 1, p.1) : Pt)).length by rw [List.length_map]; have := HLt.out; omega)
        have HFix := Lib.hid (fun W (h : Adds w W) => fixed_any m wd W (HV.out.below h))
        obtain ⟨fe, hfe⟩ : ∃ fe, fixE m wd = fe := ⟨_, rfl⟩
        obtain ⟨bl, hbl⟩ : ∃ bl, fixB m wd = bl := ⟨_, rfl⟩
        rw [hfe, hbl] at HFix
        rw [show ((m : Nat) : Int).toNat = m by omega, hbl] at HTk
        have HSh := Lib.hid (show (UInt8.ofNat op :: bytesP (P.take k) ((op : Int), xa, xb, xc, xi)).length + bl.length ≤ 1000000 by rw [← hbl, List.length_cons]; have := bytesP_short (P.take k) ((op : Int), xa, xb, xc, xi); have := fixB_short m wd; rw [List.length_take] at *; have := HLen.out; omega)
        clear hfe hbl
        go_wp2_with fail
        obtain ⟨sz, hsz⟩ : ∃ sz, wr.heap.size = sz := ⟨_, rfl⟩
        obtain ⟨wb, hwb⟩ : ∃ wb, wr.alloc (.cells #[.func (.func fi) #[] #[], .int .i64 wd, .func (.func fg) #[] #[], .func (.func fp) #[] #[]] 150) = wb := ⟨_, rfl⟩
        have HGb := Lib.hid (show Gr wr wb by rw [← hwb]; exact Gr.new _ _)
        have HPb := Lib.hid (show BkS 150 wb sz [.func (.func fi) #[] #[], .int .i64 wd, .func (.func fg) #[] #[], .func (.func fp) #[] #[]] by rw [← hwb, ← hsz]; exact BkS.new _ _ _)
        have g2 : wb.cell? ⟨sz, 2, none⟩ = some (.func (.func fg) #[] #[]) := HPb.out.cell 2
        have g1 : wb.cell? ⟨sz, 1, none⟩ = some (.int .i64 wd) := HPb.out.cell 1
        have HBb := Lib.hid (HBx.out.adds HGb.out.adds)
        have j0 : wb.cell? ⟨k0, 0, none⟩ = some (.int .i64 (op : Nat)) := HBb.out.cell 0
        have j1 : wb.cell? ⟨k0, 1, none⟩ = some (.int .i64 xa) := HBb.out.cell 1
        have j2 : wb.cell? ⟨k0, 2, none⟩ = some (.int .i64 xb) := HBb.out.cell 2
        have j3 : wb.cell? ⟨k0, 3, none⟩ = some (.int .i64 xc) := HBb.out.cell 3
        have j4 : wb.cell? ⟨k0, 4, none⟩ = some (.int .u32 xi) := HBb.out.cell 4
        rw [hwb, hsz]
        clear hwb hsz c0 c1 c2 c3
        refine (wpIn_wide (n := 6)).1 ?_
        refine wpIn_region_inv (fun L b' w6 => ∃ vp : Value, RegB8 wb (L 7) vp bl b' ({ tmps := #[insV (((op : Nat) : Int), xa, xb, xc, xi), Value.pointer (some { block := k0, off := 0 }), Value.slice none 0 0, Value.int IntKind.i64 0, Value.int IntKind.i64 0, u5, undef, Value.pointer (some { block := sz, off := 0 }), sel8 (L 11) (vp) (u8), sel8 (L 12) (Value.int IntKind.i64 fe) (u9), Value.agg #[Value.int IntKind.i64 ((op : Nat) : Int), Value.int IntKind.i64 xa, Value.int IntKind.i64 xb, Value.int IntKind.i64 xc, Value.int IntKind.u32 xi], Value.int IntKind.i64 0, Value.int IntKind.i64 0, Value.bool false, undef, Value.pointer (some { block := k0, off := 0 }), Value.int IntKind.i64 ((op : Nat) : Int), Value.int IntKind.u8 ((op : Int) % 256), Value.slice (some { block := w2.heap.size, off := 0 }) 1 1, Value.map (some bm), Value.pointer (some { block := k0, off := 0 }), Value.int IntKind.i64 ((op : Nat) : Int), Value.agg #[v0, v1, v2, v3], Value.slice (some { block := g, off := 0 }) P.length 4, Value.int IntKind.i64 ((P.length : Nat) : Int), Value.int IntKind.i64 ((k : Nat) : Int), Value.bool true, Value.pointer (some { block := g, off := k * 4 }), Value.agg #[Value.func (Fn.func fi) #[] #[], Value.int IntKind.i64 wd, Value.func (Fn.func fg) #[] #[], Value.func (Fn.func fp) #[] #[]], sel8 (L 8) (Value.tuple #[vp, Value.int IntKind.i64 fe]) (u29), sel8 (L 0) (Value.pointer (some { block := sz, off := 2 })) (u30), sel8 (L 1) (Value.func (Fn.func fg) #[] #[]) (u31), sel8 (L 2) (Value.agg #[Value.int IntKind.i64 ((op : Nat) : Int), Value.int IntKind.i64 xa, Value.int IntKind.i64 xb, Value.int IntKind.i64 xc, Value.int IntKind.u32 xi]) (u32), sel8 (L 3) (Value.int IntKind.i64 ((m : Nat) : Int)) (u33), sel8 (L 4) (Value.int IntKind.u64 ((m : Nat) : Int)) (u34), sel8 (L 5) (Value.pointer (some { block := sz, off := 1 })) (u35), sel8 (L 6) (Value.int IntKind.i64 wd) (u36), sel8 (L 7) (Value.tuple #[vp, Value.int IntKind.i64 fe]) (u37), sel8 (L 9) (vp) (u38), sel8 (L 10) (Value.int IntKind.i64 fe) (u39), u40, u41, u42, u43, undef], defers := [] }) w6) hmx (by kernel_rfl) ?inv0 ?step ?fin
        case inv0 => exact ⟨undef, rfl, Adds.drew _, fun h => (by cases h)⟩
        case step =>
          rintro L b' w6 i o ho hL hC he ⟨vp, rfl, hP⟩
          have q8 := hC 8 _ rfl
          have q9 := hC 9 _ rfl
          have q11 := hC 11 _ rfl
          simp [Region.binds] at q8 q9 q11
          clear hC
          have HP := Lib.hid hP
          have m1 := HPb.out.adds hP.1
          have m2 := HBb.out.adds hP.1
          have g2 : w6.cell? ⟨sz, 2, none⟩ = some (.func (.func fg) #[] #[]) := m1.cell 2
          have g1 : w6.cell? ⟨sz, 1, none⟩ = some (.int .i64 wd) := m1.cell 1
          have j0 : w6.cell? ⟨k0, 0, none⟩ = some (.int .i64 (op : Nat)) := m2.cell 0
          have j1 : w6.cell? ⟨k0, 1, none⟩ = some (.int .i64 xa) := m2.cell 1
          have j2 : w6.cell? ⟨k0, 2, none⟩ = some (.int .i64 xb) := m2.cell 2
          have j3 : w6.cell? ⟨k0, 3, none⟩ = some (.int .i64 xc) := m2.cell 3
          have j4 : w6.cell? ⟨k0, 4, none⟩ = some (.int .u32 xi) := m2.cell 4
          clear hP m1 m2
          rcases i with _ | _ | _ | _ | _ | _ | _ | _ | _ | _ | _ | _ | _ | i
          · simp only [List.getElem?_cons_zero, Option.some.injEq] at ho
            subst ho
            try simp [Region.binds] at he
            clear q8 q9 q11
            try simp only []
            gi_wp2
            refine ⟨vp, by simp [sel8, *], HP.out.1, (by first | exact HP.out.2 | simpa [he] using HP.out.2)⟩
          · simp only [List.getElem?_cons_zero, List.getElem?_cons_succ, Option.some.injEq] at ho
            subst ho
            try simp [Region.binds] at he
            clear q8 q9 q11
            try simp only [he, sel8_t]
            gi_wp2
            refine ⟨vp, by simp [sel8, *], HP.out.1, (by first | exact HP.out.2 | simpa [he] using HP.out.2)⟩
          · simp only [List.getElem?_cons_zero, List.getElem?_cons_succ, Option.some.injEq] at ho
            subst ho
            try simp [Region.binds] at he
            clear q8 q9 q11
            try simp only []
            gi_wp2
            refine ⟨vp, by simp [sel8, *], HP.out.1, (by first | exact HP.out.2 | simpa [he] using HP.out.2)⟩
          · simp only [List.getElem?_cons_zero, List.getElem?_cons_succ, Option.some.injEq] at ho
            subst ho
            try simp [Region.binds] at he
            clear q8 q9 q11
            simp only [he, sel8_t]
            gi_wp2_with (refine ⟨trivial, ?_⟩; gi_at_fn fg; refine (callsIn_wide.2 (HGet.out w6)).mono ?_; rintro e w7 ⟨rfl, hA7⟩; have HA7 := Lib.hid hA7.adds; clear hA7)
            refine ⟨vp, by simp [sel8, *], Adds.trans HP.out.1 HA7.out, fun h => (HP.out.2 (by first | exact h | (simp [he]; done) | simpa [he] using h)).adds HA7.out⟩
          · simp only [List.getElem?_cons_zero, List.getElem?_cons_succ, Option.some.injEq] at ho
            subst ho
            try simp [Region.binds] at he
            clear q8 q9 q11
            try simp only [he, sel8_t]
            gi_wp2
            refine ⟨vp, by simp [sel8, *], HP.out.1, (by first | exact HP.out.2 | simpa [he] using HP.out.2)⟩
          · simp only [List.getElem?_cons_zero, List.getElem?_cons_succ, Option.some.injEq] at ho
            subst ho
            try simp [Region.binds] at he
            clear q8 q9 q11
            try simp only []
            gi_wp2
            refine ⟨vp, by simp [sel8, *], HP.out.1, (by first | exact HP.out.2 | simpa [he] using HP.out.2)⟩
          · simp only [List.getElem?_cons_zero, List.getElem?_cons_succ, Option.some.injEq] at ho
            subst ho
            try simp [Region.binds] at he
            clear q8 q9 q11
            try simp only [he, sel8_t]
            gi_wp2
            refine ⟨vp, by simp [sel8, *], HP.out.1, (by first | exact HP.out.2 | simpa [he] using HP.out.2)⟩
          · simp only [List.getElem?_cons_zero, List.getElem?_cons_succ, Option.some.injEq] at ho
            subst ho
            try simp [Region.binds] at he
            have z8 : L 8 = false := by cases h : L 8 with | false => rfl | true => (have := q8 h; simp_all)
            have z9 : L 9 = false := by cases h : L 9 with | false => rfl | true => (have := q9 h; simp_all)
            have z11 : L 11 = false := by cases h : L 11 with | false => rfl | true => (have := q11 h; simp_all)
            clear q8 q9 q11
            simp only [he, sel8_t]
            gi_wp2_with (refine ⟨trivial, ?_⟩; gi_at_call 61; refine (callsIn_wide.2 (HFix.out w6 (Adds.trans HAll.out (Adds.trans HGb.out.adds HP.out.1)))).mono ?_; rintro e w7 ⟨vq, rfl, h6, h7⟩; have H7 := Lib.hid h6; have HA7 := Lib.hid h7; clear h6 h7)
            refine ⟨vq, by simp [sel8, *], Adds.trans HP.out.1 HA7.out, fun _ => H7.out.lower HP.out.1.size⟩
          · simp only [List.getElem?_cons_zero, List.getElem?_cons_succ, Option.some.injEq] at ho
            subst ho
            try simp [Region.binds] at he
            clear q8 q9 q11
            try simp only [he, sel8_t]
            gi_wp2
            refine ⟨vp, by simp [sel8, *], HP.out.1, (by first | exact HP.out.2 | simpa [he] using HP.out.2)⟩
          · simp only [List.getElem?_cons_zero, List.getElem?_cons_succ, Option.some.injEq] at ho
            subst ho
            try simp [Region.binds] at he
            clear q8 q9 q11
            try simp only [he, sel8_t]
            gi_wp2
            refine ⟨vp, by simp [sel8, *], HP.out.1, (by first | exact HP.out.2 | simpa [he] using HP.out.2)⟩
          · simp only [List.getElem?_cons_zero, List.getElem?_cons_succ, Option.some.injEq] at ho
            subst ho
            try simp [Region.binds] at he
            clear q8 q9 q11
            try simp only [he, sel8_t]
            gi_wp2
            refine ⟨vp, by simp [sel8, *], HP.out.1, (by first | exact HP.out.2 | simpa [he] using HP.out.2)⟩
          · simp only [List.getElem?_cons_zero, List.getElem?_cons_succ, Option.some.injEq] at ho
            subst ho
            try simp [Region.binds] at he
            clear q8 q9 q11
            try simp only [he, sel8_t]
            gi_wp2
            refine ⟨vp, by simp [sel8, *], HP.out.1, (by first | exact HP.out.2 | simpa [he] using HP.out.2)⟩
          · simp only [List.getElem?_cons_zero, List.getElem?_cons_succ, Option.some.injEq] at ho
            subst ho
            try simp [Region.binds] at he
            clear q8 q9 q11
            try simp only [he, sel8_t]
            gi_wp2
            refine ⟨vp, by simp [sel8, *], HP.out.1, (by first | exact HP.out.2 | simpa [he] using HP.out.2)⟩
          · simp at ho
        case fin =>
          rintro b' w7 ⟨vp, rfl, hA, hB⟩
          simp only [List.length_cons, List.length_nil, Nat.reduceAdd, Nat.reduceLT, decide_true, sel8_t] at hB ⊢
          have HB7 := Lib.hid (hB trivial); have HA7 := Lib.hid (Adds.trans HGb.out.adds hA)
          clear hA hB eg
          go_wp2_with (at_builtin; refine wp_append_b8 rfl (.tmp 40) (.tmp 41) rfl (k0 + 1) u5 _ rfl (HOw.out.adds HA7.out) vp bl _ rfl HB7.out.bytes HSh.out (by have := HA7.out.size; have := HSz0.out; omega) ?_; intro v8 w8 o8 g8; have O8 := Lib.hid o8; have G8 := Lib.hid g8; clear o8 g8)
          go_roundw
          case rel =>
            refine ⟨k + 1, rfl, HLt.out, Lib.hid (by rw [HTk.out]; exact O8.out), Lib.hid ?_, Lib.hid ?_⟩
            · exact Below.grown (HBe.out.trans (HA7.out.mono (by have := HSz0.out; omega))) G8.out (by have := HA7.out.size; have := HSz0.out; omega) fun q e => ((HOw.out.adds HA7.out).lt q e).1
            · exact (HRw.out.adds HA7.out).same (G8.out.block g (HRw.out.adds HA7.out |>.lt HPl.out) (fun e => HGne.out w7 u5 _ HA7.out (HOw.out.adds HA7.out) e.symm))
          case measure => simp [intOf]; have := HLt.out; omega
      · obtain rfl : k = P.length := by omega
        go_wp2_with fail
        go_ret2
        refine ⟨u5, rfl, ?_, HAll.out⟩
        have h := HOw.out
        rw [List.take_length] at h
        rw [HBy.out]
        exact h.lower (by have := HK0.out; omega)
end Go.Proofs.YthhegcngkpfcoaaGreatDoor
