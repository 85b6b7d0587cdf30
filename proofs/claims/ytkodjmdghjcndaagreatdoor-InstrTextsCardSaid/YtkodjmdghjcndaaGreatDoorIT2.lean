/- The text of an instruction: contract. -/
import Derived.Test.YtkodjmdghjcndaaGreatDoorIT1
namespace Go.Proofs.YtkodjmdghjcndaaGreatDoor
open Go Go.RowKit Go.Shelf

/-- The word of a part. -/
def tokP (p : Nat × Nat) (x : In) : List UInt8 := markN p.2 ++ Lib.decDigits (getP p.1 x).toNat
def textsP (l : List (Nat × Nat)) (x : In) : List (List UInt8) := l.flatMap fun p => if p.2 = 3 then [] else [tokP p x]
def wordsI (x : In) : List (List UInt8) := firstI x :: textsP (partsN x.1.toNat) x
/-- The text of an instruction that may be. -/
def textI (x : In) : List UInt8 := joinI (wordsI x)
theorem textsP_take {P : List (Nat × Nat)} {x : In} {k : Nat} (h : k < P.length) : textsP (P.take (k + 1)) x = textsP (P.take k) x ++ (if (P.getD k (0, 0)).2 = 3 then [] else [tokP (P.getD k (0, 0)) x]) := by
  unfold textsP
  rw [List.take_succ_eq_append_getElem h, List.flatMap_append]
  simp [List.getD_eq_getElem?_getD, h]
theorem textsP_short (l : List (Nat × Nat)) (x : In) : (textsP l x).length ≤ l.length := by
  unfold textsP
  induction l with
  | nil => simp
  | cons p t ih =>
    rw [List.flatMap_cons, List.length_append, List.length_cons]
    have : (if p.2 = 3 then ([] : List (List UInt8)) else [tokP p x]).length ≤ 1 := by split <;> simp
    omega
/-- How region 10 of Text stands. -/
def RegT8m (W0 : World) (l9 l10 : Bool) (lb : Nat) (vp : Value) (ts : ByteArray) (base : Nat) (pre : List (List UInt8)) (tt : List UInt8) (u5 : Value) (w2 : World) : Prop :=
  (l10 = false → Adds W0 w2 ∧ (l9 = true → w2.cell? ⟨lb, 0, none⟩ = some (.string ts))) ∧ (l10 = true → OwnT w2 base vp (pre ++ [tt]) ∧ ∃ wx, Adds W0 wx ∧ wx.grownBy w2 u5.ownBlock)
def RegT8 (W0 : World) (l9 l10 : Bool) (lb : Nat) (vp : Value) (ts : ByteArray) (base : Nat) (pre : List (List UInt8)) (tt : List UInt8) (u5 : Value) (b' fr : Act) (w2 : World) : Prop :=
  b' = fr ∧ RegT8m W0 l9 l10 lb vp ts base pre tt u5 w2
section
variable {W0 w2 w3 : World} {l9 : Bool} {lb base : Nat} {vp u5 : Value} {ts : ByteArray} {pre : List (List UInt8)} {tt : List UInt8}
theorem RegT8m.add (h : RegT8m W0 false false lb vp ts base pre tt u5 w2) (ha : Adds w2 w3) : RegT8m W0 false false lb vp ts base pre tt u5 w3 :=
  ⟨fun _ => ⟨Adds.trans (h.1 rfl).1 ha, fun e => (by cases e)⟩, fun e => (by cases e)⟩
theorem RegT8m.lit (h : RegT8m W0 l9 false lb vp ts base pre tt u5 w2) : RegT8m W0 true false w2.heap.size vp ts base pre tt u5 (w2.alloc (.cells #[.string ts] 9)) :=
  ⟨fun _ => ⟨Adds.trans (h.1 rfl).1 (Gr.new _ _).adds, fun _ => (BkS.new 9 w2 [.string ts]).cell 0⟩, fun e => (by cases e)⟩
theorem RegT8m.app {l10 : Bool} {v8 : Value} {t : List UInt8} (h : RegT8m W0 l9 l10 lb vp ts base pre t u5 w2) (e : l10 = false) (o8 : OwnT w3 base v8 (pre ++ [t])) (g8 : w2.grownBy w3 u5.ownBlock) : RegT8m W0 l9 true lb v8 ts base pre t u5 w3 :=
  ⟨fun e => (by cases e), fun _ => ⟨o8, w2, (h.1 e).1, g8⟩⟩
end
theorem str_size8 (l : List UInt8) : (str l).size = l.length := by simp [str, ByteArray.size]
theorem decD_short : ∀ (j u : Nat), u < 10 ^ (j + 1) → (Lib.decDigits u).length ≤ j + 1
  | 0, u, h => by rw [Lib.decDigits, dif_pos (by omega)]; simp
  | j + 1, u, h => by
    rw [Lib.decDigits]
    split
    · simp
    · have := decD_short j (u / 10) (by rw [Nat.pow_succ] at h; omega)
      simp; omega
theorem markN_short (n : Nat) : (markN n).length ≤ 1 := by unfold markN; split <;> simp
theorem textI_cons (x : In) : textI x = firstI x ++ (partsN x.1.toNat).flatMap fun p => if p.2 = 3 then [] else 32 :: tokP p x := by
  unfold textI joinI wordsI
  rw [Lib.join_cons]
  congr 1
  unfold Lib.joinTail textsP
  generalize partsN x.1.toNat = P
  induction P with
  | nil => rfl
  | cons p t ih =>
    rw [List.flatMap_cons, List.flatMap_cons, List.map_append, List.flatten_append, ih]
    congr 1
    split <;> simp
theorem partsN_len (op : Nat) : (partsN op).length ≤ 4 := (okParts_op op).2.2
theorem textI_short (x : In) (hm : mayI x = true) : (textI x).length ≤ 100000 := by
  rw [textI_cons]
  have h1 : (firstI x).length ≤ 7 := by
    unfold firstI
    split
    · have h : ∀ i, (nmB.getD i []).length ≤ 7 := fun i => by
        rw [List.getD_eq_getElem?_getD]
        rcases i with _ | _ | _ | _ | _ | _ | _ | _ | _ | _ | _ | _ | i <;> simp [nmB]
      exact h _
    · have h : ∀ i, (nmIB.getD i []).length ≤ 7 := fun i => by
        rw [List.getD_eq_getElem?_getD]
        rcases i with _ | _ | _ | _ | _ | _ | _ | _ | _ | _ | _ | _ | _ | _ | _ | _ | _ | _ | _ | _ | i <;> simp [nmIB]
      exact h _
  obtain ⟨op, hop, o1, o2, hl⟩ := mayI_op hm
  have hall := holdsL_all hl
  have hok := okParts_op op
  have hP : partsN x.1.toNat = partsN op := by rw [hop]; rfl
  rw [hP]
  have h2 : ∀ p ∈ partsN op, (if p.2 = 3 then ([] : List UInt8) else 32 :: tokP p x).length ≤ 12 := fun p hp => by
    obtain ⟨j, hj, e⟩ := List.getElem_of_mem hp
    have e2 : (partsN op).getD j (0, 0) = p := by simp [List.getD_eq_getElem?_getD, hj, e]
    have h3 := holdsP_get (hall j hj) (fun h => by
      obtain ⟨i, hi, ei⟩ := hok.1.2 j hj h
      have h4 := hall i (by omega)
      rw [ei] at h4
      have h5 : 0 ≤ getP 1 x ∧ getP 1 x ≤ 15 := by simpa [holdsP, loN, hiN, getP] using h4
      exact h5.1)
    rw [e2] at h3
    split
    · simp
    · unfold tokP
      have := markN_short p.2
      have := decD_short 9 (getP p.1 x).toNat (by have := h3.2; omega)
      simp; omega
  have h3 : ((partsN op).flatMap fun p => if p.2 = 3 then [] else 32 :: tokP p x).length ≤ 12 * (partsN op).length := by
    generalize partsN op = P at h2
    induction P with
    | nil => simp
    | cons p t ih =>
      rw [List.flatMap_cons, List.length_append, List.length_cons]
      have := h2 p (List.mem_cons_self)
      have := ih (fun q hq => h2 q (List.mem_cons_of_mem _ hq))
      omega
  have := partsN_len op
  rw [List.length_append]
  omega
theorem slot_noT (n : Nat) (x : ByteArray) : slotV n ≠ .string x := by cases n <;> (intro h; cases h)
set_option maxRecDepth 100000 in
theorem text8_no (x : In) (hx : OkIn x) (hm : mayI x = false) (w : World) : Calls Tryz.prog 9 #[insV x] w fun e w' => e = .returned (.tuple #[.string ByteArray.empty, .int .i64 2]) ∧ Adds w w' := by
  obtain ⟨w1, hw1⟩ : ∃ w1, w.alloc (.cells (insC x).toArray 25) = w1 := ⟨_, rfl⟩
  have HA1 := Lib.hid (show Adds w w1 by rw [← hw1]; exact (Gr.new _ _).adds)
  have HB1 := Lib.hid (show BkS 25 w1 w.heap.size (insC x) by rw [← hw1]; exact BkS.new _ _ _)
  have hc := check8 x hx w1
  unfold errI at hc
  rw [hm] at hc
  have HC := Lib.hid hc
  clear hc
  obtain ⟨xo, xa, xb, xc, xi⟩ := x
  have i0 : w1.cell? ⟨w.heap.size, 0, none⟩ = some (.int .i64 xo) := HB1.out.cell 0
  have i1 : w1.cell? ⟨w.heap.size, 1, none⟩ = some (.int .i64 xa) := HB1.out.cell 1
  have i2 : w1.cell? ⟨w.heap.size, 2, none⟩ = some (.int .i64 xb) := HB1.out.cell 2
  have i3 : w1.cell? ⟨w.heap.size, 3, none⟩ = some (.int .i64 xc) := HB1.out.cell 3
  have i4 : w1.cell? ⟨w.heap.size, 4, none⟩ = some (.int .u32 xi) := HB1.out.cell 4
  go_enter Tryz.func9, Tryz.ntmps9
  go_wp2_with (go_at_call 31; refine HC.out.mono ?_; rintro e w2 ⟨rfl, q⟩; have HA2 := Lib.hid q; clear q)
  go_ret2
  exact ⟨rfl, Adds.trans HA1.out HA2.out⟩
set_option maxRecDepth 100000 in
set_option maxHeartbeats 4000000 in
theorem text8_yes (x : In) (hx : OkIn x) (hm : mayI x = true) (w : World) (hv : IVars w) : Calls Tryz.prog 9 #[insV x] w fun e w' => e = .returned (.tuple #[.string (str (textI x)), .int .i64 0]) ∧ Adds w w' := by
  have hmx : Tryz.prog.follows .mixedOrders = true := by kernel_rfl
  obtain ⟨w1, hw1⟩ : ∃ w1, w.alloc (.cells (insC x).toArray 25) = w1 := ⟨_, rfl⟩
  have HA1 := Lib.hid (show Adds w w1 by rw [← hw1]; exact (Gr.new _ _).adds)
  have HB1 := Lib.hid (show BkS 25 w1 w.heap.size (insC x) by rw [← hw1]; exact BkS.new _ _ _)
  have HSz := Lib.hid (show w1.heap.size = w.heap.size + 1 by rw [← hw1]; simp)
  have hc := check8 x hx w1
  unfold errI at hc
  rw [hm] at hc
  have HC := Lib.hid hc
  clear hc
  obtain ⟨op, hop, o1, o2, hl⟩ := mayI_op hm
  have HHo := Lib.hid (holdsL_all hl)
  have HOk := Lib.hid (okParts_op op)
  have HPa := Lib.hid (fun W => parts_op op o1 o2 W)
  rw [show PartsPost (shOf op) = fun w e w' => ∃ g, e = .returned (.slice (some ⟨g, 0, none⟩) (partsOf (shOf op)).length 4) ∧ w.heap.size ≤ g ∧ RowP w' g (partsOf (shOf op)) ∧ Adds w w' from rfl, partsOf_op op o1 o2] at HPa
  unfold ptN at HPa
  simp only [List.length_map] at HPa
  have HLk := Lib.hid (fun bm W (h : MapS W bm 19) => look_op0 op o1 o2 bm W h)
  have HBy := Lib.hid (show wordsI x = firstI x :: textsP (partsN op) x by unfold wordsI; rw [hop]; rfl)
  have HFst := Lib.hid (fun W (h : Adds w W) => first8 x hm W (hv.adds h))
  have hTl := textI_short x hm
  unfold textI at hTl
  have HTl := Lib.hid hTl
  clear hTl
  have HOp := Lib.hid (And.intro o1 o2)
  generalize partsN op = P at HHo HOk HPa HBy
  unfold shapeV at HPa HLk
  generalize slotV (shOf op).1 = v0 at HPa HLk
  generalize slotV (shOf op).2.1 = v1 at HPa HLk
  generalize slotV (shOf op).2.2.1 = v2 at HPa HLk
  generalize slotV (shOf op).2.2.2 = v3 at HPa HLk
  have HX := Lib.hid hx
  have HV := Lib.hid hv
  clear hm hl hx hv o1 o2
  obtain ⟨xo, xa, xb, xc, xi⟩ := x
  obtain rfl : xo = op := hop
  have i0 : w1.cell? ⟨w.heap.size, 0, none⟩ = some (.int .i64 (op : Nat)) := HB1.out.cell 0
  have i1 : w1.cell? ⟨w.heap.size, 1, none⟩ = some (.int .i64 xa) := HB1.out.cell 1
  have i2 : w1.cell? ⟨w.heap.size, 2, none⟩ = some (.int .i64 xb) := HB1.out.cell 2
  have i3 : w1.cell? ⟨w.heap.size, 3, none⟩ = some (.int .i64 xc) := HB1.out.cell 3
  have i4 : w1.cell? ⟨w.heap.size, 4, none⟩ = some (.int .u32 xi) := HB1.out.cell 4
  go_enter Tryz.func9, Tryz.ntmps9
  go_wp2_with (first
    | (go_at_call 31; refine HC.out.mono ?_; rintro e w2 ⟨rfl, q⟩; have HA2 := Lib.hid q; have d0 : w2.cell? ⟨w.heap.size, 0, none⟩ = some (.int .i64 (op : Nat)) := (HB1.out.adds q).cell 0; have d1 : w2.cell? ⟨w.heap.size, 1, none⟩ = some (.int .i64 xa) := (HB1.out.adds q).cell 1; have d2 : w2.cell? ⟨w.heap.size, 2, none⟩ = some (.int .i64 xb) := (HB1.out.adds q).cell 2; have d3 : w2.cell? ⟨w.heap.size, 3, none⟩ = some (.int .i64 xc) := (HB1.out.adds q).cell 3; have d4 : w2.cell? ⟨w.heap.size, 4, none⟩ = some (.int .u32 xi) := (HB1.out.adds q).cell 4; clear q)
    | (go_at_call 32; refine (HFst.out _ (Adds.trans HA1.out HA2.out)).mono ?_; rintro e wf ⟨rfl, q⟩; have HAf := Lib.hid (Adds.trans HA2.out q); clear q))
  obtain ⟨lw, hlw⟩ : ∃ lw, wf.heap.size = lw := ⟨_, rfl⟩
  obtain ⟨w3, hw3⟩ : ∃ w3, wf.alloc (.cells #[.string (str (firstI ((op : Int), xa, xb, xc, xi)))] 9) = w3 := ⟨_, rfl⟩
  have HA3 := Lib.hid (show Adds w1 w3 by rw [← hw3]; exact Adds.trans HAf.out (Gr.new _ _).adds)
  have HO3 := Lib.hid (show OwnT w3 (w.heap.size + 1) (.slice (some ⟨lw, 0, none⟩) 1 1) [firstI ((op : Int), xa, xb, xc, xi)] by
    have h := OwnT.lit wf (firstI ((op : Int), xa, xb, xc, xi))
    rw [hw3, hlw] at h
    exact h.lower (by have h1 := HAf.out.size; have h2 := HB1.out.lt; omega))
  rw [hw3, hlw]
  obtain ⟨fs, hfs⟩ : ∃ fs, str (firstI ((op : Int), xa, xb, xc, xi)) = fs := ⟨_, rfl⟩
  rw [hfs]
  clear hw3 hlw hfs d0 d1 d2 d3 d4 i0 i1 i2 i3 i4
  have k0 := (HB1.out.adds HA3.out).cell 0
  refine Code.wp_mono (Q := fun e a W => Hid (e = .normal ∧ ∃ (g bm : Nat), a = { tmps := #[insV (((op : Nat) : Int), xa, xb, xc, xi), Value.pointer (some { block := w.heap.size, off := 0 }), Value.string { data := #[] }, Value.int IntKind.i64 0, Value.int IntKind.i64 0, Value.slice (some { block := lw, off := 0 }) 1 1, undef, undef, undef, Value.agg #[Value.int IntKind.i64 ((op : Nat) : Int), Value.int IntKind.i64 xa, Value.int IntKind.i64 xb, Value.int IntKind.i64 xc, Value.int IntKind.u32 xi], Value.int IntKind.i64 0, Value.int IntKind.i64 0, Value.bool false, undef, Value.agg #[Value.int IntKind.i64 ((op : Nat) : Int), Value.int IntKind.i64 xa, Value.int IntKind.i64 xb, Value.int IntKind.i64 xc, Value.int IntKind.u32 xi], Value.string fs, Value.slice (some { block := lw, off := 0 }) 1 1, Value.map (some bm), Value.pointer (some { block := w.heap.size, off := 0 }), Value.int IntKind.i64 ((op : Nat) : Int), Value.agg #[v0, v1, v2, v3], Value.slice (some { block := g, off := 0 }) P.length 4, Value.int IntKind.i64 ((P.length : Nat) : Int), Value.int IntKind.i64 0, undef, undef, undef, undef, undef, undef, undef, undef, undef, undef, undef, undef, undef, undef, undef, undef, undef, undef, undef, undef, undef, undef, undef, undef], defers := [] } ∧ w3.heap.size ≤ g ∧ RowP W g (P.map fun p => (p.2 + 1, p.1)) ∧ Adds w3 W)) ?_ ?_
  case refine_2 =>
    refine wp_calm8 ?_
    go_region_with (first
      | (go_at_call 33; refine (shapes_any _).mono ?_; rintro e w4 ⟨bm, rfl, _, hM, q⟩; have HA4 := Lib.hid (Adds.trans (Adds.drew w3) q); have hlk := HLk.out bm w4 hM; have k4 := (HB1.out.adds (Adds.trans HA3.out HA4.out)).cell 0; clear q hM)
      | (go_at_call 34; refine (HPa.out _).mono ?_; rintro e w5 ⟨g, rfl, q1, q2, q3⟩; have HG := Lib.hid q1; have HRow := Lib.hid q2; have HA5 := Lib.hid (Adds.trans HA4.out q3); clear q1 q2 q3))
    all_goals
      simp only [Exit.then]
      exact Lib.hid ⟨(by first | rfl | trivial), g, bm, rfl, Nat.le_trans HA4.out.size HG.out, HRow.out, HA5.out⟩
  · rintro e a w5 hq
    obtain ⟨rfl, g, bm, rfl, hg, hrow5, ha5⟩ := hq.out
    have HG := Lib.hid hg; have HRow := Lib.hid hrow5; have HA5 := Lib.hid ha5
    clear hq hg hrow5 ha5 k0
    obtain ⟨k0, hk0⟩ : ∃ k0, w.heap.size = k0 := ⟨_, rfl⟩
    have HK0 := Lib.hid (show k0 = w.heap.size ∧ w1.heap.size = k0 + 1 from ⟨hk0.symm, by have := HB1.out; have := HSz.out; omega⟩)
    have HB := Lib.hid (hk0 ▸ HB1.out)
    have HO5 := Lib.hid ((hk0 ▸ HO3.out : OwnT w3 (k0 + 1) _ _).adds HA5.out)
    rw [hk0]
    clear hk0
    have HA15 := Lib.hid (Adds.trans HA3.out HA5.out)
    have HLen := Lib.hid (show P.length ≤ 4 from HOk.out.2.2)
    have HG5 := Lib.hid (show k0 + 1 ≤ g from by have h1 := HG.out; have h3 := HA3.out.size; have h4 := HK0.out; omega)
    simp only [Exit.then]
    go_wp2_with fail
    go_loopw [5, 23] (fun s i wr => ∃ k : Nat, i = .int .i64 k ∧ k ≤ P.length ∧ Hid (OwnT wr (k0 + 1) s (firstI ((op : Int), xa, xb, xc, xi) :: textsP (P.take k) ((op : Int), xa, xb, xc, xi))) ∧ Hid (Below (k0 + 1) w1 wr) ∧ Hid (RowP wr g (P.map fun p => (p.2 + 1, p.1)))) (fun _ i _ => P.length + 1 - (intOf i).toNat)
    case atStart => exact ⟨0, rfl, Nat.zero_le _, HO5, Lib.hid (HA15.out.mono (Nat.le_of_eq HK0.out.2.symm)), HRow⟩
    case round =>
      obtain ⟨k, rfl, hk, HOw, HBe, HRw⟩ := hrel
      have hkI : (k : Int) ≤ 4 := by have := HLen.out; omega
      have HHo2 := HHo.out
      have bx : BkS 25 wr k0 (insC ((op : Int), xa, xb, xc, xi)) := (HBe.out.block k0 (by omega)).trans HB.out
      have HBx := Lib.hid bx
      have hk0 := bx.lt
      have HAll := Lib.hid (show Adds w wr from Below.trans HA1.out (HBe.out.mono (by have := HK0.out; omega)))
      clear bx
      by_cases hlt : k < P.length
      · have hltI : (k : Int) < (P.length : Int) := by omega
        have hrow : ∀ q, q < 4 → wr.cell? ⟨g, k * 4 + q, none⟩ = (ptC ((P.getD k (0, 0)).2 + 1, (P.getD k (0, 0)).1))[q]? := fun q hq => by
          have h0 := HRw.out k (by simpa using hlt) q hq
          rw [ptN_get hlt] at h0
          exact h0
        have c0 := hrow 0 (by omega); have c1 := hrow 1 (by omega); have c2 := hrow 2 (by omega); have c3 := hrow 3 (by omega)
        have hgl := HRw.out.lt (by simp; omega)
        have HOp2 := Lib.hid (HOk.out.1.1 _ (mem_getD hlt))
        have hB1 : (P.getD k (0, 0)).2 = 1 → 0 ≤ getP 1 ((op : Int), xa, xb, xc, xi) ∧ getP 1 ((op : Int), xa, xb, xc, xi) ≤ 15 := fun h => by
          obtain ⟨j, hj, e⟩ := HOk.out.1.2 k hlt h
          have h2 := HHo2 j (by omega)
          rw [e] at h2
          exact show 0 ≤ xb ∧ xb ≤ 15 by simpa [holdsP, loN, hiN, getP] using h2
        obtain ⟨m, hm⟩ : ∃ m : Nat, getP (P.getD k (0, 0)).1 ((op : Int), xa, xb, xc, xi) = m := ⟨(getP (P.getD k (0, 0)).1 ((op : Int), xa, xb, xc, xi)).toNat, by have := (holdsP_get (HHo2 k hlt) (fun h => (hB1 h).1)).1; omega⟩
        have hmb : m ≤ 4294967295 := by have := (holdsP_get (HHo2 k hlt) (fun h => (hB1 h).1)).2; rw [hm] at this; omega
        have hTk := textsP_take (x := ((op : Int), xa, xb, xc, xi)) hlt
        have HGet := Lib.hid (fun W => get_any (P.getD k (0, 0)).1 HOp2.out.1 ((op : Int), xa, xb, xc, xi) HX.out.imm.1 HX.out.imm.2 W)
        have HIs := Lib.hid (fun W => is_any (P.getD k (0, 0)).2 HOp2.out.2 ((op : Int), xa, xb, xc, xi) (fun h => ⟨by have := (hB1 h).1; omega, by have := (hB1 h).2; omega⟩) W)
        unfold tokP at hTk
        rw [hm] at hTk HGet
        rw [show ((m : Nat) : Int).toNat = m by omega] at hTk
        have eg := enter_get (P.getD k (0, 0)).1 HOp2.out.1
        have ei := enter_is (P.getD k (0, 0)).2 HOp2.out.2
        have HLt := Lib.hid hlt
        simp only [ptC, List.getElem?_cons_zero, List.getElem?_cons_succ, Nat.add_zero, slotV] at c0 c1 c2 c3
        unfold fnV at c0 c2 c3
        have HGnf := Lib.hid (show ∀ (W : World) (v : Value), Adds wr W → OwnT W (k0 + 1) v (firstI ((op : Int), xa, xb, xc, xi) :: textsP (P.take k) ((op : Int), xa, xb, xc, xi)) → v.ownBlock ≠ some g from fun W v ha ho => by
          have h0 := (HRw.out.adds ha) 0 (by simp; omega) 0 (by omega)
          exact own_notT h0 (fun x => slot_noT _ x) ho)
        obtain ⟨z, hz⟩ : ∃ z, ((P.getD k (0, 0)).2 == 3) = z := ⟨_, rfl⟩
        rw [show (if (P.getD k (0, 0)).2 = 3 then ([] : List (List UInt8)) else [markN (P.getD k (0, 0)).2 ++ Lib.decDigits m]) = (if z then [] else [markN (P.getD k (0, 0)).2 ++ Lib.decDigits m]) by rw [← hz]; by_cases h3 : (P.getD k (0, 0)).2 = 3 <;> simp []] at hTk
        rw [hz] at HIs
        generalize isF (P.getD k (0, 0)).2 = fi at c0 HIs ei
        generalize getF (P.getD k (0, 0)).1 = fg at c2 HGet eg
        generalize putF (P.getD k (0, 0)).1 = fp at c3
        generalize widN (P.getD k (0, 0)).1 = wd at c1
        generalize loN (P.getD k (0, 0)).2 = lo at HIs
        generalize hiN (P.getD k (0, 0)).2 ((op : Int), xa, xb, xc, xi) = hi at HIs
        obtain ⟨mk, hmk⟩ : ∃ mk, markN (P.getD k (0, 0)).2 = mk := ⟨_, rfl⟩
        rw [hmk] at HIs hTk
        obtain ⟨pre, hpre⟩ : ∃ pre, firstI ((op : Int), xa, xb, xc, xi) :: textsP (P.take k) ((op : Int), xa, xb, xc, xi) = pre := ⟨_, rfl⟩
        have HSh := Lib.hid (show pre.length + 1 ≤ 1000000 by rw [← hpre, List.length_cons]; have := textsP_short (P.take k) ((op : Int), xa, xb, xc, xi); rw [List.length_take] at this; have := HLen.out; omega)
        have HTk := Lib.hid (show firstI ((op : Int), xa, xb, xc, xi) :: textsP (P.take (k + 1)) ((op : Int), xa, xb, xc, xi) = pre ++ (if z then [] else [mk ++ Lib.decDigits m]) by rw [hTk, ← hpre, List.cons_append])
        rw [hpre] at HOw HGnf
        have HGne := HGnf
        have HSz0 := Lib.hid (show k0 + 1 ≤ wr.heap.size from hk0)
        have HPl := Lib.hid (show 0 < (P.map fun p => ((p.2 + 1, p.1) : Pt)).length by rw [List.length_map]; have := HLt.out; omega)
        have HFmt := Lib.hid (fun W (h : Adds w W) => fmtI8 m (by omega) W (HV.out.adds h))
        clear hm hB1 hrow hlt hk HHo2 hTk hz hpre HGnf
        obtain ⟨ms, hms⟩ : ∃ ms, (⟨mk.toArray⟩ : ByteArray) = ms := ⟨_, rfl⟩
        obtain ⟨ds, hds⟩ : ∃ ds, str (Lib.decDigits m) = ds := ⟨_, rfl⟩
        obtain ⟨ts, hts⟩ : ∃ ts, ms ++ ds = ts := ⟨_, rfl⟩
        obtain ⟨tt, htt⟩ : ∃ tt, mk ++ Lib.decDigits m = tt := ⟨_, rfl⟩
        have HTs := Lib.hid (show ts = str tt by rw [← hts, ← hms, ← hds, ← htt]; rfl)
        have HIs := Lib.hid (show ∀ W, Calls Tryz.prog fi #[insV ((op : Int), xa, xb, xc, xi)] W fun e w' => e = .returned (.agg #[.int .i64 lo, .int .i64 hi, .string ms, .bool z]) ∧ Gr W w' from hms ▸ HIs.out)
        rw [hds] at HFmt
        rw [htt] at HTk
        have q1 : ¬ (9223372036854775807 < ms.size + ds.size) := by
          have h1 : ms.size ≤ 1 := by
            rw [← hms, ← hmk]
            show (str _).size ≤ 1
            rw [str_size8]; exact markN_short _
          have h2 : ds.size ≤ 10 := by rw [← hds, str_size8]; exact decD_short 9 m (by omega)
          omega
        clear hms hds htt hmk hmb
        have jj : ∀ o q v, wr.cell? ⟨k0, q, none⟩ = some v → (wr.alloc o).cell? ⟨k0, q, none⟩ = some v := fun o q v h => (Gr.new wr o).adds.cellAt h
        have j0 := fun o => jj o 0 _ (HBx.out.cell 0)
        have j1 := fun o => jj o 1 _ (HBx.out.cell 1)
        have j2 := fun o => jj o 2 _ (HBx.out.cell 2)
        have j3 := fun o => jj o 3 _ (HBx.out.cell 3)
        have j4 := fun o => jj o 4 _ (HBx.out.cell 4)
        have gz : (wr.alloc (.cells #[.func (.func fi) #[] #[], .int .i64 wd, .func (.func fg) #[] #[], .func (.func fp) #[] #[]] 83)).cell? ⟨wr.heap.size, 0, none⟩ = some (.func (.func fi) #[] #[]) := (BkS.new 83 wr [.func (.func fi) #[] #[], .int .i64 wd, .func (.func fg) #[] #[], .func (.func fp) #[] #[]]).cell 0
        clear jj
        go_wp2_with fail
        obtain ⟨sz, hsz⟩ : ∃ sz, wr.heap.size = sz := ⟨_, rfl⟩
        obtain ⟨wb, hwb⟩ : ∃ wb, wr.alloc (.cells #[.func (.func fi) #[] #[], .int .i64 wd, .func (.func fg) #[] #[], .func (.func fp) #[] #[]] 83) = wb := ⟨_, rfl⟩
        have HGb := Lib.hid (show Gr wr wb by rw [← hwb]; exact Gr.new _ _)
        have HPb := Lib.hid (show BkS 83 wb sz [.func (.func fi) #[] #[], .int .i64 wd, .func (.func fg) #[] #[], .func (.func fp) #[] #[]] by rw [← hwb, ← hsz]; exact BkS.new _ _ _)
        rw [hwb, hsz]
        clear hwb hsz c0 c1 c2 c3 j0 j1 j2 j3 j4 gz
        have HBb := Lib.hid (HBx.out.adds HGb.out.adds)
        cases z
        case true =>
          go_wp2_with (go_at_fn fi; refine (HIs.out _).mono ?_; rintro e w6 ⟨rfl, h5⟩; have H6 := Lib.hid (Adds.trans HGb.out.adds h5.adds); have nf : (w6.alloc (.cells #[.int .i64 lo, .int .i64 hi, .string ms, .bool true] 85)).cell? ⟨w6.heap.size, 3, none⟩ = some (.bool true) := (BkS.new 85 w6 [.int .i64 lo, .int .i64 hi, .string ms, .bool true]).cell 3; clear h5)
          go_roundw
          case rel =>
            have ha := Adds.trans H6.out (Gr.new w6 (.cells #[.int .i64 lo, .int .i64 hi, .string ms, .bool true] 85)).adds
            refine ⟨k + 1, rfl, HLt.out, Lib.hid ?_, Lib.hid (HBe.out.trans (ha.mono HSz0.out)), Lib.hid (HRw.out.adds ha)⟩
            rw [HTk.out]
            simpa using HOw.out.adds ha
          case measure => simp [intOf]; have := HLt.out; omega
        case false =>
          go_wp2_with (go_at_fn fi; refine (HIs.out _).mono ?_; rintro e w6 ⟨rfl, h5⟩; have H6 := Lib.hid (Adds.trans HGb.out.adds h5.adds); have H6b := Lib.hid h5.adds; have nf : (w6.alloc (.cells #[.int .i64 lo, .int .i64 hi, .string ms, .bool false] 85)).cell? ⟨w6.heap.size, 3, none⟩ = some (.bool false) := (BkS.new 85 w6 [.int .i64 lo, .int .i64 hi, .string ms, .bool false]).cell 3; clear h5)
          obtain ⟨bn, hbn⟩ : ∃ bn, w6.heap.size = bn := ⟨_, rfl⟩
          obtain ⟨wc, hwc⟩ : ∃ wc, w6.alloc (.cells #[.int .i64 lo, .int .i64 hi, .string ms, .bool false] 85) = wc := ⟨_, rfl⟩
          have HW0 := Lib.hid (show Adds wr wc by rw [← hwc]; exact Adds.trans H6.out (Gr.new _ _).adds)
          have HC0 := Lib.hid (Adds.trans HAll.out HW0.out)
          have HPc := Lib.hid (show BkS 83 wc sz [.func (.func fi) #[] #[], .int .i64 wd, .func (.func fg) #[] #[], .func (.func fp) #[] #[]] by rw [← hwc]; exact HPb.out.adds (Adds.trans H6b.out (Gr.new _ _).adds))
          have HNc := Lib.hid (show BkS 85 wc bn [.int .i64 lo, .int .i64 hi, .string ms, .bool false] by rw [← hwc, ← hbn]; exact BkS.new _ _ _)
          have HBc := Lib.hid (HBx.out.adds HW0.out)
          simp only [if_false, Bool.false_eq_true] at HTk
          rw [hwc, hbn]
          clear hwc hbn nf ei
          refine (wpIn_wide (n := 6)).1 ?_
          refine wpIn_region_inv (fun L b' w6 => ∃ (lb : Nat) (vp : Value), RegT8 wc (L 9) (L 10) lb vp ts (k0 + 1) pre tt u5 b' ({ tmps := #[insV (((op : Nat) : Int), xa, xb, xc, xi), Value.pointer (some { block := k0, off := 0 }), Value.string { data := #[] }, Value.int IntKind.i64 0, Value.int IntKind.i64 0, sel8 (L 11) (vp) (u5), undef, Value.pointer (some { block := sz, off := 0 }), Value.pointer (some { block := bn, off := 0 }), Value.agg #[Value.int IntKind.i64 ((op : Nat) : Int), Value.int IntKind.i64 xa, Value.int IntKind.i64 xb, Value.int IntKind.i64 xc, Value.int IntKind.u32 xi], Value.int IntKind.i64 0, Value.int IntKind.i64 0, Value.bool false, undef, Value.agg #[Value.int IntKind.i64 ((op : Nat) : Int), Value.int IntKind.i64 xa, Value.int IntKind.i64 xb, Value.int IntKind.i64 xc, Value.int IntKind.u32 xi], Value.string fs, Value.slice (some { block := lw, off := 0 }) 1 1, Value.map (some bm), Value.pointer (some { block := k0, off := 0 }), Value.int IntKind.i64 ((op : Nat) : Int), Value.agg #[v0, v1, v2, v3], Value.slice (some { block := g, off := 0 }) P.length 4, Value.int IntKind.i64 ((P.length : Nat) : Int), Value.int IntKind.i64 ((k : Nat) : Int), Value.bool true, Value.pointer (some { block := g, off := k * 4 }), Value.agg #[Value.func (Fn.func fi) #[] #[], Value.int IntKind.i64 wd, Value.func (Fn.func fg) #[] #[], Value.func (Fn.func fp) #[] #[]], Value.pointer (some { block := sz, off := 0 }), Value.func (Fn.func fi) #[] #[], Value.agg #[Value.int IntKind.i64 ((op : Nat) : Int), Value.int IntKind.i64 xa, Value.int IntKind.i64 xb, Value.int IntKind.i64 xc, Value.int IntKind.u32 xi], Value.agg #[Value.int IntKind.i64 lo, Value.int IntKind.i64 hi, Value.string ms, Value.bool false], Value.pointer (some { block := bn, off := 3 }), Value.bool false, Value.bool true, sel8 (L 0) (u5) (u34), sel8 (L 1) (Value.pointer (some { block := bn, off := 2 })) (u35), sel8 (L 2) (Value.string ms) (u36), sel8 (L 3) (Value.pointer (some { block := sz, off := 2 })) (u37), sel8 (L 4) (Value.func (Fn.func fg) #[] #[]) (u38), sel8 (L 5) (Value.agg #[Value.int IntKind.i64 ((op : Nat) : Int), Value.int IntKind.i64 xa, Value.int IntKind.i64 xb, Value.int IntKind.i64 xc, Value.int IntKind.u32 xi]) (u39), sel8 (L 6) (Value.int IntKind.i64 ((m : Nat) : Int)) (u40), sel8 (L 7) (Value.string ds) (u41), sel8 (L 8) (Value.string ts) (u42), sel8 (L 9) (Value.slice (some { block := lb, off := 0 }) 1 1) (u43), sel8 (L 10) (vp) (u44), u45, undef, undef], defers := [] }) w6) hmx (by kernel_rfl) ?inv0 ?step ?fin
          case inv0 => exact ⟨0, undef, rfl, fun _ => ⟨Adds.drew _, fun h => (by cases h)⟩, fun h => (by cases h)⟩
          case step =>
            rintro L b' w6 i o ho hL hC he ⟨lb, vp, rfl, hP⟩
            have q2 := hC 2 _ rfl
            have q4 := hC 4 _ rfl
            have q6 := hC 6 _ rfl
            have q7 := hC 7 _ rfl
            have q8 := hC 8 _ rfl
            have q9 := hC 9 _ rfl
            have q10 := hC 10 _ rfl
            have q11 := hC 11 _ rfl
            simp [Region.binds] at q2 q4 q6 q7 q8 q9 q10 q11
            clear hC
            have HP := Lib.hid hP
            have hF : L 10 = false → (w6.cell? ⟨sz, 2, none⟩ = some (.func (.func fg) #[] #[]) ∧ w6.cell? ⟨bn, 2, none⟩ = some (.string ms)) ∧ w6.cell? ⟨k0, 0, none⟩ = some (.int .i64 (op : Nat)) ∧ w6.cell? ⟨k0, 1, none⟩ = some (.int .i64 xa) ∧ w6.cell? ⟨k0, 2, none⟩ = some (.int .i64 xb) ∧ w6.cell? ⟨k0, 3, none⟩ = some (.int .i64 xc) ∧ w6.cell? ⟨k0, 4, none⟩ = some (.int .u32 xi) := fun h => by
              have ha := (hP.1 h).1
              exact ⟨⟨(HPc.out.adds ha).cell 2, (HNc.out.adds ha).cell 2⟩, (HBc.out.adds ha).cell 0, (HBc.out.adds ha).cell 1, (HBc.out.adds ha).cell 2, (HBc.out.adds ha).cell 3, (HBc.out.adds ha).cell 4⟩
            have z10a : i ≠ 11 → L 10 = false ∧ L 11 = false := fun hi => by
              have h0 : L 10 = false := by
                cases h : L 10 with
                | false => rfl
                | true => (have := q10 h; rcases i with _ | _ | _ | _ | _ | _ | _ | _ | _ | _ | _ | i <;> first | (exfalso; simp_all; done) | (exfalso; have := (List.getElem?_eq_some_iff.1 ho).1; simp at this; omega))
              exact ⟨h0, by cases h : L 11 with | false => rfl | true => (have := q11 h; simp_all)⟩
            clear hP
            rcases i with _ | _ | _ | _ | _ | _ | _ | _ | _ | _ | _ | _ | i
            · simp only [List.getElem?_cons_zero, Option.some.injEq] at ho
              subst ho
              try simp [Region.binds] at he
              obtain ⟨⟨g2, n2⟩, j0, j1, j2, j3, j4⟩ := hF (z10a (by omega)).1
              obtain ⟨z10, z11⟩ := z10a (by omega)
              clear hF z10a
              clear q2 q4 q6 q7 q8 q9 q10 q11
              try simp only []
              gi_wp2
              refine ⟨lb, vp, by simp [sel8, *], (by first | exact HP.out | simpa [he, z10] using HP.out)⟩
            · simp only [List.getElem?_cons_zero, List.getElem?_cons_succ, Option.some.injEq] at ho
              subst ho
              try simp [Region.binds] at he
              obtain ⟨⟨g2, n2⟩, j0, j1, j2, j3, j4⟩ := hF (z10a (by omega)).1
              obtain ⟨z10, z11⟩ := z10a (by omega)
              clear hF z10a
              clear q2 q4 q6 q7 q8 q9 q10 q11
              try simp only []
              gi_wp2
              refine ⟨lb, vp, by simp [sel8, *], (by first | exact HP.out | simpa [he, z10] using HP.out)⟩
            · simp only [List.getElem?_cons_zero, List.getElem?_cons_succ, Option.some.injEq] at ho
              subst ho
              try simp [Region.binds] at he
              obtain ⟨⟨g2, n2⟩, j0, j1, j2, j3, j4⟩ := hF (z10a (by omega)).1
              obtain ⟨z10, z11⟩ := z10a (by omega)
              clear hF z10a
              clear q2 q4 q6 q7 q8 q9 q10 q11
              try simp only [he, sel8_t]
              gi_wp2
              refine ⟨lb, vp, by simp [sel8, *], (by first | exact HP.out | simpa [he, z10] using HP.out)⟩
            · simp only [List.getElem?_cons_zero, List.getElem?_cons_succ, Option.some.injEq] at ho
              subst ho
              try simp [Region.binds] at he
              obtain ⟨⟨g2, n2⟩, j0, j1, j2, j3, j4⟩ := hF (z10a (by omega)).1
              obtain ⟨z10, z11⟩ := z10a (by omega)
              clear hF z10a
              clear q2 q4 q6 q7 q8 q9 q10 q11
              try simp only []
              gi_wp2
              refine ⟨lb, vp, by simp [sel8, *], (by first | exact HP.out | simpa [he, z10] using HP.out)⟩
            · simp only [List.getElem?_cons_zero, List.getElem?_cons_succ, Option.some.injEq] at ho
              subst ho
              try simp [Region.binds] at he
              obtain ⟨⟨g2, n2⟩, j0, j1, j2, j3, j4⟩ := hF (z10a (by omega)).1
              obtain ⟨z10, z11⟩ := z10a (by omega)
              clear hF z10a
              clear q2 q4 q6 q7 q8 q9 q10 q11
              try simp only [he, sel8_t]
              gi_wp2
              refine ⟨lb, vp, by simp [sel8, *], (by first | exact HP.out | simpa [he, z10] using HP.out)⟩
            · simp only [List.getElem?_cons_zero, List.getElem?_cons_succ, Option.some.injEq] at ho
              subst ho
              try simp [Region.binds] at he
              obtain ⟨⟨g2, n2⟩, j0, j1, j2, j3, j4⟩ := hF (z10a (by omega)).1
              obtain ⟨z10, z11⟩ := z10a (by omega)
              clear hF z10a
              clear q2 q4 q6 q7 q8 q9 q10 q11
              try simp only []
              gi_wp2
              refine ⟨lb, vp, by simp [sel8, *], (by first | exact HP.out | simpa [he, z10] using HP.out)⟩
            · simp only [List.getElem?_cons_zero, List.getElem?_cons_succ, Option.some.injEq] at ho
              subst ho
              try simp [Region.binds] at he
              obtain ⟨⟨g2, n2⟩, j0, j1, j2, j3, j4⟩ := hF (z10a (by omega)).1
              obtain ⟨z10, z11⟩ := z10a (by omega)
              clear hF z10a
              have z9 : L 9 = false := by cases h : L 9 with | false => rfl | true => (have := q9 h; simp_all)
              clear q2 q4 q6 q7 q8 q9 q10 q11
              rw [z9, z10] at HP
              simp only [he, sel8_t]
              gi_wp2_with (refine ⟨trivial, ?_⟩; gi_at_fn fg; refine (callsIn_wide.2 (HGet.out w6)).mono ?_; rintro e w7 ⟨rfl, hA7⟩; have HA7 := Lib.hid hA7.adds; clear hA7)
              refine ⟨lb, vp, by simp [sel8, *], by first | exact HP.out.add HA7.out | (simp only [z9, z10]; exact HP.out.add HA7.out) | simpa [z9, z10] using HP.out.add HA7.out⟩
            · simp only [List.getElem?_cons_zero, List.getElem?_cons_succ, Option.some.injEq] at ho
              subst ho
              try simp [Region.binds] at he
              obtain ⟨⟨g2, n2⟩, j0, j1, j2, j3, j4⟩ := hF (z10a (by omega)).1
              obtain ⟨z10, z11⟩ := z10a (by omega)
              clear hF z10a
              have z9 : L 9 = false := by cases h : L 9 with | false => rfl | true => (have := q9 h; simp_all)
              clear q2 q4 q6 q7 q8 q9 q10 q11
              rw [z9, z10] at HP
              simp only [he, sel8_t]
              gi_wp2_with (refine ⟨trivial, ?_⟩; gi_at_call 35; refine (callsIn_wide.2 (HFmt.out w6 (Adds.trans HC0.out (HP.out.1 rfl).1))).mono ?_; rintro e w7 ⟨rfl, hA7⟩; have HA7 := Lib.hid hA7.adds; clear hA7)
              refine ⟨lb, vp, by simp [sel8, *], by first | exact HP.out.add HA7.out | (simp only [z9, z10]; exact HP.out.add HA7.out) | simpa [z9, z10] using HP.out.add HA7.out⟩
            · simp only [List.getElem?_cons_zero, List.getElem?_cons_succ, Option.some.injEq] at ho
              subst ho
              try simp [Region.binds] at he
              obtain ⟨⟨g2, n2⟩, j0, j1, j2, j3, j4⟩ := hF (z10a (by omega)).1
              obtain ⟨z10, z11⟩ := z10a (by omega)
              clear hF z10a
              clear q2 q4 q6 q7 q8 q9 q10 q11
              try simp only [he, sel8_t]
              gi_wp2
              refine ⟨lb, vp, by simp [sel8, *], (by first | exact HP.out | simpa [he, z10] using HP.out)⟩
            · simp only [List.getElem?_cons_zero, List.getElem?_cons_succ, Option.some.injEq] at ho
              subst ho
              try simp [Region.binds] at he
              obtain ⟨⟨g2, n2⟩, j0, j1, j2, j3, j4⟩ := hF (z10a (by omega)).1
              obtain ⟨z10, z11⟩ := z10a (by omega)
              clear hF z10a
              clear q2 q4 q6 q7 q8 q9 q10 q11
              rw [z10] at HP
              simp only [he, sel8_t]
              gi_wp2
              refine ⟨w6.heap.size, vp, by simp [sel8, *], by first | exact HP.out.lit | (simp only [z10]; exact HP.out.lit) | simpa [z10] using HP.out.lit⟩
            · simp only [List.getElem?_cons_zero, List.getElem?_cons_succ, Option.some.injEq] at ho
              subst ho
              try simp [Region.binds] at he
              obtain ⟨⟨g2, n2⟩, j0, j1, j2, j3, j4⟩ := hF (z10a (by omega)).1
              obtain ⟨z10, z11⟩ := z10a (by omega)
              clear hF z10a
              clear z10
              clear q2 q4 q6 q7 q8 q9 q10 q11
              have he9 : L 9 = true := by simp [he]
              have hP := HP.out.1 hL
              simp only [he, hL, sel8_t]
              refine wpIn_append_t rfl (.tmp 34) (.tmp 43) rfl (k0 + 1) u5 pre rfl (HOw.out.adds (Adds.trans HW0.out hP.1)) lb tt rfl (by rw [← HTs.out]; exact hP.2 he9) HSh.out (by have := hP.1.size; have := HW0.out.size; have := HSz0.out; omega) ?_
              intro v8 w8 o8 g8
              have hR := HP.out.app (t := tt) hL o8 g8
              refine ⟨lb, v8, (by simp [sel8, *]; rfl), (by first | exact hR | simpa [he9] using hR)⟩
            · simp only [List.getElem?_cons_zero, List.getElem?_cons_succ, Option.some.injEq] at ho
              subst ho
              try simp [Region.binds] at he
              clear hF z10a
              clear q2 q4 q6 q7 q8 q9 q10 q11
              try simp only [he, sel8_t]
              gi_wp2
              refine ⟨lb, vp, by simp [sel8, *], (by first | exact HP.out | simpa [he] using HP.out)⟩
            · simp at ho
          case fin =>
            rintro b' w7 ⟨lb, vp, rfl, _, hB⟩
            simp only [List.length_cons, List.length_nil, Nat.reduceAdd, Nat.reduceLT, decide_true, sel8_t] at hB ⊢
            obtain ⟨hO8, wx, hX, hG⟩ := hB trivial
            have O8 := Lib.hid hO8; have HX := Lib.hid hX; have G8 := Lib.hid hG
            clear hB hO8 hX hG
            go_wp2_with fail
            go_roundw
            case rel =>
              refine ⟨k + 1, rfl, HLt.out, Lib.hid (by rw [HTk.out]; exact O8.out), Lib.hid ?_, Lib.hid ?_⟩
              · exact Below.grown (HBe.out.trans ((Adds.trans HW0.out HX.out).mono (by have := HSz0.out; omega))) G8.out (by have := (Adds.trans HW0.out HX.out).size; have := HSz0.out; omega) fun q e => (World.ownsRow.lt (HOw.out.adds (Adds.trans HW0.out HX.out)) q e).1
              · exact (HRw.out.adds (Adds.trans HW0.out HX.out)).same (G8.out.block g (HRw.out.adds (Adds.trans HW0.out HX.out) |>.lt HPl.out) (fun e => HGne.out wx u5 (Adds.trans HW0.out HX.out) (HOw.out.adds (Adds.trans HW0.out HX.out)) e.symm))
            case measure => simp [intOf]; have := HLt.out; omega
      · obtain rfl : k = P.length := by omega
        have HOx := Lib.hid (show OwnT wr (k0 + 1) u5 (wordsI ((op : Int), xa, xb, xc, xi)) by have h := HOw.out; rw [List.take_length] at h; rw [HBy.out]; exact h)
        have HTn := Lib.hid (show (wordsI ((op : Int), xa, xb, xc, xi)).length ≤ 1000 ∧ 0 < (wordsI ((op : Int), xa, xb, xc, xi)).length by rw [HBy.out, List.length_cons]; have := textsP_short P ((op : Int), xa, xb, xc, xi); have := HLen.out; omega)
        obtain ⟨q, c, rfl, hq1, hq2, hq3⟩ := HOx.out.cells HTn.out.2
        have HJ := Lib.hid (join8 q c (wordsI ((op : Int), xa, xb, xc, xi)) wr hq3 hq1 HTn.out.1 hq2 HTl.out)
        clear hq1 hq2 hq3 HOw HOx
        obtain ⟨jt, hjt⟩ : ∃ jt, textI ((op : Int), xa, xb, xc, xi) = jt := ⟨_, rfl⟩
        rw [show joinI (wordsI ((op : Int), xa, xb, xc, xi)) = jt from hjt] at HJ
        have HJt := Lib.hid hjt
        clear hjt
        generalize (wordsI ((op : Int), xa, xb, xc, xi)).length = jn at HJ
        go_wp2_with (go_at_call 36; refine HJ.out.mono ?_; rintro e w9 ⟨rfl, q⟩; have HA9 := Lib.hid q; clear q)
        go_ret2
        exact ⟨by rw [HJt.out]; rfl, Adds.trans HAll.out HA9.out⟩
end Go.Proofs.YtkodjmdghjcndaaGreatDoor
