/- Merged: IR4. -/
import Derived.Test.YthhegcngkpfcoaaGreatDoorF18
namespace Go.Proofs.YthhegcngkpfcoaaGreatDoor
open Go Go.RowKit Go.Shelf Go.Lib

theorem wf_u8 (m : Nat) (h : m < 4294967296) : (Lit.int .i64 (m : Int)).wf = true := by
  have h1 : IntKind.i64.min = -9223372036854775808 := by decide
  have h2 : IntKind.i64.max = 9223372036854775807 := by decide
  simp [Lit.wf, h1, h2]
  omega
/-- The numbers of the parts, one behind the other: the instruction, and how many bytes were taken; none, if they end. -/
def readPl : List (Nat × Nat) → List UInt8 → Nat → In → Option (In × Nat)
  | [], _, k, x => some (x, k)
  | p :: t, l, k, x => if (l.drop k).length < (widN p.1).toNat then none else readPl t l (k + (widN p.1).toNat) (putP p.1 x ((rfN (l.drop k) (widN p.1) : Nat) : Int))
/-- What is read behind the Op m. -/
def readM (m : Nat) (l : List UInt8) (k : Nat) : (In × Nat) ⊕ Int :=
  if 1 ≤ m ∧ m ≤ 19 then
    match readPl (partsN m) l (k + 1) (((m : Nat) : Int), 0, 0, 0, 0) with
    | none => .inr 110
    | some (x, j) => if holdsL (partsN m) x then .inl (x, j) else .inr 180
  else .inr 180
/-- What is read: an instruction and how many bytes were taken, or an error. -/
def readR (l : List UInt8) (k : Nat) : (In × Nat) ⊕ Int := if (l.drop k).length < 1 then .inr 110 else readM (rfN (l.drop k) 1) l k
theorem readPl_at {P : List (Nat × Nat)} {l : List UInt8} {j k : Nat} {x : In} (h : j < P.length) : readPl (P.drop j) l k x =
    if (l.drop k).length < (widN (P.getD j (0, 0)).1).toNat then none else readPl (P.drop (j + 1)) l (k + (widN (P.getD j (0, 0)).1).toNat) (putP (P.getD j (0, 0)).1 x ((rfN (l.drop k) (widN (P.getD j (0, 0)).1) : Nat) : Int)) := by
  rw [List.drop_eq_getElem_cons h]
  simp [readPl, List.getD_eq_getElem?_getD, h]
theorem widN_is (k : Nat) : widN k = 1 ∨ widN k = 4 := by unfold widN; split <;> simp
theorem put_imm (k : Nat) (x : In) (m : Nat) (hm : m < 4294967296) (hx : 0 ≤ x.2.2.2.2 ∧ x.2.2.2.2 < 4294967296) :
    putP k x (if k = 3 then (m : Int) % 4294967296 else m) = putP k x m ∧ 0 ≤ (putP k x m).2.2.2.2 ∧ (putP k x m).2.2.2.2 < 4294967296 := by
  have e : (m : Int) % 4294967296 = m := by omega
  refine ⟨by split <;> simp [e], ?_⟩
  unfold putP
  split <;> first | exact hx | (simp only; omega)
theorem TnS.below8 {b n : Nat} {v w : World} (h : TnS b v w) (hb : n ≤ b) (hn : n ≤ v.heap.size) : Below n v w := ⟨h.os, h.tape, h.output, h.size, fun i hi => h.block i (by omega) (fun e => by cases e; omega)⟩
theorem Widths.low {n : Nat} {w w' : World} (h : Widths w) (hb : Below n w w') (hg : 1 < n) : Widths w' :=
  ⟨(hb.cell (p := ⟨1, 0, none⟩) hg).trans h.c0, (hb.cell (p := ⟨1, 1, none⟩) hg).trans h.c1, (hb.cell (p := ⟨1, 2, none⟩) hg).trans h.c2, (hb.cell (p := ⟨1, 3, none⟩) hg).trans h.c3⟩
def RdInPost (r : (In × Nat) ⊕ Int) (br : Nat) (v : Value) (w : World) (e : Ending) (w' : World) : Prop :=
  TnS br w w' ∧ match r with
    | .inl (x, j) => e = .returned (insV x) ∧ BkS 186 w' br (rdC v j)
    | .inr er => e = .panicked [{ v := .iface 187 (.int .i64 er), recovered := false }]
/-- How reading stands: the reader, what was read, the shape and its parts. -/
structure RdSt (br n2 n3 n4 g : Nat) (v : Value) (sv : List Value) (ps : List Pt) (w : World) (kk : Nat) (x : In) (wr : World) : Prop where
  rd : BkS 186 wr br (rdC v kk)
  ins : BkS 59 wr n3 (insC x)
  res : BkS 59 wr n2 (insC (0, 0, 0, 0, 0))
  shp : BkS 143 wr n4 sv
  row : RowP wr g ps
  tn : TnS br w wr
  dis : br < n2 ∧ n2 = w.heap.size ∧ n2 < n3 ∧ n3 < n4 ∧ n4 < g
theorem RdSt.adds {br n2 n3 n4 g : Nat} {v : Value} {sv : List Value} {ps : List Pt} {w : World} {kk : Nat} {x : In} {wr w' : World} (h : RdSt br n2 n3 n4 g v sv ps w kk x wr) (ha : Adds wr w') : RdSt br n2 n3 n4 g v sv ps w kk x w' :=
  ⟨h.rd.adds ha, h.ins.adds ha, h.res.adds ha, h.shp.adds ha, h.row.adds ha, h.tn.trans (TnS.of_adds br ha), h.dis⟩
theorem BkS.tn {t : TypeId} {b c : Nat} {l : List Value} {w w' : World} (h : BkS t w c l) (ht : TnS b w w') (hb : c ≠ b) : BkS t w' c l := (ht.block c h.lt (fun e => hb (by cases e; rfl))).trans h
theorem RowP.tn {b g : Nat} {ps : List Pt} {w w' : World} (h : RowP w g ps) (ht : TnS b w w') (hb : g ≠ b) : RowP w' g ps := fun i hi => (h.same (ht.block g (h.lt (by omega)) (fun e => hb (by cases e; rfl)))) i hi
theorem RdSt.read {br n2 n3 n4 g : Nat} {v : Value} {sv : List Value} {ps : List Pt} {w : World} {kk k2 : Nat} {x : In} {wr w' : World} (h : RdSt br n2 n3 n4 g v sv ps w kk x wr) (ht : TnS br wr w') (hr : BkS 186 w' br (rdC v k2)) : RdSt br n2 n3 n4 g v sv ps w k2 x w' := by
  obtain ⟨d1, d2, d3, d4, d5⟩ := h.dis
  exact ⟨hr, h.ins.tn ht (by omega), h.res.tn ht (by omega), h.shp.tn ht (by omega), h.row.tn ht (by omega), h.tn.trans ht, h.dis⟩
theorem RdSt.put {br n2 n3 n4 g : Nat} {v : Value} {sv : List Value} {ps : List Pt} {w : World} {kk : Nat} {x y : In} {wr w' : World} (h : RdSt br n2 n3 n4 g v sv ps w kk x wr) (ht : TnS n3 wr w') (hr : BkS 59 w' n3 (insC y)) : RdSt br n2 n3 n4 g v sv ps w kk y w' := by
  obtain ⟨d1, d2, d3, d4, d5⟩ := h.dis
  exact ⟨h.rd.tn ht (by omega), hr, h.res.tn ht (by omega), h.shp.tn ht (by omega), h.row.tn ht (by omega), h.tn.mine (by omega) ht, h.dis⟩
set_option maxRecDepth 100000 in
set_option maxHeartbeats 8000000 in
theorem bytesR8 {n : Nat} (br : Nat) (hbn : n ≤ br) (hgn : 1 < n) (v : Value) (l : List UInt8) (k : Nat) (hk : k ≤ l.length) (w : World) (hn : n ≤ w.heap.size) (hv : Bytes n w v l) (hw : Widths w) (hr : BkS 186 w br (rdC v k)) :
    Calls Tryz.prog 130 #[.pointer (some ⟨br, 0, none⟩)] w (RdInPost (readR l k) br v w) := by
  have hmx : Tryz.prog.follows .mixedOrders = true := by kernel_rfl
  obtain ⟨ao, cap, rfl, hv1, hv2, _⟩ := id hv
  clear hv1 hv2
  obtain ⟨w1, hw1⟩ : ∃ w1, w.alloc (.cells #[.int .i64 0, .int .i64 0, .int .i64 0, .int .i64 0, .int .u32 0] 59) = w1 := ⟨_, rfl⟩
  have HA1 := Lib.hid (show Adds w w1 by rw [← hw1]; exact (Gr.new _ _).adds)
  have HB2 := Lib.hid (show BkS 59 w1 w.heap.size (insC (0, 0, 0, 0, 0)) by rw [← hw1]; exact BkS.new _ _ _)
  have HSz := Lib.hid (show w1.heap.size = w.heap.size + 1 by rw [← hw1]; simp)
  have HO := Lib.hid (readO8 br (.slice ao l.length cap) l k hk w1 (Nat.le_trans hn HA1.out.size) (hv.below (HA1.out.mono hn)) (hw.adds HA1.out) (hr.adds HA1.out))
  have HV := Lib.hid (And.intro hv hw)
  have HRd := Lib.hid hr
  have HN := Lib.hid (And.intro hbn (And.intro hgn hn))
  have HKl := Lib.hid hk
  unfold readR
  by_cases h0 : (l.drop k).length < 1
  · rw [if_pos h0]
    have HO1 := Lib.hid (show Calls Tryz.prog 136 #[.pointer (some ⟨br, 0, none⟩), .func (.func 137) #[] #[]] w1 fun e w' => e = .panicked [{ v := .iface 187 (.int .i64 110), recovered := false }] ∧ Adds w1 w' from HO.out.mono fun e w' h => by
      rw [decide_eq_false (by omega)] at h
      simpa [RdPost8] using h)
    clear HO h0 hk hv hw hr hbn hgn hn
    go_enter Tryz.func130, Tryz.ntmps130
    go_wp2_with (go_at_call 136; refine HO1.out.mono ?_; rintro e w2 ⟨rfl, q⟩; have HA2 := Lib.hid q; clear q)
    exact ⟨rfl, TnS.of_adds br (Adds.trans HA1.out HA2.out), rfl⟩
  · rw [if_neg h0]
    have HO1 := Lib.hid (show Calls Tryz.prog 136 #[.pointer (some ⟨br, 0, none⟩), .func (.func 137) #[] #[]] w1 fun e w' => e = .returned (insV ((rfN (l.drop k) 1 : Nat), 0, 0, 0, 0)) ∧ BkS 186 w' br (rdC (.slice ao l.length cap) (k + 1)) ∧ TnS br w1 w' from HO.out.mono fun e w' h => by
      rw [decide_eq_true (by omega)] at h
      simpa [RdPost8] using h)
    have HK1 := Lib.hid (show k + 1 ≤ l.length by rw [List.length_drop] at h0; omega)
    obtain ⟨m, hm⟩ : ∃ m, rfN (l.drop k) 1 = m := ⟨_, rfl⟩
    rw [hm] at HO1 ⊢
    have hmb : m < 4294967296 := by rw [← hm]; exact rfN_lt _ (.inl rfl)
    have HMb := Lib.hid hmb
    clear HO h0 hk hv hw hr hbn hgn hn hm hmb
    obtain ⟨r, hr⟩ : ∃ r, readM m l k = r := ⟨_, rfl⟩
    rw [hr]
    unfold readM at hr
    have HR := Lib.hid hr
    clear hr
    obtain ⟨s, ok, hs1, hs2⟩ : ∃ (s : Sh) (ok : Bool), (ok = true ↔ 1 ≤ m ∧ m ≤ 19) ∧ (∀ W bm, MapS W bm 19 → (Instr.lookup 144 (.map (some bm)) (.int .i64 (m : Int)) true).run Tryz.prog W = .ok (.tuple #[shapeV s, .bool ok]) W) ∧ (ok = true → s = shOf m) := by
      by_cases h : 1 ≤ m ∧ m ≤ 19
      · exact ⟨shOf m, true, by simp [h], fun W bm hM => look_op m h.1 h.2 bm W hM, fun _ => rfl⟩
      · exact ⟨(0, 0, 0, 0), false, by simp [h], fun W bm hM => look_no m (wf_u8 m HMb.out) (by omega) bm W hM, fun h => by cases h⟩
    have HS2 := Lib.hid (And.intro hs1 hs2)
    obtain ⟨hlk, hsm⟩ := hs2
    unfold shapeV at hlk
    have HLk := Lib.hid hlk
    have HSm := Lib.hid hsm
    have HOk := Lib.hid hs1
    have hst0 : ∀ (a : Addr) (m : Mode) (w : World), (store a (slotV s.1) m).run Tryz.prog w = stored Tryz.prog w a (slotV s.1) m := fun a m w => run_store _ w a _ m (slot_one _)
    have hst1 : ∀ (a : Addr) (m : Mode) (w : World), (store a (slotV s.2.1) m).run Tryz.prog w = stored Tryz.prog w a (slotV s.2.1) m := fun a m w => run_store _ w a _ m (slot_one _)
    have hst2 : ∀ (a : Addr) (m : Mode) (w : World), (store a (slotV s.2.2.1) m).run Tryz.prog w = stored Tryz.prog w a (slotV s.2.2.1) m := fun a m w => run_store _ w a _ m (slot_one _)
    have hst3 : ∀ (a : Addr) (m : Mode) (w : World), (store a (slotV s.2.2.2) m).run Tryz.prog w = stored Tryz.prog w a (slotV s.2.2.2) m := fun a m w => run_store _ w a _ m (slot_one _)
    have HPa := Lib.hid (show ok = true → (∀ W, Calls Tryz.prog 87 #[.agg #[slotV s.1, slotV s.2.1, slotV s.2.2.1, slotV s.2.2.2]] W fun e w' => ∃ g, e = .returned (.slice (some ⟨g, 0, none⟩) (partsN m).length 4) ∧ W.heap.size ≤ g ∧ RowP w' g ((partsN m).map fun p => (p.2 + 1, p.1)) ∧ Adds W w') ∧
        (∀ x W, (0 ≤ x.2.2.2.2 ∧ x.2.2.2.2 < 4294967296) → Calls Tryz.prog 131 #[.agg #[slotV s.1, slotV s.2.1, slotV s.2.2.1, slotV s.2.2.2], insV x] W fun e w' => e = .returned (.bool (holdsL (partsN m) x)) ∧ Adds W w') from fun h => by
      have h2 := HOk.out.1 h
      have e := HSm.out h
      subst e
      refine ⟨fun W => ?_, fun x W hx => shapeHolds8 m h2.1 h2.2 x hx W⟩
      have := parts_op m h2.1 h2.2 W
      rw [show PartsPost (shOf m) = fun w e w' => ∃ g, e = .returned (.slice (some ⟨g, 0, none⟩) (partsOf (shOf m)).length 4) ∧ w.heap.size ≤ g ∧ RowP w' g (partsOf (shOf m)) ∧ Adds w w' from rfl, partsOf_op m h2.1 h2.2] at this
      unfold ptN at this
      simp only [List.length_map] at this
      exact this)
    clear hs1 hlk hsm HS2 HSm
    generalize slotV s.1 = v0 at HLk HPa hst0
    generalize slotV s.2.1 = v1 at HLk HPa hst1
    generalize slotV s.2.2.1 = v2 at HLk HPa hst2
    generalize slotV s.2.2.2 = v3 at HLk HPa hst3
    go_enter Tryz.func130, Tryz.ntmps130
    go_wp2_with (go_at_call 136; refine HO1.out.mono ?_; rintro e w2 ⟨rfl, q1, q2⟩; have HQ2 := Lib.hid (And.intro q1 q2); clear q1 q2)
    obtain ⟨w3, hw3⟩ : ∃ w3, w2.alloc (.cells (insC ((m : Nat), 0, 0, 0, 0)).toArray 59) = w3 := ⟨_, rfl⟩
    have HA3 := Lib.hid (show Adds w2 w3 by rw [← hw3]; exact (Gr.new _ _).adds)
    have HB3 := Lib.hid (show BkS 59 w3 w2.heap.size (insC ((m : Nat), 0, 0, 0, 0)) by rw [← hw3]; exact BkS.new _ _ _)
    obtain ⟨n2, hn2⟩ : ∃ n, w.heap.size = n := ⟨_, rfl⟩
    obtain ⟨n3, hn3⟩ : ∃ n, w2.heap.size = n := ⟨_, rfl⟩
    have HNs := Lib.hid (show br < n2 ∧ n2 = w.heap.size ∧ n2 < n3 ∧ n3 < w3.heap.size from ⟨by have := HRd.out.lt; omega, hn2.symm, by have h1 := HSz.out; have h2 := HQ2.out.2.size; omega, by have := HB3.out.lt; omega⟩)
    rw [hw3]
    rw [hn3] at HB3 ⊢
    rw [hn2] at HB2 ⊢
    clear hw3 hn2 hn3
    have HB23 := Lib.hid ((HB2.out.tn HQ2.out.2 (by have := HNs.out; omega)).adds HA3.out)
    have HRd3 := Lib.hid (HQ2.out.1.adds HA3.out)
    have HT3 := Lib.hid ((TnS.of_adds br HA1.out).trans (HQ2.out.2.trans (TnS.of_adds br HA3.out)))
    refine (wpIn_wide (n := 6)).1 ?_
    refine wpIn_region_inv (fun L b' w2 => ∃ (bm : Nat) (s4 : Value), RegL8 w3 (L 0) (L 7) (L 8) bm [v0, v1, v2, v3] s4 b' ({ tmps := #[Value.pointer (some { block := br, off := 0 }), undef, Value.pointer (some { block := n2, off := 0 }), Value.pointer (some { block := n3, off := 0 }), sel8 (L 7) (s4) (undef), sel8 (L 9) (Value.bool ok) (undef), undef, undef, Value.pointer (some { block := br, off := 0 }), insV (((m : Nat) : Int), 0, 0, 0, 0), sel8 (L 4) (Value.tuple #[Value.agg #[v0, v1, v2, v3], Value.bool ok]) (undef), sel8 (L 0) (Value.map (some bm)) (undef), sel8 (L 1) (Value.pointer (some { block := n3, off := 0 })) (undef), sel8 (L 2) (Value.int IntKind.i64 ((m : Nat) : Int)) (undef), sel8 (L 3) (Value.tuple #[Value.agg #[v0, v1, v2, v3], Value.bool ok]) (undef), sel8 (L 5) (Value.agg #[v0, v1, v2, v3]) (undef), sel8 (L 6) (Value.bool ok) (undef), undef, undef, undef, undef, undef, undef, undef, undef, undef, undef, undef, undef, undef, undef, undef, undef, undef, undef, undef, undef, undef, undef, undef], defers := [] }) w2) hmx (by kernel_rfl) ?inv0 ?step ?fin
    case inv0 => exact ⟨0, undef, rfl, Adds.drew _, fun h => (by cases h), fun h => (by cases h)⟩
    case step =>
      rintro L b' w2 i o ho hL hC he ⟨bm, s4, rfl, hP⟩
      have q8 := hC 8 _ rfl
      simp [Region.binds] at q8
      have HP := Lib.hid hP
      have k1 := HB3.out.adds hP.1
      have i0 : w2.cell? ⟨n3, 0, none⟩ = some (.int .i64 (m : Int)) := k1.cell 0
      clear hC hP k1
      rcases i with _ | _ | _ | _ | _ | _ | _ | _ | _ | _ | i
      · simp only [List.getElem?_cons_zero, Option.some.injEq] at ho
        subst ho
        try simp [Region.binds] at he
        clear q8
        gi_wp2_with (refine ⟨trivial, ?_⟩; gi_at_call 86; refine (callsIn_wide.2 (shapes_any w2)).mono ?_; rintro e w3 ⟨b9, rfl, _, hm, hA3⟩; have HA3 := Lib.hid hA3; have HM3 := Lib.hid hm; clear hA3 hm)
        refine ⟨b9, s4, by simp [sel8, *], Adds.trans HP.out.1 HA3.out, fun _ => HM3.out, fun h => ?_⟩
        obtain ⟨B, e1, e2, e3⟩ := HP.out.2.2 (by first | exact h | (simp [he]; done) | simpa [he] using h)
        exact ⟨B, e1, e2, by first | exact e3.adds HA3.out | simpa [he] using e3.adds HA3.out⟩
      · simp only [List.getElem?_cons_zero, List.getElem?_cons_succ, Option.some.injEq] at ho
        subst ho
        try simp [Region.binds] at he
        clear q8
        try simp only []
        gi_wp2
        refine ⟨bm, s4, by simp [sel8, *], HP.out.1, (by first | exact HP.out.2.1 | simpa [he] using HP.out.2.1), (by first | exact HP.out.2.2 | simpa [he] using HP.out.2.2)⟩
      · simp only [List.getElem?_cons_zero, List.getElem?_cons_succ, Option.some.injEq] at ho
        subst ho
        try simp [Region.binds] at he
        clear q8
        try simp only [he, sel8_t]
        gi_wp2
        refine ⟨bm, s4, by simp [sel8, *], HP.out.1, (by first | exact HP.out.2.1 | simpa [he] using HP.out.2.1), (by first | exact HP.out.2.2 | simpa [he] using HP.out.2.2)⟩
      · simp only [List.getElem?_cons_zero, List.getElem?_cons_succ, Option.some.injEq] at ho
        subst ho
        try simp [Region.binds] at he
        clear q8
        have p0 : L 0 = true := by simp [he]
        have hlk := HLk.out w2 bm (HP.out.2.1 p0)
        try simp only [he, sel8_t]
        gi_wp2
        refine ⟨bm, s4, by simp [sel8, *], HP.out.1, (by first | exact HP.out.2.1 | simpa [he] using HP.out.2.1), (by first | exact HP.out.2.2 | simpa [he] using HP.out.2.2)⟩
      · simp only [List.getElem?_cons_zero, List.getElem?_cons_succ, Option.some.injEq] at ho
        subst ho
        try simp [Region.binds] at he
        clear q8
        try simp only [he, sel8_t]
        gi_wp2
        refine ⟨bm, s4, by simp [sel8, *], HP.out.1, (by first | exact HP.out.2.1 | simpa [he] using HP.out.2.1), (by first | exact HP.out.2.2 | simpa [he] using HP.out.2.2)⟩
      · simp only [List.getElem?_cons_zero, List.getElem?_cons_succ, Option.some.injEq] at ho
        subst ho
        try simp [Region.binds] at he
        clear q8
        try simp only [he, sel8_t]
        gi_wp2
        refine ⟨bm, s4, by simp [sel8, *], HP.out.1, (by first | exact HP.out.2.1 | simpa [he] using HP.out.2.1), (by first | exact HP.out.2.2 | simpa [he] using HP.out.2.2)⟩
      · simp only [List.getElem?_cons_zero, List.getElem?_cons_succ, Option.some.injEq] at ho
        subst ho
        try simp [Region.binds] at he
        clear q8
        try simp only [he, sel8_t]
        gi_wp2
        refine ⟨bm, s4, by simp [sel8, *], HP.out.1, (by first | exact HP.out.2.1 | simpa [he] using HP.out.2.1), (by first | exact HP.out.2.2 | simpa [he] using HP.out.2.2)⟩
      · simp only [List.getElem?_cons_zero, List.getElem?_cons_succ, Option.some.injEq] at ho
        subst ho
        try simp [Region.binds] at he
        have z8 : L 8 = false := by cases h : L 8 with | false => rfl | true => (have := q8 h; simp [hL] at this)
        clear q8
        gi_wp2
        refine ⟨bm, .pointer (some ⟨w2.heap.size, 0, none⟩), by simp [sel8, *], Adds.trans HP.out.1 (Gr.new _ _).adds, fun h => mapS_adds (HP.out.2.1 (by first | exact h | (simp [he]; done) | simpa [he] using h)) (Gr.new _ _).adds, fun _ => ⟨_, rfl, HP.out.1.size, ?_⟩⟩
        have e := BkS.new 143 w2 [.nilFunc, .nilFunc, .nilFunc, .nilFunc]
        simpa [z8] using e
      · simp only [List.getElem?_cons_zero, List.getElem?_cons_succ, Option.some.injEq] at ho
        subst ho
        try simp [Region.binds] at he
        clear q8
        have p7 : L 7 = true := by simp [he]
        have p5 : L 5 = true := by simp [he]
        obtain ⟨B, rfl, e2, e3⟩ := HP.out.2.2 p7
        rw [hL] at e3
        simp only [p7, p5, sel8_t]
        have HE3 := Lib.hid (show BkS 143 w2 B [.nilFunc, .nilFunc, .nilFunc, .nilFunc] from e3)
        have x0 : w2.cell? ⟨B, 0, none⟩ = some .nilFunc := HE3.out.cell 0
        have x1 : w2.cell? ⟨B, 1, none⟩ = some .nilFunc := HE3.out.cell 1
        have x2 : w2.cell? ⟨B, 2, none⟩ = some .nilFunc := HE3.out.cell 2
        have x3 : w2.cell? ⟨B, 3, none⟩ = some .nilFunc := HE3.out.cell 3
        have y0 := HE3.out.free 0
        have y1 := HE3.out.free 1
        have y2 := HE3.out.free 2
        have y3 := HE3.out.free 3
        have HE2 := Lib.hid e2
        clear e2 e3
        gi_wp2
        refine ⟨bm, .pointer (some ⟨B, 0, none⟩), by simp [sel8, *], ?_, fun h => ?_, fun _ => ⟨B, rfl, HE2.out, ?_⟩⟩
        · exact TnS.own HP.out.1 HE2.out ((((TnS.setCell _ _ _ _).trans (TnS.setCell _ _ _ _)).trans (TnS.setCell _ _ _ _)).trans (TnS.setCell _ _ _ _))
        · exact mapS_turn (HP.out.2.1 (by first | exact h | (simp [he]; done) | simpa [he] using h)) HE3.out ((((TnS.setCell _ _ _ _).trans (TnS.setCell _ _ _ _)).trans (TnS.setCell _ _ _ _)).trans (TnS.setCell _ _ _ _))
        · have := HE3.out.setP 0 v0 v1 v2 v3
          simpa [setP] using this
      · simp only [List.getElem?_cons_zero, List.getElem?_cons_succ, Option.some.injEq] at ho
        subst ho
        try simp [Region.binds] at he
        clear q8
        try simp only [he, sel8_t]
        gi_wp2
        refine ⟨bm, s4, by simp [sel8, *], HP.out.1, (by first | exact HP.out.2.1 | simpa [he] using HP.out.2.1), (by first | exact HP.out.2.2 | simpa [he] using HP.out.2.2)⟩
      · simp at ho
    case fin =>
      rintro b' w5 ⟨bm, s4, rfl, hA, _, hB⟩
      simp only [List.length_cons, List.length_nil, Nat.reduceAdd, Nat.reduceLT, decide_true, sel8_t] at hB ⊢
      obtain ⟨n4, rfl, hB1, hB2⟩ := hB trivial
      simp only [cond_true] at hB2
      have HA5 := Lib.hid hA
      have HB4 := Lib.hid (And.intro hB1 hB2)
      have x0 : w5.cell? ⟨n4, 0, none⟩ = some v0 := hB2.cell 0
      have x1 : w5.cell? ⟨n4, 1, none⟩ = some v1 := hB2.cell 1
      have x2 : w5.cell? ⟨n4, 2, none⟩ = some v2 := hB2.cell 2
      have x3 : w5.cell? ⟨n4, 3, none⟩ = some v3 := hB2.cell 3
      clear hA hB hB1 hB2
      cases ok
      · have hno : ¬ (1 ≤ m ∧ m ≤ 19) := fun h => by have := HOk.out.2 h; cases this
        have HG := Lib.hid hno
        clear hno HPa
        go_wp2_with fail
        have hr := HR.out
        rw [if_neg HG.out] at hr
        exact ⟨rfl, HT3.out.trans (TnS.of_adds br HA5.out), by rw [← hr]⟩
      · have HYes := Lib.hid (HOk.out.1 rfl)
        have HP2 := Lib.hid (HPa.out rfl)
        clear HPa
        go_wp2_with (go_at_call 87; refine (HP2.out.1 _).mono ?_; rintro e w6 ⟨g, rfl, q1, q2, q3⟩; have HG := Lib.hid (And.intro q1 (And.intro q2 q3)); clear q1 q2 q3)
        clear x0 x1 x2 x3
        have HOp := Lib.hid (okParts_op m)
        have hr := HR.out
        rw [if_pos HYes.out] at hr
        have HR2 := Lib.hid hr
        clear hr HR HYes
        generalize partsN m = P at HP2 HG HOp HR2
        have HLen := Lib.hid (show P.length ≤ 4 from HOp.out.2.2)
        have HSt := Lib.hid (show RdSt br n2 n3 n4 g (.slice ao l.length cap) [v0, v1, v2, v3] (P.map fun p => ((p.2 + 1, p.1) : Pt)) w (k + 1) (((m : Nat) : Int), 0, 0, 0, 0) w6 from by
          have a36 := Adds.trans HA5.out HG.out.2.2
          exact ⟨HRd3.out.adds a36, HB3.out.adds a36, HB23.out.adds a36, HB4.out.2.adds HG.out.2.2, HG.out.2.1, HT3.out.trans (TnS.of_adds br a36), by
            have h1 := HNs.out; have h2 := HB4.out.1; have h3 := HG.out.1; have h4 := HB4.out.2.lt; omega⟩)
        go_loopw [23] (fun i wr => ∃ (j kk : Nat) (x : In), i = .int .i64 j ∧ j ≤ P.length ∧ kk ≤ l.length ∧ Hid (0 ≤ x.2.2.2.2 ∧ x.2.2.2.2 < 4294967296) ∧ Hid (readPl (P.drop j) l kk x = readPl P l (k + 1) (((m : Nat) : Int), 0, 0, 0, 0)) ∧ Hid (RdSt br n2 n3 n4 g (.slice ao l.length cap) [v0, v1, v2, v3] (P.map fun p => ((p.2 + 1, p.1) : Pt)) w kk x wr)) (fun i _ => P.length + 1 - (intOf i).toNat)
        case atStart => exact ⟨0, k + 1, _, rfl, Nat.zero_le _, HK1.out, Lib.hid (by simp), Lib.hid rfl, HSt⟩
        case round =>
          obtain ⟨j, kk, x, rfl, hj, hkk, HX, HEq, HS⟩ := hrel
          have hjI : (j : Int) ≤ 4 := by have := HLen.out; omega
          by_cases hlt : j < P.length
          · have hltI : (j : Int) < (P.length : Int) := by omega
            have hrow : ∀ q, q < 4 → wr.cell? ⟨g, j * 4 + q, none⟩ = (ptC ((P.getD j (0, 0)).2 + 1, (P.getD j (0, 0)).1))[q]? := fun q hq => by
              have h0 := HS.out.row j (by simpa using hlt) q hq
              rw [ptN_get hlt] at h0
              exact h0
            have c0 := hrow 0 (by omega); have c1 := hrow 1 (by omega); have c2 := hrow 2 (by omega); have c3 := hrow 3 (by omega)
            have HOp2 := Lib.hid (HOp.out.1.1 _ (mem_getD hlt))
            have HRe := Lib.hid (readPl_at (l := l) (k := kk) (x := x) hlt)
            have HLt := Lib.hid hlt; have HKk := Lib.hid hkk
            have hwd := widN_is (P.getD j (0, 0)).1
            have HWd := Lib.hid hwd
            have ep := enter_put (P.getD j (0, 0)).1 HOp2.out.1
            have HPut := Lib.hid (fun (W : World) (y : Int) (h : BkS 59 W n3 (insC x)) => put_any (P.getD j (0, 0)).1 HOp2.out.1 n3 x y W h)
            have HIm := Lib.hid (put_imm (P.getD j (0, 0)).1 x)
            simp only [ptC, List.getElem?_cons_zero, List.getElem?_cons_succ, Nat.add_zero, slotV] at c0 c1 c2 c3
            unfold fnV at c0 c2 c3
            generalize isF (P.getD j (0, 0)).2 = fi at c0
            generalize getF (P.getD j (0, 0)).1 = fg at c2
            generalize putF (P.getD j (0, 0)).1 = fp at c3 HPut ep
            generalize widN (P.getD j (0, 0)).1 = wd at c1 HWd HRe
            have hmf : ∀ (fn : Fn) (first cap : Array Value) (w : World), (Instr.makeFunc fn first cap).run Tryz.prog w = .ok (.func fn first cap) w := fun _ _ _ _ => rfl
            clear hrow hlt hkk hj hwd
            go_wp2_with fail
            obtain ⟨sz, hsz⟩ : ∃ sz, wr.heap.size = sz := ⟨_, rfl⟩
            obtain ⟨wb, hwb⟩ : ∃ wb, wr.alloc (.cells #[.func (.func fi) #[] #[], .int .i64 wd, .func (.func fg) #[] #[], .func (.func fp) #[] #[]] 150) = wb := ⟨_, rfl⟩
            have HGb := Lib.hid (show Adds wr wb by rw [← hwb]; exact (Gr.new _ _).adds)
            have HPb := Lib.hid (show BkS 150 wb sz [.func (.func fi) #[] #[], .int .i64 wd, .func (.func fg) #[] #[], .func (.func fp) #[] #[]] by rw [← hwb, ← hsz]; exact BkS.new _ _ _)
            have HSb := Lib.hid (HS.out.adds HGb.out)
            have HSz2 := Lib.hid (show g < sz from by rw [← hsz]; exact HS.out.row.lt (by rw [List.length_map]; have := HLt.out; omega))
            rw [hwb, hsz]
            clear hwb hsz c0 c1 c2 c3
            have HCall := Lib.hid (fun (W : World) (hp : BkS 150 W sz [.func (.func fi) #[] #[], .int .i64 wd, .func (.func fg) #[] #[], .func (.func fp) #[] #[]]) (hr : BkS 186 W br (rdC (.slice ao l.length cap) kk)) (ht : TnS br w W) =>
              readN8 br sz _ _ _ wd HWd.out (.slice ao l.length cap) l kk HKk.out W (Nat.le_trans HN.out.2.2 ht.size) (HV.out.1.below (ht.below8 HN.out.1 HN.out.2.2)) (HV.out.2.low (ht.below8 HN.out.1 HN.out.2.2) HN.out.2.1) hp hr)
            have HDs := Lib.hid (show br < sz ∧ n3 < sz from by have h1 := HSb.out.dis; have h2 := HSz2.out; omega)
            by_cases hsh : (l.drop kk).length < wd.toNat
            · have HC1 := Lib.hid (fun W hp hr ht => (HCall.out W hp hr ht).mono (R' := fun e w' => e = .panicked [{ v := .iface 187 (.int .i64 110), recovered := false }] ∧ Adds W w') fun e w' h => by
                rw [decide_eq_false (by omega)] at h
                simpa [RdPost8] using h)
              have hr5 := HR2.out
              rw [← HEq.out, HRe.out, if_pos hsh] at hr5
              have HR5 := Lib.hid hr5
              clear hr5 hsh HCall
              refine (wpIn_wide (n := 6)).1 ?_
              refine wpIn_region_inv (fun L b' w2 => b' = ({ tmps := #[Value.pointer (some { block := br, off := 0 }), undef, Value.pointer (some { block := n2, off := 0 }), Value.pointer (some { block := n3, off := 0 }), Value.pointer (some { block := n4, off := 0 }), Value.bool true, undef, Value.pointer (some { block := sz, off := 0 }), Value.pointer (some { block := br, off := 0 }), insV (((m : Nat) : Int), 0, 0, 0, 0), Value.tuple #[Value.agg #[v0, v1, v2, v3], Value.bool true], Value.map (some bm), Value.pointer (some { block := n3, off := 0 }), Value.int IntKind.i64 ((m : Nat) : Int), Value.tuple #[Value.agg #[v0, v1, v2, v3], Value.bool true], Value.agg #[v0, v1, v2, v3], Value.bool true, Value.bool true, Value.bool false, undef, Value.agg #[v0, v1, v2, v3], Value.slice (some { block := g, off := 0 }) P.length 4, Value.int IntKind.i64 ((P.length : Nat) : Int), Value.int IntKind.i64 ((j : Nat) : Int), Value.bool true, Value.pointer (some { block := g, off := j * 4 }), Value.agg #[Value.func (Fn.func fi) #[] #[], Value.int IntKind.i64 wd, Value.func (Fn.func fg) #[] #[], Value.func (Fn.func fp) #[] #[]], sel8 (L 0) (Value.pointer (some { block := sz, off := 3 })) (u27), sel8 (L 1) (Value.func (Fn.func fp) #[] #[]) (u28), sel8 (L 2) (Value.pointer (some { block := br, off := 0 })) (u29), sel8 (L 3) (Value.func (Fn.func 139) #[] #[Value.pointer (some { block := sz, off := 0 })]) (u30), u31, u32, u33, undef, undef, undef, undef, undef, undef], defers := [] } : Act) ∧ Adds wb w2 ∧ L 4 = false) hmx (by kernel_rfl) ?inv1 ?step1 ?fin1
              case inv1 => exact ⟨rfl, Adds.drew _, rfl⟩
              case step1 =>
                rintro L b' w2 i o ho hL hC he ⟨rfl, hP⟩
                clear hC
                have HP := Lib.hid hP
                have k3 : w2.cell? ⟨sz, 3, none⟩ = some (.func (.func fp) #[] #[]) := (HPb.out.adds hP.1).cell 3
                clear hP
                rcases i with _ | _ | _ | _ | _ | _ | i
                · simp only [List.getElem?_cons_zero, Option.some.injEq] at ho
                  subst ho
                  try simp [Region.binds] at he
                  try simp only []
                  gi_wp2
                  refine ⟨by simp [sel8, *], HP.out.1, (by first | exact HP.out.2 | simpa using HP.out.2)⟩
                · simp only [List.getElem?_cons_zero, List.getElem?_cons_succ, Option.some.injEq] at ho
                  subst ho
                  try simp [Region.binds] at he
                  try simp only [he, sel8_t]
                  gi_wp2
                  refine ⟨by simp [sel8, *], HP.out.1, (by first | exact HP.out.2 | simpa using HP.out.2)⟩
                · simp only [List.getElem?_cons_zero, List.getElem?_cons_succ, Option.some.injEq] at ho
                  subst ho
                  try simp [Region.binds] at he
                  try simp only []
                  gi_wp2
                  refine ⟨by simp [sel8, *], HP.out.1, (by first | exact HP.out.2 | simpa using HP.out.2)⟩
                · simp only [List.getElem?_cons_zero, List.getElem?_cons_succ, Option.some.injEq] at ho
                  subst ho
                  try simp [Region.binds] at he
                  try simp only []
                  gi_wp2
                  refine ⟨by simp [sel8, *], HP.out.1, (by first | exact HP.out.2 | simpa using HP.out.2)⟩
                · simp only [List.getElem?_cons_zero, List.getElem?_cons_succ, Option.some.injEq] at ho
                  subst ho
                  try simp [Region.binds] at he
                  simp only [he, sel8_t]
                  gi_wp2_with (refine ⟨trivial, ?_⟩; gi_at_call 138; refine (callsIn_wide.2 (HC1.out w2 (HPb.out.adds HP.out.1) (HSb.out.adds HP.out.1).rd (HSb.out.adds HP.out.1).tn)).mono ?_; rintro e w3 ⟨rfl, hA3⟩; have HA3 := Lib.hid hA3; clear hA3)
                  exact ⟨rfl, (HSb.out.adds HP.out.1).tn.trans (TnS.of_adds br HA3.out), by rw [← HR5.out]⟩
                · simp only [List.getElem?_cons_zero, List.getElem?_cons_succ, Option.some.injEq] at ho
                  subst ho
                  try simp [Region.binds] at he
                  exfalso
                  have h4 := HP.out.2
                  have p4 : L 4 = true := by simp [he]
                  rw [p4] at h4
                  cases h4
                · simp at ho
              case fin1 =>
                rintro b' w7 ⟨rfl, _, h⟩
                simp at h
            · have HC2 := Lib.hid (fun W hp hr ht => (HCall.out W hp hr ht).mono (R' := fun e w' => e = .returned (.int .i64 ((rfN (l.drop kk) wd : Nat) : Int)) ∧ BkS 186 w' br (rdC (.slice ao l.length cap) (kk + wd.toNat)) ∧ TnS br W w') fun e w' h => by
                rw [decide_eq_true (by omega)] at h
                simpa [RdPost8] using h)
              have heq := HRe.out
              rw [if_neg hsh, HEq.out] at heq
              have hmm := rfN_lt (l.drop kk) HWd.out
              have hle : kk + wd.toNat ≤ l.length := by rw [List.length_drop] at hsh; have := HKk.out; have := HWd.out; omega
              generalize rfN (l.drop kk) wd = mm at HC2 heq hmm
              have HE5 := Lib.hid heq.symm
              have HMm := Lib.hid hmm
              have HLe := Lib.hid hle
              clear heq hmm hsh HCall hle
              refine (wpIn_wide (n := 6)).1 ?_
              refine wpIn_region_inv (fun L b' w2 => b' = ({ tmps := #[Value.pointer (some { block := br, off := 0 }), undef, Value.pointer (some { block := n2, off := 0 }), Value.pointer (some { block := n3, off := 0 }), Value.pointer (some { block := n4, off := 0 }), Value.bool true, undef, Value.pointer (some { block := sz, off := 0 }), Value.pointer (some { block := br, off := 0 }), insV (((m : Nat) : Int), 0, 0, 0, 0), Value.tuple #[Value.agg #[v0, v1, v2, v3], Value.bool true], Value.map (some bm), Value.pointer (some { block := n3, off := 0 }), Value.int IntKind.i64 ((m : Nat) : Int), Value.tuple #[Value.agg #[v0, v1, v2, v3], Value.bool true], Value.agg #[v0, v1, v2, v3], Value.bool true, Value.bool true, Value.bool false, undef, Value.agg #[v0, v1, v2, v3], Value.slice (some { block := g, off := 0 }) P.length 4, Value.int IntKind.i64 ((P.length : Nat) : Int), Value.int IntKind.i64 ((j : Nat) : Int), Value.bool true, Value.pointer (some { block := g, off := j * 4 }), Value.agg #[Value.func (Fn.func fi) #[] #[], Value.int IntKind.i64 wd, Value.func (Fn.func fg) #[] #[], Value.func (Fn.func fp) #[] #[]], sel8 (L 0) (Value.pointer (some { block := sz, off := 3 })) (u27), sel8 (L 1) (Value.func (Fn.func fp) #[] #[]) (u28), sel8 (L 2) (Value.pointer (some { block := br, off := 0 })) (u29), sel8 (L 3) (Value.func (Fn.func 139) #[] #[Value.pointer (some { block := sz, off := 0 })]) (u30), sel8 (L 4) (Value.int IntKind.i64 ((mm : Nat) : Int)) (u31), sel8 (L 5) (Value.tuple #[]) (u32), u33, undef, undef, undef, undef, undef, undef], defers := [] } : Act) ∧ BkS 150 w2 sz [.func (.func fi) #[] #[], .int .i64 wd, .func (.func fg) #[] #[], .func (.func fp) #[] #[]] ∧ RdSt br n2 n3 n4 g (.slice ao l.length cap) [v0, v1, v2, v3] (P.map fun p => ((p.2 + 1, p.1) : Pt)) w (cond (L 4) (kk + wd.toNat) kk) (cond (L 5) (putP (P.getD j (0, 0)).1 x mm) x) w2) hmx (by kernel_rfl) ?inv2 ?step2 ?fin2
              case inv2 => exact ⟨rfl, HPb.out.adds (Adds.drew _), HSb.out.adds (Adds.drew _)⟩
              case step2 =>
                rintro L b' w2 i o ho hL hC he ⟨rfl, hP⟩
                have q5 := hC 5 _ rfl
                simp [Region.binds] at q5
                clear hC
                have HP := Lib.hid hP
                have k3 : w2.cell? ⟨sz, 3, none⟩ = some (.func (.func fp) #[] #[]) := hP.1.cell 3
                clear hP
                rcases i with _ | _ | _ | _ | _ | _ | i
                · simp only [List.getElem?_cons_zero, Option.some.injEq] at ho
                  subst ho
                  try simp [Region.binds] at he
                  clear q5
                  try simp only []
                  gi_wp2
                  refine ⟨by simp [sel8, *], HP.out.1, (by first | exact HP.out.2 | simpa [he] using HP.out.2)⟩
                · simp only [List.getElem?_cons_zero, List.getElem?_cons_succ, Option.some.injEq] at ho
                  subst ho
                  try simp [Region.binds] at he
                  clear q5
                  try simp only [he, sel8_t]
                  gi_wp2
                  refine ⟨by simp [sel8, *], HP.out.1, (by first | exact HP.out.2 | simpa [he] using HP.out.2)⟩
                · simp only [List.getElem?_cons_zero, List.getElem?_cons_succ, Option.some.injEq] at ho
                  subst ho
                  try simp [Region.binds] at he
                  clear q5
                  try simp only []
                  gi_wp2
                  refine ⟨by simp [sel8, *], HP.out.1, (by first | exact HP.out.2 | simpa [he] using HP.out.2)⟩
                · simp only [List.getElem?_cons_zero, List.getElem?_cons_succ, Option.some.injEq] at ho
                  subst ho
                  try simp [Region.binds] at he
                  clear q5
                  try simp only []
                  gi_wp2
                  refine ⟨by simp [sel8, *], HP.out.1, (by first | exact HP.out.2 | simpa [he] using HP.out.2)⟩
                · simp only [List.getElem?_cons_zero, List.getElem?_cons_succ, Option.some.injEq] at ho
                  subst ho
                  try simp [Region.binds] at he
                  have z5 : L 5 = false := by cases h : L 5 with | false => rfl | true => (have := q5 h; simp_all)
                  clear q5
                  have hst := HP.out.2
                  rw [hL, z5] at hst
                  have HST := Lib.hid hst
                  clear hst
                  simp only [he, sel8_t]
                  gi_wp2_with (refine ⟨trivial, ?_⟩; gi_at_call 138; refine (callsIn_wide.2 (HC2.out w2 HP.out.1 HST.out.rd HST.out.tn)).mono ?_; rintro e w3 ⟨rfl, q1, q2⟩; have HQ := Lib.hid (And.intro q1 q2); clear q1 q2)
                  refine ⟨by simp [sel8, *], HP.out.1.tn HQ.out.2 (by have := HDs.out; omega), ?_⟩
                  simpa [z5] using HST.out.read HQ.out.2 HQ.out.1
                · simp only [List.getElem?_cons_zero, List.getElem?_cons_succ, Option.some.injEq] at ho
                  subst ho
                  try simp [Region.binds] at he
                  clear q5
                  have p4 : L 4 = true := by simp [he]
                  have p1 : L 1 = true := by simp [he]
                  have hst := HP.out.2
                  rw [hL, p4] at hst
                  have HST := Lib.hid hst
                  clear hst
                  simp only [p1, p4, sel8_t]
                  gi_wp2_with (refine ⟨trivial, ?_⟩; gi_at_fn fp; refine (callsIn_wide.2 (HPut.out w2 _ HST.out.ins)).mono ?_; rintro e w3 ⟨rfl, q1, q2⟩; rw [(HIm.out mm HMm.out HX.out).1] at q1; have HQ := Lib.hid (And.intro q1 q2); clear q1 q2)
                  refine ⟨by simp [sel8, *], HP.out.1.tn HQ.out.2 (by have := HDs.out; omega), ?_⟩
                  simpa [p4] using HST.out.put HQ.out.2 HQ.out.1
                · simp at ho
              case fin2 =>
                rintro b' w7 ⟨rfl, hp7, hs7⟩
                simp only [List.length_cons, List.length_nil, Nat.reduceAdd, Nat.reduceLT, decide_true, sel8_t, cond_true] at hs7 ⊢
                have HS7 := Lib.hid hs7
                clear hp7 hs7
                go_wp2_with fail
                go_roundw
                case rel => exact ⟨j + 1, kk + wd.toNat, _, rfl, HLt.out, HLe.out, Lib.hid (HIm.out mm HMm.out HX.out).2, HE5, HS7⟩
                case measure => simp [intOf]; have := HLt.out; omega
          · obtain rfl : j = P.length := by omega
            have heq := HEq.out
            rw [List.drop_length] at heq
            have hr := HR2.out
            rw [← heq] at hr
            simp only [readPl] at hr
            have HR3 := Lib.hid hr
            have HHo := Lib.hid (HP2.out.2 x)
            have hs4 := HS.out.shp
            have hs3 := HS.out.ins
            have hs2 := HS.out.res
            obtain ⟨xo, xa, xb, xc, xi⟩ := x
            have x0 : wr.cell? ⟨n4, 0, none⟩ = some v0 := hs4.cell 0
            have x1 : wr.cell? ⟨n4, 1, none⟩ = some v1 := hs4.cell 1
            have x2 : wr.cell? ⟨n4, 2, none⟩ = some v2 := hs4.cell 2
            have x3 : wr.cell? ⟨n4, 3, none⟩ = some v3 := hs4.cell 3
            have i0 : wr.cell? ⟨n3, 0, none⟩ = some (.int .i64 xo) := hs3.cell 0
            have i1 : wr.cell? ⟨n3, 1, none⟩ = some (.int .i64 xa) := hs3.cell 1
            have i2 : wr.cell? ⟨n3, 2, none⟩ = some (.int .i64 xb) := hs3.cell 2
            have i3 : wr.cell? ⟨n3, 3, none⟩ = some (.int .i64 xc) := hs3.cell 3
            have i4 : wr.cell? ⟨n3, 4, none⟩ = some (.int .u32 xi) := hs3.cell 4
            clear heq hr hs4 hs3 hs2 hlt hj hkk
            cases hz : holdsL P (xo, xa, xb, xc, xi)
            · have hh := fun W => HHo.out W HX.out
              rw [hz] at hh
              have HH := Lib.hid hh
              have hr3 := HR3.out
              rw [hz] at hr3
              have HR4 := Lib.hid hr3
              clear hh hz hr3
              go_wp2_with (go_at_call 131; refine (HH.out _).mono ?_; rintro e w7 ⟨rfl, q⟩; have HA7 := Lib.hid q; clear q)
              exact ⟨rfl, HS.out.tn.trans (TnS.of_adds br HA7.out), by rw [← HR4.out]; rfl⟩
            · have hh := fun W => HHo.out W HX.out
              rw [hz] at hh
              have HH := Lib.hid hh
              have hr3 := HR3.out
              rw [hz] at hr3
              have HR4 := Lib.hid hr3
              clear hh hz hr3
              go_wp2_with (go_at_call 131; refine (HH.out _).mono ?_; rintro e w7 ⟨rfl, q⟩; have HS7 := Lib.hid (HS.out.adds q); have i0 : w7.cell? ⟨n3, 0, none⟩ = some (.int .i64 xo) := HS7.out.ins.cell 0; have i1 : w7.cell? ⟨n3, 1, none⟩ = some (.int .i64 xa) := HS7.out.ins.cell 1; have i2 : w7.cell? ⟨n3, 2, none⟩ = some (.int .i64 xb) := HS7.out.ins.cell 2; have i3 : w7.cell? ⟨n3, 3, none⟩ = some (.int .i64 xc) := HS7.out.ins.cell 3; have i4 : w7.cell? ⟨n3, 4, none⟩ = some (.int .u32 xi) := HS7.out.ins.cell 4; have z0 : w7.cell? ⟨n2, 0, none⟩ = some (.int .i64 0) := HS7.out.res.cell 0; have z1 : w7.cell? ⟨n2, 1, none⟩ = some (.int .i64 0) := HS7.out.res.cell 1; have z2 : w7.cell? ⟨n2, 2, none⟩ = some (.int .i64 0) := HS7.out.res.cell 2; have z3 : w7.cell? ⟨n2, 3, none⟩ = some (.int .i64 0) := HS7.out.res.cell 3; have z4 : w7.cell? ⟨n2, 4, none⟩ = some (.int .u32 0) := HS7.out.res.cell 4; have y0 := HS7.out.res.free 0; have y1 := HS7.out.res.free 1; have y2 := HS7.out.res.free 2; have y3 := HS7.out.res.free 3; have y4 := HS7.out.res.free 4; clear q)
              have hb := (((((HS7.out.res.set 0 (.int .i64 xo)).set 1 (.int .i64 xa)).set 2 (.int .i64 xb)).set 3 (.int .i64 xc)).set 4 (.int .u32 xi))
              refine bodyPost_ret (res_box rfl _ _ _ (insC (xo, xa, xb, xc, xi)).toArray _ _ _ rfl hb Tryz.underlying59 rfl (by kernel_rfl)) rfl ?_
              have hT := (((((TnS.setCell n2 0 w7 (.int .i64 xo)).trans (TnS.setCell n2 1 _ (.int .i64 xa))).trans (TnS.setCell n2 2 _ (.int .i64 xb))).trans (TnS.setCell n2 3 _ (.int .i64 xc))).trans (TnS.setCell n2 4 _ (.int .u32 xi)))
              refine ⟨HS7.out.tn.mine (by have := HNs.out; omega) hT, ?_⟩
              rw [← HR4.out]
              exact ⟨rfl, HS7.out.rd.tn hT (by have := HNs.out; omega)⟩
end Go.Proofs.YthhegcngkpfcoaaGreatDoor
