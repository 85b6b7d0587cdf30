/- Merged: M11, M14. -/
import Derived.Test.YthhegcngkpfcoaaGreatDoorF43
import Derived.Test.YthhegcngkpfcoaaGreatDoorF30
import Derived.Test.YthhegcngkpfcoaaGreatDoorF42
namespace Go.Proofs.YthhegcngkpfcoaaGreatDoor
open Go Go.RowKit Go.Lib Go.Shelf

/-- The bytes with which an image begins, as they lie in the variable. -/
structure BegW (w : World) : Prop where
  c0 : w.cell? ⟨0, 0, none⟩ = some (.int .u8 108)
  c1 : w.cell? ⟨0, 1, none⟩ = some (.int .u8 105)
  c2 : w.cell? ⟨0, 2, none⟩ = some (.int .u8 110)
  c3 : w.cell? ⟨0, 3, none⟩ = some (.int .u8 101)
theorem BegW.low {n : Nat} {w w' : World} (h : BegW w) (hb : Below n w w') (hg : 0 < n) : BegW w' :=
  ⟨(hb.cell (p := ⟨_, 0, none⟩) hg).trans h.c0, (hb.cell (p := ⟨_, 1, none⟩) hg).trans h.c1, (hb.cell (p := ⟨_, 2, none⟩) hg).trans h.c2, (hb.cell (p := ⟨_, 3, none⟩) hg).trans h.c3⟩
theorem BegW.adds {w w' : World} (h : BegW w) (ha : Adds w w') : BegW w' := h.low ha (World.block_lt_of_cell? w _ h.c0)
/-- The variables that the package reads. -/
structure MVars (w : World) : Prop where
  wid : Widths w
  beg : BegW w
theorem MVars.adds {w w' : World} (h : MVars w) (ha : Adds w w') : MVars w' := ⟨h.wid.adds ha, h.beg.adds ha⟩
theorem MVars.lt {w : World} (h : MVars w) : 1 < w.heap.size ∧ 0 < w.heap.size := ⟨World.block_lt_of_cell? w _ h.wid.c0, World.block_lt_of_cell? w _ h.beg.c0⟩
theorem bytes_line {n : Nat} {w : World} {g : Nat} {t : TypeId} (hg : g < n) (h : BkS t w g [.int .u8 108, .int .u8 105, .int .u8 110, .int .u8 101]) : Bytes n w (.slice (some ⟨g, 0, none⟩) 4 4) lineB := by
  refine ⟨_, 4, rfl, by decide, by decide, fun _ => ⟨g, 0, rfl, hg, fun i hi => ?_⟩⟩
  have hi : i < 4 := hi
  rw [Nat.zero_add, h.cell i]
  match i, hi with
  | 0, _ => rfl
  | 1, _ => rfl
  | 2, _ => rfl
  | 3, _ => rfl
theorem ints4 (w : World) (a b c d : Nat) : IntsAt w.heap.size (w.alloc (.cells #[.int .i64 (a : Int), .int .i64 (b : Int), .int .i64 (c : Int), .int .i64 (d : Int)] 3)) [a, b, c, d] := by
  intro j hj
  have h := BkS.new 3 w [.int .i64 (a : Int), .int .i64 (b : Int), .int .i64 (c : Int), .int .i64 (d : Int)]
  have hj : j < 4 := hj
  match j, hj with
  | 0, _ => exact h.cell 0
  | 1, _ => exact h.cell 1
  | 2, _ => exact h.cell 2
  | 3, _ => exact h.cell 3
theorem words1 (w : World) (x : Nat) : WordsAt w.heap.size (w.alloc (.cells #[.int .u64 (x : Int)] 72)) [x] := by
  intro j hj
  obtain rfl : j = 0 := by simpa using hj
  exact (BkS.new 72 w [.int .u64 (x : Int)]).cell 0
/-- tell of four ints. -/
theorem mtell4 (lb : Nat) (l : List UInt8) (a b c d : Nat) (w : World) (hl : WAt lb w l) (hw : Widths w) (hgw : 1 < lb) (ha : a < 256) (hb : b < 256) (hc : c < 256) (hd : d < 256) (hlen : l.length + 32 ≤ 140737488355328) :
    Calls Tryz.prog 36 #[putMv lb, .int .i64 1, .slice (some ⟨w.heap.size, 0, none⟩) 4 4] (w.alloc (.cells #[.int .i64 (a : Int), .int .i64 (b : Int), .int .i64 (c : Int), .int .i64 (d : Int)] 3)) fun e w' => e = .returned (.tuple #[]) ∧ WAt lb w' (l ++ tellB [a, b, c, d] 1) ∧ Below lb w w' ∧ Keeps lb w w' := by
  have A := adds_alloc w (.cells #[.int .i64 (a : Int), .int .i64 (b : Int), .int .i64 (c : Int), .int .i64 (d : Int)] 3)
  refine (mtellI lb w.heap.size l [a, b, c, d] 1 _ (hl.adds A) (hw.adds A) hgw (far_new hl A (Nat.le_refl _) (by simp)) (ints4 w a b c d) (fun j => ?_) (by simpa using hlen)).mono ?_
  · match j with
    | 0 => show a < _; omega
    | 1 => show b < _; omega
    | 2 => show c < _; omega
    | 3 => show d < _; omega
    | j + 4 => simp
  · rintro e w' ⟨h1, h2, h3, h4⟩
    exact ⟨h1, h2, (Below.mono A (Nat.le_of_lt hl.lt)).trans h3, (Keeps.adds hl.lt A).trans h4⟩
/-- tell of one word. -/
theorem mtellS (lb : Nat) (l : List UInt8) (x : Nat) (w : World) (hl : WAt lb w l) (hw : Widths w) (hgw : 1 < lb) (hx : x < 18446744073709551616) (hlen : l.length + 8 ≤ 140737488355328) :
    Calls Tryz.prog 38 #[putMv lb, .int .i64 8, .slice (some ⟨w.heap.size, 0, none⟩) 1 1] (w.alloc (.cells #[.int .u64 (x : Int)] 72)) fun e w' => e = .returned (.tuple #[]) ∧ WAt lb w' (l ++ fixB x 8) ∧ Below lb w w' ∧ Keeps lb w w' := by
  have A := adds_alloc w (.cells #[.int .u64 (x : Int)] 72)
  refine (mtellU lb w.heap.size l [x] 8 _ (hl.adds A) (hw.adds A) hgw (far_new hl A (Nat.le_refl _) (by simp)) (words1 w x) (fun j => ?_) (by simpa using hlen)).mono ?_
  · match j with
    | 0 => exact hx
    | j + 1 => simp
  · rintro e w' ⟨h1, h2, h3, h4⟩
    rw [tell1] at h2
    exact ⟨h1, h2, (Below.mono A (Nat.le_of_lt hl.lt)).trans h3, (Keeps.adds hl.lt A).trans h4⟩
theorem funcB_take (fs : List Fu) (j : Nat) (h : j < fs.length) : (fs.take (j + 1)).flatMap funcB = (fs.take j).flatMap funcB ++ funcB (fs.getD j zF) := by
  rw [List.take_succ_eq_append_getElem h, List.flatMap_append]
  simp [List.getD, h]
theorem funcB_le (f : Fu) (h : f.2.length ≤ 512) : (funcB f).length ≤ 17000 := by
  have h1 := flat_le33 f.2
  have h2 : (fixB f.1.toNat 1).length ≤ 8 := fixB_le8 f.1.toNat 1
  have h3 : (fixB f.2.length 2).length ≤ 8 := fixB_le8 f.2.length 2
  unfold funcB
  simp only [List.length_append]
  omega
theorem funcsB_le : ∀ (fs : List Fu), (∀ f ∈ fs, f.2.length ≤ 512) → (fs.flatMap funcB).length ≤ fs.length * 17000
  | [], _ => by simp
  | f :: fs, h => by have h1 := funcB_le f (h f (by simp)); have h2 := funcsB_le fs (fun g hg => h g (by simp [hg])); simp only [List.flatMap_cons, List.length_append, List.length_cons, Nat.add_mul]; omega
set_option maxRecDepth 100000 in
set_option maxHeartbeats 4000000 in
theorem mwimage {n : Nat} (lb : Nat) (u : Value) (p : Pg) (w : World) (hl : WAt lb w []) (hv : MVars w) (hgw : 1 < lb) (hn : n ≤ lb) (hf : FuncsW n w u p.1) (hF : Fine p) :
    Calls Tryz.prog 21 #[.pointer (some ⟨lb, 0, none⟩), pgV u p] w fun e w' => e = .returned (.tuple #[]) ∧ WAt lb w' (imageB p) ∧ Below lb w w' ∧ Keeps lb w w' := by
  obtain ⟨fs, x1, x2, x3⟩ := p
  obtain ⟨n0, n1, n2, n3, hfs⟩ := hF
  simp only at hf n0 n1 n2 n3 hfs ⊢
  obtain ⟨a, rfl⟩ : ∃ m : Nat, x1 = m := ⟨x1.toNat, by omega⟩
  obtain ⟨b, rfl⟩ : ∃ m : Nat, x2 = m := ⟨x2.toNat, by omega⟩
  obtain ⟨c, rfl⟩ : ∃ m : Nat, x3 = m := ⟨x3.toNat, by omega⟩
  have HOk := Lib.hid hf.ok
  have HL := Lib.hid hl; have HV := Lib.hid hv; have HGw := Lib.hid hgw; have HN := Lib.hid hn; have HFs := Lib.hid hfs; have HF := Lib.hid hf
  have HB := Lib.hid (show bareB (fs, (a : Int), (b : Int), (c : Int)) = lineB ++ (tellB [a, b, c, fs.length] 1 ++ fs.flatMap funcB) from rfl)
  have HNm := Lib.hid (show a < 256 ∧ b < 256 ∧ c < 256 ∧ fs.length < 256 ∧ fs.length ≤ 32 by omega)
  have HSh := Lib.hid (fun j => funcsB_le (fs.take j) (fun f hf => (hfs f (List.mem_of_mem_take hf)).2.1.2))
  obtain ⟨ao, cap, rfl, h1, h2, _⟩ := hf
  obtain ⟨fl, hfl⟩ : ∃ fl, fs.length = fl := ⟨_, rfl⟩
  have HFl := Lib.hid hfl
  have hfI : (fl : Int) ≤ 32 := by omega
  simp only [hfl] at HF HB HNm ⊢
  unfold imageB
  rw [HB.out]
  have c0 := hv.beg.c0; have c1 := hv.beg.c1; have c2 := hv.beg.c2; have c3 := hv.beg.c3
  clear hl hgw hn hfs n0 n1 n2 n3 h1 h2 hfl
  obtain ⟨w1, hw1⟩ : ∃ w1, w.alloc (.cells #[.slice ao fl cap, .int .i64 (a : Int), .int .i64 (b : Int), .int .i64 (c : Int)] 24) = w1 := ⟨_, rfl⟩
  have A1 := Lib.hid (show Adds w w1 by rw [← hw1]; exact (Gr.new _ _).adds)
  have B1 := Lib.hid (show BkS 24 w1 w.heap.size [.slice ao fl cap, .int .i64 (a : Int), .int .i64 (b : Int), .int .i64 (c : Int)] by rw [← hw1]; exact BkS.new _ _ _)
  have HS1 := Lib.hid (show w1.heap.size = w.heap.size + 1 by rw [← hw1]; simp)
  have d0 := (hv.beg.adds A1.out).c0; have d1 := (hv.beg.adds A1.out).c1; have d2 := (hv.beg.adds A1.out).c2; have d3 := (hv.beg.adds A1.out).c3
  clear hv c0 c1 c2 c3
  obtain ⟨w2, hw2⟩ : ∃ w2, w1.alloc (.cells #[.int .u8 108, .int .u8 105, .int .u8 110, .int .u8 101] 85) = w2 := ⟨_, rfl⟩
  have A2 := Lib.hid (show Adds w w2 by rw [← hw2]; exact A1.out.trans (Gr.new _ _).adds)
  have B2 := Lib.hid (show BkS 85 w2 w1.heap.size [.int .u8 108, .int .u8 105, .int .u8 110, .int .u8 101] by rw [← hw2]; exact BkS.new _ _ _)
  have C2 := Lib.hid (B1.out.adds (show Adds w1 w2 by rw [← hw2]; exact (Gr.new _ _).adds))
  have F2 := Lib.hid (far_new HL.out A2.out (Nat.le_refl _) C2.out.lt)
  have K2 := Lib.hid (Keeps.adds HL.out.lt A2.out)
  have HP := Lib.hid (mput (n := w2.heap.size) lb w2.heap.size [] lineB (.slice (some ⟨w1.heap.size, 0, none⟩) 4 4) _ ((HL.out.adds A2.out).adds (adds_alloc w2 (.cells #[.slice (some ⟨w1.heap.size, 0, none⟩) 4 4] 27))) ((BkS.new 27 w2 [_]).cell 0) ((bytes_line B2.out.lt B2.out).below (adds_alloc _ _)) (by decide))
  go_enter Tryz.func21, Tryz.ntmps21
  go_wp2_with (first
    | (go_at_call 35; refine HP.out.mono ?_; rintro e w3 ⟨rfl, l3, b3, k3⟩; have a3 := adds_alloc w2 (.cells #[.slice (some ⟨w1.heap.size, 0, none⟩) 4 4] 27); have k23 := (Keeps.adds (HL.out.adds A2.out).lt a3).trans k3; have L3 := Lib.hid l3; have A3 := Lib.hid ((Below.mono A2.out (Nat.le_of_lt HL.out.lt)).trans ((Below.mono a3 (Nat.le_of_lt (HL.out.adds A2.out).lt)).trans b3)); have B3 := Lib.hid (k23.bk F2.out C2.out); have F3 := Lib.hid (k23 _ F2.out).1; have K3 := Lib.hid (K2.out.trans k23); have q0 : w3.cell? ⟨w.heap.size, 0, none⟩ = some (.slice ao fl cap) := B3.out.cell 0; have q1 : w3.cell? ⟨w.heap.size, 1, none⟩ = some (.int .i64 (a : Int)) := B3.out.cell 1; have q2 : w3.cell? ⟨w.heap.size, 2, none⟩ = some (.int .i64 (b : Int)) := B3.out.cell 2; have q3 : w3.cell? ⟨w.heap.size, 3, none⟩ = some (.int .i64 (c : Int)) := B3.out.cell 3; clear l3 b3 k3 k23 a3 HP; have HT4 := Lib.hid (mtell4 lb _ a b c fl w3 L3.out (HV.out.wid.low A3.out HGw.out) HGw.out HNm.out.1 HNm.out.2.1 HNm.out.2.2.1 HNm.out.2.2.2.1 (by simp [lineB])))
    | (go_at_call 36; refine HT4.out.mono ?_; rintro e w4 ⟨rfl, l4, b4, k4⟩; have L4 := Lib.hid l4; have A4 := Lib.hid (A3.out.trans b4); have B4 := Lib.hid (k4.bk F3.out B3.out); have K4 := Lib.hid (K3.out.trans k4); have r0 : w4.cell? ⟨w.heap.size, 0, none⟩ = some (.slice ao fl cap) := B4.out.cell 0; clear l4 b4 k4 q0 q1 q2 q3 HT4))
  go_loopw [28] (fun i wr => ∃ j : Nat, i = .int .i64 (j : Int) ∧ j ≤ fl ∧ Hid (WAt lb wr (lineB ++ (tellB [a, b, c, fl] 1 ++ (fs.take j).flatMap funcB)) ∧ Below lb w wr ∧ Keeps lb w wr)) (fun i _ => fl - (RowKit.intOf i).toNat)
  case atStart => exact ⟨0, rfl, Nat.zero_le _, Lib.hid ⟨by simpa using L4.out, A4.out, K4.out⟩⟩
  case round =>
    obtain ⟨j, rfl, hj, HJ⟩ := hrel
    by_cases hlt : j < fl
    · have hltI : (j : Int) < (fl : Int) := by omega
      have HLt := Lib.hid hlt
      have hjc : j < fs.length := by rw [HFl.out]; exact hlt
      obtain ⟨g, off, rfl, hg, hat⟩ := (show FuncsW n wr (.slice ao fs.length cap) fs by have h := HF.out.below (HJ.out.2.1.mono HN.out); rw [← HFl.out] at h; exact h).at (i := j) hjc
      have hmem : fs.getD j zF ∈ fs := by rw [List.getD_eq_getElem?_getD, List.getElem?_eq_getElem hjc]; exact List.getElem_mem hjc
      have hfj := HFs.out _ hmem
      have hokj := HOk.out _ hmem
      have HTk := Lib.hid (funcB_take fs j hjc)
      have HSj := Lib.hid (show (lineB ++ (tellB [a, b, c, fl] 1 ++ (fs.take j).flatMap funcB)).length ≤ 1000000000 by
        have h1 := HSh.out j
        have h2 : (tellB [a, b, c, fl] 1).length ≤ 8 * 4 := tellB_len 1 [a, b, c, fl]
        have h3 := HNm.out.2.2.2.2
        rw [List.length_take] at h1
        simp only [List.length_append, lineB, List.length_cons, List.length_nil]
        omega)
      obtain ⟨k0, cv, k1, hc, _⟩ := hat
      obtain ⟨⟨r, cc⟩, hre⟩ : ∃ f, fs.getD j zF = f := ⟨_, rfl⟩
      rw [hre] at hfj hokj HTk k0 hc
      simp only at hfj hokj k0 hc
      obtain ⟨r, rfl⟩ : ∃ m : Nat, r = m := ⟨r.toNat, by omega⟩
      obtain ⟨ac, ccap, rfl, _, _⟩ := hc.form
      have HFn := Lib.hid (fun (W : World) (h : Adds wr W) => mwfunc (n := n) lb (lineB ++ (tellB [a, b, c, fl] 1 ++ (fs.take j).flatMap funcB)) r _ cc W (HJ.out.1.adds h) ((HV.out.wid.low HJ.out.2.1 HGw.out).adds h) HGw.out HN.out (hc.below (h.mono (Nat.le_trans HN.out (Nat.le_of_lt HJ.out.1.lt)))) (by omega) hfj.2.1.2 (fun x hx => ⟨hfj.2.2 x hx, hokj x hx⟩) HSj.out)
      clear hc hfj hokj hre hmem hg hlt hj
      go_wp2_with (go_at_call 37; refine (HFn.out _ (adds_alloc _ _)).mono ?_; rintro e w6 ⟨rfl, q1, q2, q3⟩; have HQ1 := Lib.hid q1; have HQ2 := Lib.hid ((Below.mono (adds_alloc wr _) (Nat.le_of_lt HJ.out.1.lt)).trans q2); have HQ3 := Lib.hid ((Keeps.adds HJ.out.1.lt (adds_alloc wr _)).trans q3); clear q1 q2 q3)
      go_roundw
      case rel => exact ⟨j + 1, by go_num, HLt.out, Lib.hid ⟨by have h := HQ1.out; rw [HTk.out]; simpa only [List.append_assoc] using h, HJ.out.2.1.trans HQ2.out, HJ.out.2.2.trans HQ3.out⟩⟩
      case measure => simp [RowKit.intOf]; have := HLt.out; omega
    · have hje : j = fl := by omega
      have hltI : ¬ (j : Int) < (fl : Int) := by omega
      have HE := Lib.hid hje
      clear hlt hj hje
      obtain ⟨L, hLe⟩ : ∃ L, lineB ++ (tellB [a, b, c, fl] 1 ++ (fs.take j).flatMap funcB) = L := ⟨_, rfl⟩
      have HLe := Lib.hid (show lineB ++ (tellB [a, b, c, fl] 1 ++ fs.flatMap funcB) = L by rw [← hLe, HE.out, ← HFl.out, List.take_length])
      have HLl := Lib.hid (show L.length ≤ 1000000000 by
        have h1 := HSh.out j
        have h2 : (tellB [a, b, c, fl] 1).length ≤ 8 * 4 := tellB_len 1 [a, b, c, fl]
        have h3 := HNm.out.2.2.2.2
        have h4 := HE.out
        rw [List.length_take] at h1
        rw [← hLe]
        simp only [List.length_append, lineB, List.length_cons, List.length_nil]
        omega)
      have HJ1 := Lib.hid (show WAt lb wr L by rw [← hLe]; exact HJ.out.1)
      have HJ2 := Lib.hid HJ.out.2
      clear hLe HJ
      obtain ⟨v, hc, _, ho, _⟩ := HJ1.out
      have HBv := Lib.hid ho.bytes
      obtain ⟨va, vc, rfl, _⟩ := ho.bytes
      have HOf := Lib.hid (of_any (n := wr.heap.size) _ [L] _ (lists_1 wr _ L (Nat.le_refl _) HBv.out) (by simp) (by have := HLl.out; simp; omega))
      have HFL := Lib.hid (show ([L] : List (List UInt8)).flatten = L by simp)
      rw [HFL.out] at HOf
      clear ho
      go_wp2_with (first
        | (go_at_call 39; refine HOf.out.mono ?_; rintro e w7 ⟨rfl, a7⟩; have A7 := Lib.hid ((adds_alloc wr _).trans a7); clear a7; have HTS := Lib.hid (mtellS lb L (sumS L) w7 (HJ1.out.adds A7.out) ((HV.out.wid.low HJ2.out.1 HGw.out).adds A7.out) HGw.out (sumS_lt L) (by have := HLl.out; omega)))
        | (go_at_call 38; refine HTS.out.mono ?_; rintro e w8 ⟨rfl, q1, q2, q3⟩; have HQ1 := Lib.hid q1; have HQ2 := Lib.hid ((Below.mono A7.out (Nat.le_of_lt HJ1.out.lt)).trans q2); have HQ3 := Lib.hid ((Keeps.adds HJ1.out.lt A7.out).trans q3); clear q1 q2 q3 HTS))
      refine bodyPost_end (results_none rfl _ _ _) rfl ?_
      refine ⟨rfl, ?_, HJ2.out.1.trans HQ2.out, HJ2.out.2.trans HQ3.out⟩
      rw [HLe.out]
      exact HQ1.out
end Go.Proofs.YthhegcngkpfcoaaGreatDoor
namespace Go.Proofs.YthhegcngkpfcoaaGreatDoor
open Go Go.RowKit Go.Shelf Go.Lib

def BgPost (r : Nat ⊕ Int) (br : Nat) (v : Value) (w : World) (e : Ending) (w' : World) : Prop :=
  match r with
  | .inl k => e = .returned (.tuple #[]) ∧ BkS 68 w' br (rdC v k) ∧ TnS br w w'
  | .inr er => e = .panicked [{ v := .iface 70 (.int .i64 er), recovered := false }] ∧ TnS br w w'
theorem line_ix (j : Nat) (hj : j < 4) (W : World) : (Instr.index 85 (.agg #[.int .u8 108, .int .u8 105, .int .u8 110, .int .u8 101]) (.int .i64 (j : Int))).run Tryz.prog W = .ok (.int .u8 (((lineB.getD j 0).toNat : Nat) : Int)) W := by
  match j, hj with
  | 0, _ => show _ = _; kernel_rfl
  | 1, _ => show _ = _; kernel_rfl
  | 2, _ => show _ = _; kernel_rfl
  | 3, _ => show _ = _; kernel_rfl
theorem line_drop (j : Nat) (hj : j < 4) : lineB.drop j = lineB.getD j 0 :: lineB.drop (j + 1) := by
  match j, hj with
  | 0, _ => rfl
  | 1, _ => rfl
  | 2, _ => rfl
  | 3, _ => rfl
set_option maxRecDepth 100000 in
set_option maxHeartbeats 8000000 in
theorem mbeg {n : Nat} (br : Nat) (v : Value) (l : List UInt8) (k : Nat) (w : World) (h : RdOk n br v l k w) (hb : BegW w) :
    Calls Tryz.prog 43 #[.pointer (some ⟨br, 0, none⟩)] w (BgPost (begK l lineB k) br v w) := by
  have HR := Lib.hid h
  obtain ⟨rr, hrr⟩ : ∃ rr, begK l lineB k = rr := ⟨_, rfl⟩
  rw [hrr]
  have HRr := Lib.hid hrr
  have c0 := hb.c0; have c1 := hb.c1; have c2 := hb.c2; have c3 := hb.c3
  clear hrr h hb
  go_enter Tryz.func43, Tryz.ntmps43
  go_wp2
  go_loopw [5] (fun i wr => ∃ j : Nat, i = .int .i64 (j : Int) ∧ j ≤ 4 ∧ Hid (begK l (lineB.drop j) (k + j) = begK l lineB k) ∧ Hid (RdOk n br v l (k + j) wr ∧ TnS br w wr)) (fun i _ => 4 - (RowKit.intOf i).toNat)
  case atStart => exact ⟨0, rfl, Nat.zero_le _, Lib.hid rfl, Lib.hid ⟨HR.out, TnS.refl _ _⟩⟩
  case round =>
    obtain ⟨j, rfl, hj, HEq, HS⟩ := hrel
    by_cases hlt : j < 4
    · have hltI : (j : Int) < 4 := by omega
      have HLt := Lib.hid hlt
      have hix := fun W => line_ix j hlt W
      have hld := line_drop j hlt
      have hq := HEq.out
      rw [hld, begK, HRr.out] at hq
      obtain ⟨c, hc⟩ : ∃ c, lineB.getD j 0 = c := ⟨_, rfl⟩
      rw [hc] at hix hq
      by_cases hend : l.length < k + j + 1
      · rw [if_pos hend] at hq
        subst hq
        have HT := Lib.hid (mtake_no br v l (k + j) 1 wr HS.out.1.hv HS.out.1.hr HS.out.1.hk hend)
        clear hlt hj hld hc hend
        go_wp2_with (go_at_call 45; refine HT.out.mono ?_; rintro e w2 ⟨rfl, t2⟩; have T2 := Lib.hid (HS.out.2.trans t2); clear t2)
        exact ⟨rfl, rfl, T2.out⟩
      · rw [if_neg hend] at hq
        obtain ⟨v', hT, hb'⟩ := mtake_yes br v l (k + j) 1 wr HS.out.1.hv HS.out.1.hr (by omega)
        have hone : (l.drop (k + j)).take 1 = [l.getD (k + j) 0] := by
          rw [List.drop_eq_getElem_cons (by omega : k + j < l.length), List.take_succ_cons, List.take_zero, List.getD_eq_getElem?_getD, List.getElem?_eq_getElem (by omega : k + j < l.length)]
          rfl
        rw [hone] at hb'
        obtain ⟨bb, off, cap', rfl, _⟩ := one_byte hb'
        have HB' := Lib.hid hb'
        have HT := Lib.hid hT
        have HK := Lib.hid (show k + j + 1 ≤ l.length by omega)
        obtain ⟨y, hy⟩ : ∃ y, l.getD (k + j) 0 = y := ⟨_, rfl⟩
        rw [hy] at hq HB'
        clear hlt hj hc hend hT hb' hone hy
        by_cases hyc : y = c
        · rw [if_pos hyc] at hq
          have HQ := Lib.hid hq
          clear hq
          subst hyc
          go_wp2_with (go_at_call 45; refine HT.out.mono ?_; rintro e w2 ⟨rfl, r2, t2⟩; have S2 := Lib.hid (And.intro (HS.out.1.next t2 r2 HK.out) (HS.out.2.trans t2)); obtain ⟨_, _, _, e3, hcell⟩ := one_byte (HB'.out.below (t2.below8 HS.out.1.hn (by have := HS.out.1.hr.lt; have := HS.out.1.hn; omega))); simp only [Value.slice.injEq, Option.some.injEq, Addr.mk.injEq] at e3; obtain ⟨⟨rfl, rfl, _⟩, _⟩ := e3; clear r2 t2)
          go_roundw
          case rel => exact ⟨j + 1, by go_num, HLt.out, Lib.hid (by rw [HRr.out]; exact HQ.out), S2⟩
          case measure => simp [RowKit.intOf]; have := HLt.out; omega
        · rw [if_neg hyc] at hq
          subst hq
          have hne : ((y.toNat : Int) == (c.toNat : Int)) = false := by
            rw [beq_eq_false_iff_ne]; intro e; exact hyc (UInt8.toNat.inj (by omega))
          go_wp2_with (go_at_call 45; refine HT.out.mono ?_; rintro e w2 ⟨rfl, r2, t2⟩; have T2 := Lib.hid (HS.out.2.trans t2); obtain ⟨_, _, _, e3, hcell⟩ := one_byte (HB'.out.below (t2.below8 HS.out.1.hn (by have := HS.out.1.hr.lt; have := HS.out.1.hn; omega))); simp only [Value.slice.injEq, Option.some.injEq, Addr.mk.injEq] at e3; obtain ⟨⟨rfl, rfl, _⟩, _⟩ := e3; clear r2 t2)
          exact ⟨rfl, rfl, T2.out⟩
    · have hje : j = 4 := by omega
      have hltI : ¬ (j : Int) < 4 := by omega
      have hq := HEq.out
      rw [hje, HRr.out] at hq
      have hq : Sum.inl (k + 4) = rr := hq
      subst hq
      have HS2 := Lib.hid (show RdOk n br v l (k + 4) wr ∧ TnS br w wr by rw [← hje]; exact HS.out)
      clear hlt hj hje
      go_wp2
      refine bodyPost_end (results_none rfl _ _ _) rfl ?_
      exact ⟨rfl, HS2.out.1.hr, HS2.out.2⟩
end Go.Proofs.YthhegcngkpfcoaaGreatDoor
