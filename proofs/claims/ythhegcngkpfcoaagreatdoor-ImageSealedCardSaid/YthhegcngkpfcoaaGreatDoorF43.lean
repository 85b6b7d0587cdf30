/- Merged: M8, M10, G16, G17, G18, GS2. -/
import Derived.Test.YthhegcngkpfcoaaGreatDoorF20
import Derived.Test.YthhegcngkpfcoaaGreatDoorF25
import Derived.Test.YthhegcngkpfcoaaGreatDoorF8
import Derived.Test.YthhegcngkpfcoaaGreatDoorF6
import Derived.Test.YthhegcngkpfcoaaGreatDoorF41
namespace Go.Proofs.YthhegcngkpfcoaaGreatDoor
open Go Go.RowKit Go.Lib

/-- A row of words in a block. -/
def WordsAt (g : Nat) (w : World) (ns : List Nat) : Prop := ∀ j, j < ns.length → w.cell? ⟨g, j, none⟩ = some (.int .u64 ((ns.getD j 0 : Nat) : Int))
set_option maxRecDepth 100000 in
set_option maxHeartbeats 2000000 in
theorem mtellU (lb g : Nat) (l : List UInt8) (ns : List Nat) (wd : Nat) (w : World) (hl : WAt lb w l) (hw : Widths w) (hgw : 1 < lb) (hf : Far lb w g) (hrow : WordsAt g w ns) (hns : ∀ j, ns.getD j 0 < 18446744073709551616) (hlen : l.length + 8 * ns.length ≤ 140737488355328) :
    Calls Tryz.prog 38 #[putMv lb, .int .i64 (wd : Int), .slice (some ⟨g, 0, none⟩) ns.length ns.length] w fun e w' => e = .returned (.tuple #[]) ∧ WAt lb w' (l ++ tellB ns wd) ∧ Below lb w w' ∧ Keeps lb w w' := by
  have HL := Lib.hid hl; have HW := Lib.hid hw; have HGw := Lib.hid hgw; have HF := Lib.hid hf; have HRow := Lib.hid hrow; have HNs := Lib.hid hns; have HLen := Lib.hid hlen
  have hm : ns.length ≤ 17592186044416 := by omega
  clear hl hw hgw hf hrow hns hlen
  unfold putMv
  go_enter Tryz.func38, Tryz.ntmps38
  go_wp2
  go_loopw [12] (fun i wr => ∃ j : Nat, i = .int .i64 (j : Int) ∧ j ≤ ns.length ∧ Hid (WAt lb wr (l ++ tellB (ns.take j) wd) ∧ Below lb w wr ∧ Keeps lb w wr)) (fun i _ => ns.length - (RowKit.intOf i).toNat)
  case atStart => exact ⟨0, rfl, Nat.zero_le _, Lib.hid ⟨by simpa [tellB] using HL.out, Below.refl _ _, Keeps.refl _ _⟩⟩
  case round =>
    obtain ⟨j, rfl, hj, HJ⟩ := hrel
    by_cases hlt : j < ns.length
    · have hltI : (j : Int) < (ns.length : Int) := by omega
      have hc : wr.cell? ⟨g, j, none⟩ = some (.int .u64 ((ns.getD j 0 : Nat) : Int)) := by
        rw [← HRow.out j hlt]
        have h := (HJ.out.2.2 g HF.out).2
        unfold World.cell?
        rw [h]
      obtain ⟨x, hx⟩ : ∃ x, ns.getD j 0 = x := ⟨_, rfl⟩
      have HX := Lib.hid hx
      rw [hx] at hc
      have hx2 : x < 18446744073709551616 := by rw [← hx]; exact HNs.out j
      clear hx
      have HLj := Lib.hid (show (l ++ tellB (ns.take j) wd).length + (fixB x wd).length ≤ 140737488355328 by
        have h1 := tellB_len wd (ns.take j)
        have h2 := fixB_le8 x wd
        have h3 := HLen.out
        rw [List.length_take] at h1
        rw [List.length_append]
        omega)
      have HWr := Lib.hid (show Widths wr from HW.out.low HJ.out.2.1 HGw.out)
      have HFi := Lib.hid (fixed_any x (wd : Int) wr HWr.out)
      go_wp2_with (first
        | (go_at_call 61; refine HFi.out.mono ?_; rintro e w1 ⟨v1, rfl, o1, a1⟩; obtain ⟨ao1, cap1, e1, _⟩ := id o1.bytes; subst e1; have HO1 := Lib.hid o1; have HA1 := Lib.hid a1; clear o1 a1)
        | (go_at_call 35; refine (mput (n := w1.heap.size) lb w1.heap.size (l ++ tellB (ns.take j) wd) (fixB x wd) _ _ (HJ.out.1.adds (HA1.out.trans (adds_alloc _ _))) ((BkS.new 27 w1 [_]).cell 0) (HO1.out.bytes.below (adds_alloc _ _)) HLj.out).mono ?_; rintro e w3 ⟨rfl, q1, q2, q3⟩; have HQ1 := Lib.hid q1; have HQ2 := Lib.hid (((HA1.out.trans (adds_alloc w1 _)).mono (Nat.le_of_lt HJ.out.1.lt)).trans q2); have HQ3 := Lib.hid ((Keeps.adds HJ.out.1.lt (HA1.out.trans (adds_alloc _ _))).trans q3); clear q1 q2 q3))
      go_roundw
      case rel => exact ⟨j + 1, by go_num, hlt, Lib.hid ⟨by rw [tellB_take ns wd j hlt, ← List.append_assoc, HX.out]; exact HQ1.out, HJ.out.2.1.trans HQ2.out, HJ.out.2.2.trans HQ3.out⟩⟩
      case measure => simp [RowKit.intOf]; omega
    · have : j = ns.length := by omega
      subst this
      go_wp2
      refine bodyPost_end (results_none rfl _ _ _) rfl ?_
      have h := HJ.out
      rw [List.take_length] at h
      exact ⟨rfl, h⟩
end Go.Proofs.YthhegcngkpfcoaaGreatDoor
namespace Go.Proofs.YthhegcngkpfcoaaGreatDoor
open Go Go.RowKit Go.Lib Go.Shelf

theorem far_new {lb : Nat} {w W : World} {l : List UInt8} (hl : WAt lb w l) (ha : Adds w W) {g : Nat} (hg : w.heap.size ≤ g) (hgl : g < W.heap.size) : Far lb W g := by
  obtain ⟨v, hc, hf, ho, hlt⟩ := hl
  refine ⟨hgl, by omega, fun u hu e => ?_⟩
  rw [ha.cell (p := ⟨lb, 0, none⟩) hlt, hc] at hu
  cases hu
  have := (World.ownsRow.lt ho g e).2
  omega
theorem ints1 (w : World) (x : Nat) : IntsAt w.heap.size (w.alloc (.cells #[.int .i64 (x : Int)] 3)) [x] := by
  intro j hj
  obtain rfl : j = 0 := by simpa using hj
  exact (BkS.new 3 w [.int .i64 (x : Int)]).cell 0
theorem tell1 (x wd : Nat) : tellB [x] wd = fixB x wd := by simp [tellB]
theorem Keeps.bk {lb : Nat} {w w' : World} {t : TypeId} {b : Nat} {l : List Value} (h : Keeps lb w w') (hf : Far lb w b) (hb : BkS t w b l) : BkS t w' b l := (h b hf).2.trans hb
/-- tell of one int. -/
theorem mtell1 (lb : Nat) (l : List UInt8) (x wd : Nat) (w : World) (hl : WAt lb w l) (hw : Widths w) (hgw : 1 < lb) (hx : x < 9223372036854775808) (hlen : l.length + 8 ≤ 140737488355328) :
    Calls Tryz.prog 36 #[putMv lb, .int .i64 (wd : Int), .slice (some ⟨w.heap.size, 0, none⟩) 1 1] (w.alloc (.cells #[.int .i64 (x : Int)] 3)) fun e w' => e = .returned (.tuple #[]) ∧ WAt lb w' (l ++ fixB x wd) ∧ Below lb w w' ∧ Keeps lb w w' := by
  have A := adds_alloc w (.cells #[.int .i64 (x : Int)] 3)
  refine (mtellI lb w.heap.size l [x] wd _ (hl.adds A) (hw.adds A) hgw (far_new hl A (Nat.le_refl _) (by simp)) (ints1 w x) (fun j => ?_) (by simpa using hlen)).mono ?_
  · match j with
    | 0 => exact hx
    | j + 1 => simp
  · rintro e w' ⟨h1, h2, h3, h4⟩
    rw [tell1] at h2
    exact ⟨h1, h2, (Below.mono A (Nat.le_of_lt hl.lt)).trans h3, (Keeps.adds hl.lt A).trans h4⟩
theorem parts_le (k : Nat) : (partsN k).length ≤ 4 := by unfold partsN; split <;> simp
theorem bytesI_le (x : In) : (bytesI x).length ≤ 33 := by
  have h1 := bytesP_short (partsN x.1.toNat) x
  have h2 := parts_le x.1.toNat
  unfold bytesI
  rw [List.length_cons]
  omega
theorem flat_le33 : ∀ (c : List In), (c.flatMap bytesI).length ≤ c.length * 33
  | [] => by simp
  | x :: c => by have h1 := bytesI_le x; have h2 := flat_le33 c; simp only [List.flatMap_cons, List.length_append, List.length_cons, Nat.add_mul]; omega
theorem bytesI_take (c : List In) (j : Nat) (h : j < c.length) : (c.take (j + 1)).flatMap bytesI = (c.take j).flatMap bytesI ++ bytesI (c.getD j zI) := by
  rw [List.take_succ_eq_append_getElem h, List.flatMap_append]
  simp [List.getD, h]
theorem mem_getDzI (l : List In) (k : Nat) (h : k < l.length) : l.getD k zI ∈ l := mem_getDz l zI k h
set_option maxRecDepth 100000 in
set_option maxHeartbeats 4000000 in
theorem mwfunc {n : Nat} (lb : Nat) (l : List UInt8) (r : Nat) (cv : Value) (c : List In) (w : World) (hl : WAt lb w l) (hw : Widths w) (hgw : 1 < lb) (hn : n ≤ lb) (hc : CodeW n w cv c) (hr : r < 256) (hcl : c.length ≤ 512) (hm : ∀ x ∈ c, mayI x = true ∧ OkIn x) (hlen : l.length ≤ 1000000000) :
    Calls Tryz.prog 37 #[.pointer (some ⟨lb, 0, none⟩), .agg #[.int .i64 (r : Int), cv]] w fun e w' => e = .returned (.tuple #[]) ∧ WAt lb w' (l ++ funcB ((r : Int), c)) ∧ Below lb w w' ∧ Keeps lb w w' := by
  have HL := Lib.hid hl; have HW := Lib.hid hw; have HGw := Lib.hid hgw; have HC := Lib.hid hc; have HM := Lib.hid hm; have HLen := Lib.hid hlen; have HN := Lib.hid hn
  obtain ⟨ac, cc, rfl, h1, h2⟩ := hc.form
  obtain ⟨cl, hcle⟩ : ∃ cl, c.length = cl := ⟨_, rfl⟩
  have HCl := Lib.hid hcle
  rw [hcle] at hcl
  simp only [hcle] at HC ⊢
  have hclI : (cl : Int) ≤ 512 := by omega
  have HR := Lib.hid hr
  have HClb := Lib.hid hcl
  clear hl hw hgw hn hc h1 h2 hr hm hlen hcle
  obtain ⟨w1, hw1⟩ : ∃ w1, w.alloc (.cells #[.int .i64 (r : Int), .slice ac cl cc] 55) = w1 := ⟨_, rfl⟩
  have A1 := Lib.hid (show Adds w w1 by rw [← hw1]; exact (Gr.new _ _).adds)
  have B1 := Lib.hid (show BkS 55 w1 w.heap.size [.int .i64 (r : Int), .slice ac cl cc] by rw [← hw1]; exact BkS.new _ _ _)
  have L1 := Lib.hid (HL.out.adds A1.out)
  have F1 := Lib.hid (far_new HL.out A1.out (Nat.le_refl _) B1.out.lt)
  have b0 : w1.cell? ⟨w.heap.size, 0, none⟩ = some (.int .i64 (r : Int)) := B1.out.cell 0
  have HT1 := Lib.hid (mtell1 lb l r 1 w1 L1.out (HW.out.adds A1.out) HGw.out (by have := HR.out; omega) (by have := HLen.out; omega))
  have Q1 := Lib.hid (Keeps.adds HL.out.lt A1.out)
  go_enter Tryz.func37, Tryz.ntmps37
  go_wp2_with (first
    | (go_at_call 36; refine HT1.out.mono ?_; rintro e w3 ⟨rfl, l3, b3, k3⟩; have L3 := Lib.hid l3; have A3 := Lib.hid ((Below.mono A1.out (Nat.le_of_lt HL.out.lt)).trans b3); have B3 := Lib.hid (k3.bk F1.out B1.out); have F3 := Lib.hid (k3 _ F1.out).1; have K3 := Lib.hid (Q1.out.trans k3); have q1 : w3.cell? ⟨w.heap.size, 1, none⟩ = some (.slice ac cl cc) := B3.out.cell 1; clear l3 b3 k3 b0 HT1; have HT3 := Lib.hid (mtell1 lb _ cl 2 w3 L3.out (HW.out.low A3.out HGw.out) HGw.out (by have := HClb.out; omega) (by rw [List.length_append]; have := HLen.out; have := fixB_le8 r 1; omega)))
    | (go_at_call 36; refine HT3.out.mono ?_; rintro e w4 ⟨rfl, l4, b4, k4⟩; have L4 := Lib.hid l4; have A4 := Lib.hid (A3.out.trans b4); have B4 := Lib.hid (k4.bk F3.out B3.out); have K4 := Lib.hid (K3.out.trans k4); have q2 : w4.cell? ⟨w.heap.size, 1, none⟩ = some (.slice ac cl cc) := B4.out.cell 1; clear l4 b4 k4 q1 HT3))
  go_loopw [24] (fun i wr => ∃ j : Nat, i = .int .i64 (j : Int) ∧ j ≤ cl ∧ Hid (WAt lb wr (l ++ fixB r 1 ++ fixB cl 2 ++ (c.take j).flatMap bytesI) ∧ Below lb w wr ∧ Keeps lb w wr)) (fun i _ => cl - (RowKit.intOf i).toNat)
  case atStart => exact ⟨0, rfl, Nat.zero_le _, Lib.hid ⟨by simpa using L4.out, A4.out, K4.out⟩⟩
  case round =>
    obtain ⟨j, rfl, hj, HJ⟩ := hrel
    by_cases hlt : j < cl
    · have hltI : (j : Int) < (cl : Int) := by omega
      have HLt := Lib.hid hlt
      have hjc : j < c.length := by rw [HCl.out]; exact hlt
      obtain ⟨g2, off2, rfl, hg2, hx⟩ := (show CodeW n wr (.slice ac c.length cc) c by have h := HC.out.below (HJ.out.2.1.mono HN.out); rw [← HCl.out] at h; exact h).at (i := j) hjc
      have hmx := HM.out _ (mem_getDzI c j hjc)
      have HTk := Lib.hid (bytesI_take c j hjc)
      have HLj := Lib.hid (show (l ++ fixB r 1 ++ fixB cl 2 ++ (c.take j).flatMap bytesI).length + (bytesI (c.getD j zI)).length ≤ 140737488355328 by
        have h1 := flat_le33 (c.take j)
        have h2 := bytesI_le (c.getD j zI)
        have h3 := HLen.out
        have h4 : (fixB r 1).length ≤ 8 := fixB_le8 r 1
        have h5 : (fixB cl 2).length ≤ 8 := fixB_le8 cl 2
        have h6 := HClb.out
        rw [List.length_take] at h1
        simp only [List.length_append]
        omega)
      obtain ⟨x, hxe⟩ : ∃ x, c.getD j zI = x := ⟨_, rfl⟩
      rw [hxe] at hx hmx HTk HLj
      have HW0 := Lib.hid (HW.out.low HJ.out.2.1 HGw.out)
      have HBy := Lib.hid (fun (W : World) (h : Adds wr W) => bytes8_yes x hmx.2 hmx.1 W (HW0.out.adds h))
      obtain ⟨bx, hbx⟩ : ∃ bx, bytesI x = bx := ⟨_, rfl⟩
      rw [hbx] at HTk HLj HBy
      clear hbx hxe hmx hlt hj
      obtain ⟨xo, xa, xb, xc, xi⟩ := x
      obtain ⟨hx0, hx1, hx2, hx3, hx4⟩ := hx
      simp only at hx0 hx1 hx2 hx3 hx4
      go_wp2_with (first
        | (go_at_call 62; refine (HBy.out _ (adds_alloc _ _)).mono ?_; rintro e w5 ⟨v5, rfl, o5, a5⟩; obtain ⟨ao5, cap5, e5, _⟩ := id o5.bytes; subst e5; have HO5 := Lib.hid o5.bytes; have HA5 := Lib.hid ((adds_alloc wr _).trans a5); clear o5 a5)
        | (go_at_call 35; refine (mput (n := w5.heap.size) lb w5.heap.size _ bx _ _ (HJ.out.1.adds (HA5.out.trans (adds_alloc _ _))) ((BkS.new 27 w5 [_]).cell 0) (HO5.out.below (adds_alloc _ _)) HLj.out).mono ?_; rintro e w6 ⟨rfl, q1, q2, q3⟩; have HQ1 := Lib.hid q1; have HQ2 := Lib.hid (((HA5.out.trans (adds_alloc w5 _)).mono (Nat.le_of_lt HJ.out.1.lt)).trans q2); have HQ3 := Lib.hid ((Keeps.adds HJ.out.1.lt (HA5.out.trans (adds_alloc _ _))).trans q3); clear q1 q2 q3))
      go_roundw
      case rel => exact ⟨j + 1, by go_num, HLt.out, Lib.hid ⟨by rw [HTk.out, ← List.append_assoc]; exact HQ1.out, HJ.out.2.1.trans HQ2.out, HJ.out.2.2.trans HQ3.out⟩⟩
      case measure => simp [RowKit.intOf]; have := HLt.out; omega
    · have hje : j = cl := by omega
      have hltI : ¬ (j : Int) < (cl : Int) := by omega
      have HE := Lib.hid hje
      clear hlt hj hje
      go_wp2
      refine bodyPost_end (results_none rfl _ _ _) rfl ?_
      have h := HJ.out
      rw [HE.out, ← HCl.out, List.take_length] at h
      refine ⟨rfl, ?_, h.2⟩
      unfold funcB
      simp only [Int.toNat_natCast]
      rw [← List.append_assoc, ← List.append_assoc]
      exact h.1
end Go.Proofs.YthhegcngkpfcoaaGreatDoor
namespace Go.Proofs.YthhegcngkpfcoaaGreatDoor
open Go Go.RowKit Go.Shelf

theorem take_next {α : Type} (z : α) (a b : List α) (k : Nat) (h : a.take k = b.take k) (ha : k < a.length) (hb : k < b.length) (hx : a.getD k z = b.getD k z) : a.take (k + 1) = b.take (k + 1) := by
  rw [List.take_add_one, List.take_add_one, h]
  rw [List.getD_eq_getElem?_getD, List.getD_eq_getElem?_getD, List.getElem?_eq_getElem ha, List.getElem?_eq_getElem hb] at hx
  rw [List.getElem?_eq_getElem ha, List.getElem?_eq_getElem hb]
  simp only [Option.getD_some] at hx
  rw [hx]
end Go.Proofs.YthhegcngkpfcoaaGreatDoor
namespace Go.Proofs.YthhegcngkpfcoaaGreatDoor
open Go Go.RowKit Go.Shelf

/-- Are two lists of functions the same? -/
noncomputable def sameFs (fs gs : List Fu) : Bool := @decide (fs = gs) (Classical.propDecidable _)
theorem sameFs_yes {fs gs : List Fu} (h : fs = gs) : sameFs fs gs = true := by unfold sameFs; exact @decide_eq_true _ (Classical.propDecidable _) h
theorem sameFs_no {fs gs : List Fu} (h : ¬ fs = gs) : sameFs fs gs = false := by unfold sameFs; exact @decide_eq_false _ (Classical.propDecidable _) h
end Go.Proofs.YthhegcngkpfcoaaGreatDoor
namespace Go.Proofs.YthhegcngkpfcoaaGreatDoor
open Go Go.RowKit Go.Shelf

/-- Are two programs the same? -/
noncomputable def samePg (p q : Pg) : Bool := decide (p.2.1 = q.2.1 ∧ p.2.2.1 = q.2.2.1 ∧ p.2.2.2 = q.2.2.2) && sameFs p.1 q.1
end Go.Proofs.YthhegcngkpfcoaaGreatDoor
namespace Go.Proofs.YthhegcngkpfcoaaGreatDoor
open Go Go.RowKit Go.Shelf

theorem samePg_self (p : Pg) : samePg p p = true := by
  unfold samePg
  rw [sameFs_yes rfl]
  simp
theorem FuncsW.ok {n : Nat} {w : World} {v : Value} {fs : List Fu} (h : FuncsW n w v fs) : ∀ f ∈ fs, ∀ x ∈ f.2, OkIn x := by
  intro f hf
  obtain ⟨ao, cap, rfl, _, _, h3⟩ := h
  obtain ⟨g, off, _, _, hc⟩ := h3 (by rintro rfl; simp at hf)
  obtain ⟨i, hi, rfl⟩ := List.mem_iff_getElem.1 hf
  obtain ⟨_, _, _, _, hok⟩ := hc i hi
  rwa [List.getD_eq_getElem?_getD, List.getElem?_eq_getElem hi] at hok
theorem CopyO.adds {n : Nat} {w w' : World} {v : Value} {fs : List Fu} (h : CopyO n w v fs) (ha : Adds w w') : CopyO n w' v fs := by
  obtain ⟨r, h1, h2, h3⟩ := h
  exact ⟨r, h1.adds ha, h2, fun i hi => ⟨(h3 i hi).1, (h3 i hi).2.adds ha⟩⟩
/-- A copy that is written to: of the same lengths. -/
def ShapeW (B : Nat) (W : World) (v : Value) (fs : List Fu) : Prop :=
  ∃ r, RowO B W v r ∧ r.length = fs.length ∧ ∀ i, i < fs.length → ∃ zs, W.ownsRow B 59 5 (r.getD i zR).2 (fs.getD i zF).2.length zs
theorem ShapeW.adds {B : Nat} {W W' : World} {v : Value} {fs : List Fu} (h : ShapeW B W v fs) (ha : Adds W W') : ShapeW B W' v fs := by
  obtain ⟨r, h1, h2, h3⟩ := h
  exact ⟨r, h1.adds ha, h2, fun i hi => by obtain ⟨zs, hz⟩ := h3 i hi; exact ⟨zs, ownsRow_adds hz ha⟩⟩
theorem ShapeW.form {B : Nat} {W : World} {v : Value} {fs : List Fu} (h : ShapeW B W v fs) : ∃ ao cap, v = .slice ao fs.length cap ∧ cap ≤ maxLen ∧ (0 < fs.length → ∃ g, ao = some ⟨g, 0, none⟩) := by
  obtain ⟨r, h2, h3, _⟩ := h
  rcases h2.2 with ⟨rfl, h0⟩ | ⟨g, cap, cur, rfl, hg, hh, _, hm, _⟩
  · rw [h3] at h0
    rw [h0]
    exact ⟨none, 0, rfl, by simp [maxLen], fun h => absurd h (Nat.lt_irrefl 0)⟩
  · rw [h3]
    exact ⟨_, cap, rfl, hm, fun _ => ⟨g, rfl⟩⟩
theorem ShapeW.block {B : Nat} {W : World} {g cap : Nat} {fs : List Fu} (h : ShapeW B W (.slice (some ⟨g, 0, none⟩) fs.length cap) fs) : B ≤ g ∧ ∃ cur, W.heap[g]? = some (.cells cur 55 (0, 0)) := by
  obtain ⟨r, h2, h3, _⟩ := h
  rcases h2.2 with ⟨e, _⟩ | ⟨g', cap', cur, e, hg, hh, _⟩
  · cases e
  · simp only [Value.slice.injEq, Option.some.injEq, Addr.mk.injEq, and_true] at e
    obtain ⟨rfl, _⟩ := e
    exact ⟨hg, cur, hh⟩
/-- What stands of the i-th. -/
theorem ShapeW.at {B : Nat} {W : World} {g cap : Nat} {fs : List Fu} (h : ShapeW B W (.slice (some ⟨g, 0, none⟩) fs.length cap) fs) {i : Nat} (hi : i < fs.length) :
    ∃ x ah ch, W.cell? ⟨g, i * 2, none⟩ = some (.int .i64 x) ∧ W.frozen? ⟨g, i * 2, none⟩ = false ∧ W.cell? ⟨g, i * 2 + 1, none⟩ = some (.slice ah (fs.getD i zF).2.length ch) ∧
      ∀ k, k < (fs.getD i zF).2.length → ∃ b z, ah = some ⟨b, 0, none⟩ ∧ B ≤ b ∧ (∃ cur, W.heap[b]? = some (.cells cur 59 (0, 0))) ∧ W.cell? ⟨b, k * 5 + 1, none⟩ = some z ∧ W.frozen? ⟨b, k * 5 + 1, none⟩ = false := by
  obtain ⟨r, h2, h3, h4⟩ := h
  rw [← h3] at h2
  obtain ⟨k0, k1⟩ := h2.at (i := i) (by omega)
  obtain ⟨zs, hz⟩ := h4 i hi
  have hf := ownsRow_free h2 (i * 2)
  have hz' := hz
  rcases hz.2 with ⟨e, h0⟩ | ⟨b, ch, cur, e, hb, hh, _⟩
  · rw [e] at k1
    refine ⟨_, none, 0, k0, hf, by rw [h0]; exact k1, fun k hk => by omega⟩
  · rw [e] at k1 hz'
    refine ⟨_, _, ch, k0, hf, k1, fun k hk => ?_⟩
    have hl : k * 5 + 1 < zs.length := by rw [hz.1]; omega
    exact ⟨b, zs[k * 5 + 1], rfl, hb, ⟨cur, hh⟩, ownsRow_cell hz' _ (List.getElem?_eq_getElem hl), ownsRow_free hz' _⟩
theorem ShapeW.code {B : Nat} {W : World} {v : Value} {fs : List Fu} {b : Nat} {cur : Array Value} (h : ShapeW B W v fs) (hb : W.heap[b]? = some (.cells cur 59 (0, 0))) (j : Nat) (u : Value) : ShapeW B (W.setCell ⟨b, j, none⟩ u) v fs := by
  obtain ⟨r, h2, h3, h4⟩ := h
  refine ⟨r, ?_, h3, fun k hk => ?_⟩
  · refine ownsRow_setCell_other h2 (fun hv => ?_) u
    rcases h2.2 with ⟨rfl, _⟩ | ⟨g, cap, cur', rfl, _, hh, _⟩
    · cases hv
    · simp only [Value.ownBlock, Option.some.injEq] at hv
      subst hv
      rw [hh] at hb
      simp only [Option.some.injEq, Obj.cells.injEq] at hb
      exact absurd hb.2.1 (by decide)
  · obtain ⟨zs, hz⟩ := h4 k hk
    exact ownsRow_any hz b j u
end Go.Proofs.YthhegcngkpfcoaaGreatDoor
