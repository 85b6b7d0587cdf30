/- Merged: G16, G17, G18, GS2, M10, M11. -/
import Derived.Test.YtfclclckcjjnkaaGreatDoorGMem
import Derived.Test.YtfclclckcjjnkaaGreatDoorIEq
import Derived.Test.YtfclclckcjjnkaaGreatDoorGCM
import Derived.Test.YtfclclckcjjnkaaGreatDoorMWr
import Derived.Test.YtfclclckcjjnkaaGreatDoorMPQ
import Derived.Test.YtfclclckcjjnkaaGreatDoorDAA
namespace Go.Proofs.YtfclclckcjjnkaaGreatDoor
open Go Go.RowKit Go.Shelf

theorem take_next {α : Type} (z : α) (a b : List α) (k : Nat) (h : a.take k = b.take k) (ha : k < a.length) (hb : k < b.length) (hx : a.getD k z = b.getD k z) : a.take (k + 1) = b.take (k + 1) := by
  rw [List.take_add_one, List.take_add_one, h]
  rw [List.getD_eq_getElem?_getD, List.getD_eq_getElem?_getD, List.getElem?_eq_getElem ha, List.getElem?_eq_getElem hb] at hx
  rw [List.getElem?_eq_getElem ha, List.getElem?_eq_getElem hb]
  simp only [Option.getD_some] at hx
  rw [hx]
def sameF (f g : Fu) : Bool := decide (f.1 = g.1) && decide (f.2 = g.2)
theorem sameF_iff {f g : Fu} : sameF f g = true ↔ f = g := by
  obtain ⟨a, b⟩ := f
  obtain ⟨c, d⟩ := g
  simp [sameF]
end Go.Proofs.YtfclclckcjjnkaaGreatDoor
namespace Go.Proofs.YtfclclckcjjnkaaGreatDoor
open Go Go.RowKit Go.Shelf

/-- Are two lists of functions the same? -/
noncomputable def sameFs (fs gs : List Fu) : Bool := @decide (fs = gs) (Classical.propDecidable _)
theorem sameFs_yes {fs gs : List Fu} (h : fs = gs) : sameFs fs gs = true := by unfold sameFs; exact @decide_eq_true _ (Classical.propDecidable _) h
theorem sameFs_no {fs gs : List Fu} (h : ¬ fs = gs) : sameFs fs gs = false := by unfold sameFs; exact @decide_eq_false _ (Classical.propDecidable _) h
end Go.Proofs.YtfclclckcjjnkaaGreatDoor
namespace Go.Proofs.YtfclclckcjjnkaaGreatDoor
open Go Go.RowKit Go.Shelf

/-- Are two programs the same? -/
noncomputable def samePg (p q : Pg) : Bool := decide (p.2.1 = q.2.1 ∧ p.2.2.1 = q.2.2.1 ∧ p.2.2.2 = q.2.2.2) && sameFs p.1 q.1
end Go.Proofs.YtfclclckcjjnkaaGreatDoor
namespace Go.Proofs.YtfclclckcjjnkaaGreatDoor
open Go Go.RowKit Go.Shelf

theorem samePg_comm (p q : Pg) : samePg q p = samePg p q := by
  unfold samePg
  congr 1
  · exact decide_eq_decide.2 ⟨fun h => ⟨h.1.symm, h.2.1.symm, h.2.2.symm⟩, fun h => ⟨h.1.symm, h.2.1.symm, h.2.2.symm⟩⟩
  · by_cases h : p.1 = q.1
    · rw [sameFs_yes h, sameFs_yes h.symm]
    · rw [sameFs_no h, sameFs_no (fun e => h e.symm)]
theorem samePg_self (p : Pg) : samePg p p = true := by
  unfold samePg
  rw [sameFs_yes rfl]
  simp
theorem FuncsW.ok {n : Nat} {w : World} {v : Value} {fs : List Fu} (h : FuncsW n w v fs) : ∀ f ∈ fs, ∀ x ∈ f.2, OkIn x := by
  intro f hf
  obtain ⟨ao, cap, rfl, _, _, h3⟩ := h
  obtain ⟨g, off, _, _, hc⟩ := h3 (by rintro rfl; simp at hf)
  obtain ⟨i, hi, rfl⟩ := List.mem_iff_getElem.1 hf
  obtain ⟨_, _, _, _, hok⟩ := hc i hi
  rwa [List.getD_eq_getElem?_getD, List.getElem?_eq_getElem hi] at hok
theorem CopyO.adds {n : Nat} {w w' : World} {v : Value} {fs : List Fu} (h : CopyO n w v fs) (ha : Adds w w') : CopyO n w' v fs := by
  obtain ⟨r, h1, h2, h3⟩ := h
  exact ⟨r, h1.adds ha, h2, fun i hi => ⟨(h3 i hi).1, (h3 i hi).2.adds ha⟩⟩
/-- A copy that is written to: of the same lengths. -/
def ShapeW (B : Nat) (W : World) (v : Value) (fs : List Fu) : Prop :=
  ∃ r, RowO B W v r ∧ r.length = fs.length ∧ ∀ i, i < fs.length → ∃ zs, W.ownsRow B 82 5 (r.getD i zR).2 (fs.getD i zF).2.length zs
theorem CopyO.shape {B : Nat} {W : World} {v : Value} {fs : List Fu} (h : CopyO B W v fs) : ShapeW B W v fs := by
  obtain ⟨r, h1, h2, h3⟩ := h
  exact ⟨r, h1, h2, fun i hi => ⟨_, (h3 i hi).2⟩⟩
theorem ShapeW.adds {B : Nat} {W W' : World} {v : Value} {fs : List Fu} (h : ShapeW B W v fs) (ha : Adds W W') : ShapeW B W' v fs := by
  obtain ⟨r, h1, h2, h3⟩ := h
  exact ⟨r, h1.adds ha, h2, fun i hi => by obtain ⟨zs, hz⟩ := h3 i hi; exact ⟨zs, ownsRow_adds hz ha⟩⟩
theorem ShapeW.form {B : Nat} {W : World} {v : Value} {fs : List Fu} (h : ShapeW B W v fs) : ∃ ao cap, v = .slice ao fs.length cap ∧ cap ≤ maxLen ∧ (0 < fs.length → ∃ g, ao = some ⟨g, 0, none⟩) := by
  obtain ⟨r, h2, h3, _⟩ := h
  rcases h2.2 with ⟨rfl, h0⟩ | ⟨g, cap, cur, rfl, hg, hh, _, hm, _⟩
  · rw [h3] at h0
    rw [h0]
    exact ⟨none, 0, rfl, by simp [maxLen], fun h => absurd h (Nat.lt_irrefl 0)⟩
  · rw [h3]
    exact ⟨_, cap, rfl, hm, fun _ => ⟨g, rfl⟩⟩
theorem ShapeW.block {B : Nat} {W : World} {g cap : Nat} {fs : List Fu} (h : ShapeW B W (.slice (some ⟨g, 0, none⟩) fs.length cap) fs) : B ≤ g ∧ ∃ cur, W.heap[g]? = some (.cells cur 78 (0, 0)) := by
  obtain ⟨r, h2, h3, _⟩ := h
  rcases h2.2 with ⟨e, _⟩ | ⟨g', cap', cur, e, hg, hh, _⟩
  · cases e
  · simp only [Value.slice.injEq, Option.some.injEq, Addr.mk.injEq, and_true] at e
    obtain ⟨rfl, _⟩ := e
    exact ⟨hg, cur, hh⟩
/-- What stands of the i-th. -/
theorem ShapeW.at {B : Nat} {W : World} {g cap : Nat} {fs : List Fu} (h : ShapeW B W (.slice (some ⟨g, 0, none⟩) fs.length cap) fs) {i : Nat} (hi : i < fs.length) :
    ∃ x ah ch, W.cell? ⟨g, i * 2, none⟩ = some (.int .i64 x) ∧ W.frozen? ⟨g, i * 2, none⟩ = false ∧ W.cell? ⟨g, i * 2 + 1, none⟩ = some (.slice ah (fs.getD i zF).2.length ch) ∧
      ∀ k, k < (fs.getD i zF).2.length → ∃ b z, ah = some ⟨b, 0, none⟩ ∧ B ≤ b ∧ (∃ cur, W.heap[b]? = some (.cells cur 82 (0, 0))) ∧ W.cell? ⟨b, k * 5 + 1, none⟩ = some z ∧ W.frozen? ⟨b, k * 5 + 1, none⟩ = false := by
  obtain ⟨r, h2, h3, h4⟩ := h
  rw [← h3] at h2
  obtain ⟨k0, k1⟩ := h2.at (i := i) (by omega)
  obtain ⟨zs, hz⟩ := h4 i hi
  have hf := ownsRow_free h2 (i * 2)
  have hz' := hz
  rcases hz.2 with ⟨e, h0⟩ | ⟨b, ch, cur, e, hb, hh, _⟩
  · rw [e] at k1
    refine ⟨_, none, 0, k0, hf, by rw [h0]; exact k1, fun k hk => by omega⟩
  · rw [e] at k1 hz'
    refine ⟨_, _, ch, k0, hf, k1, fun k hk => ?_⟩
    have hl : k * 5 + 1 < zs.length := by rw [hz.1]; omega
    exact ⟨b, zs[k * 5 + 1], rfl, hb, ⟨cur, hh⟩, ownsRow_cell hz' _ (List.getElem?_eq_getElem hl), ownsRow_free hz' _⟩
theorem ShapeW.regs {B : Nat} {W : World} {g cap : Nat} {fs : List Fu} (h : ShapeW B W (.slice (some ⟨g, 0, none⟩) fs.length cap) fs) (i : Nat) (x : Int) : ShapeW B (W.setCell ⟨g, i * 2, none⟩ (.int .i64 x)) (.slice (some ⟨g, 0, none⟩) fs.length cap) fs := by
  obtain ⟨r, h2, h3, h4⟩ := h
  refine ⟨r.set i (x, (r.getD i zR).2), ?_, by simpa using h3, fun k hk => ?_⟩
  · unfold RowO at h2 ⊢
    rw [h3] at h2
    have h := ownsRow_set h2 (i * 2 + 0) (.int .i64 x)
    rw [flat_set fuC 2 fuC_len r i 0 (by decide) (.int .i64 x) (x, (r.getD i zR).2) (fun y hy => by rw [List.getD_eq_getElem?_getD, hy]; rfl)] at h
    rw [List.length_set, h3]
    exact h
  · obtain ⟨zs, hz⟩ := h4 k hk
    have e : ((r.set i (x, (r.getD i zR).2)).getD k zR).2 = (r.getD k zR).2 := by
      simp only [List.getD_eq_getElem?_getD]
      by_cases hik : i = k
      · subst hik
        rw [List.getElem?_set_self (by omega), List.getElem?_eq_getElem (by omega)]; rfl
      · rw [List.getElem?_set_ne hik]
    rw [e]
    exact ⟨zs, ownsRow_setCell_other hz (ownsRow_ne h2 hz (by decide) g rfl) _⟩
theorem ShapeW.code {B : Nat} {W : World} {v : Value} {fs : List Fu} {b : Nat} {cur : Array Value} (h : ShapeW B W v fs) (hb : W.heap[b]? = some (.cells cur 82 (0, 0))) (j : Nat) (u : Value) : ShapeW B (W.setCell ⟨b, j, none⟩ u) v fs := by
  obtain ⟨r, h2, h3, h4⟩ := h
  refine ⟨r, ?_, h3, fun k hk => ?_⟩
  · refine ownsRow_setCell_other h2 (fun hv => ?_) u
    rcases h2.2 with ⟨rfl, _⟩ | ⟨g, cap, cur', rfl, _, hh, _⟩
    · cases hv
    · simp only [Value.ownBlock, Option.some.injEq] at hv
      subst hv
      rw [hh] at hb
      simp only [Option.some.injEq, Obj.cells.injEq] at hb
      exact absurd hb.2.1 (by decide)
  · obtain ⟨zs, hz⟩ := h4 k hk
    exact ownsRow_any hz b j u
end Go.Proofs.YtfclclckcjjnkaaGreatDoor
namespace Go.Proofs.YtfclclckcjjnkaaGreatDoor
open Go Go.RowKit Go.Lib Go.Shelf

theorem far_new {lb : Nat} {w W : World} {l : List UInt8} (hl : WAt lb w l) (ha : Adds w W) {g : Nat} (hg : w.heap.size ≤ g) (hgl : g < W.heap.size) : Far lb W g := by
  obtain ⟨v, hc, hf, ho, hlt⟩ := hl
  refine ⟨hgl, by omega, fun u hu e => ?_⟩
  rw [ha.cell (p := ⟨lb, 0, none⟩) hlt, hc] at hu
  cases hu
  have := (World.ownsRow.lt ho g e).2
  omega
theorem ints1 (w : World) (x : Nat) : IntsAt w.heap.size (w.alloc (.cells #[.int .i64 (x : Int)] 3)) [x] := by
  intro j hj
  obtain rfl : j = 0 := by simpa using hj
  exact (BkS.new 3 w [.int .i64 (x : Int)]).cell 0
theorem tell1 (x wd : Nat) : tellB [x] wd = fixB x wd := by simp [tellB]
theorem Keeps.bk {lb : Nat} {w w' : World} {t : TypeId} {b : Nat} {l : List Value} (h : Keeps lb w w') (hf : Far lb w b) (hb : BkS t w b l) : BkS t w' b l := (h b hf).2.trans hb
/-- tell of one int. -/
theorem mtell1 (lb : Nat) (l : List UInt8) (x wd : Nat) (w : World) (hl : WAt lb w l) (hw : Widths w) (hgw : 1 < lb) (hx : x < 9223372036854775808) (hlen : l.length + 8 ≤ 140737488355328) :
    Calls Tryz.prog 73 #[putMv lb, .int .i64 (wd : Int), .slice (some ⟨w.heap.size, 0, none⟩) 1 1] (w.alloc (.cells #[.int .i64 (x : Int)] 3)) fun e w' => e = .returned (.tuple #[]) ∧ WAt lb w' (l ++ fixB x wd) ∧ Below lb w w' ∧ Keeps lb w w' := by
  have A := adds_alloc w (.cells #[.int .i64 (x : Int)] 3)
  refine (mtellI lb w.heap.size l [x] wd _ (hl.adds A) (hw.adds A) hgw (far_new hl A (Nat.le_refl _) (by simp)) (ints1 w x) (fun j => ?_) (by simpa using hlen)).mono ?_
  · match j with
    | 0 => exact hx
    | j + 1 => simp
  · rintro e w' ⟨h1, h2, h3, h4⟩
    rw [tell1] at h2
    exact ⟨h1, h2, (Below.mono A (Nat.le_of_lt hl.lt)).trans h3, (Keeps.adds hl.lt A).trans h4⟩
theorem parts_le (k : Nat) : (partsN k).length ≤ 4 := by unfold partsN; split <;> simp
theorem bytesI_le (x : In) : (bytesI x).length ≤ 33 := by
  have h1 := bytesP_short (partsN x.1.toNat) x
  have h2 := parts_le x.1.toNat
  unfold bytesI
  rw [List.length_cons]
  omega
theorem flat_le33 : ∀ (c : List In), (c.flatMap bytesI).length ≤ c.length * 33
  | [] => by simp
  | x :: c => by have h1 := bytesI_le x; have h2 := flat_le33 c; simp only [List.flatMap_cons, List.length_append, List.length_cons, Nat.add_mul]; omega
theorem bytesI_take (c : List In) (j : Nat) (h : j < c.length) : (c.take (j + 1)).flatMap bytesI = (c.take j).flatMap bytesI ++ bytesI (c.getD j zI) := by
  rw [List.take_succ_eq_append_getElem h, List.flatMap_append]
  simp [List.getD, h]
theorem mem_getDzI (l : List In) (k : Nat) (h : k < l.length) : l.getD k zI ∈ l := mem_getDz l zI k h
set_option maxRecDepth 100000 in
set_option maxHeartbeats 4000000 in
theorem mwfunc {n : Nat} (lb : Nat) (l : List UInt8) (r : Nat) (cv : Value) (c : List In) (w : World) (hl : WAt lb w l) (hw : Widths w) (hgw : 1 < lb) (hn : n ≤ lb) (hc : CodeW n w cv c) (hr : r < 256) (hcl : c.length ≤ 512) (hm : ∀ x ∈ c, mayI x = true ∧ OkIn x) (hlen : l.length ≤ 1000000000) :
    Calls Tryz.prog 74 #[.pointer (some ⟨lb, 0, none⟩), .agg #[.int .i64 (r : Int), cv]] w fun e w' => e = .returned (.tuple #[]) ∧ WAt lb w' (l ++ funcB ((r : Int), c)) ∧ Below lb w w' ∧ Keeps lb w w' := by
  have HL := Lib.hid hl; have HW := Lib.hid hw; have HGw := Lib.hid hgw; have HC := Lib.hid hc; have HM := Lib.hid hm; have HLen := Lib.hid hlen; have HN := Lib.hid hn
  obtain ⟨ac, cc, rfl, h1, h2⟩ := hc.form
  obtain ⟨cl, hcle⟩ : ∃ cl, c.length = cl := ⟨_, rfl⟩
  have HCl := Lib.hid hcle
  rw [hcle] at hcl
  simp only [hcle] at HC ⊢
  have hclI : (cl : Int) ≤ 512 := by omega
  have HR := Lib.hid hr
  have HClb := Lib.hid hcl
  clear hl hw hgw hn hc h1 h2 hr hm hlen hcle
  obtain ⟨w1, hw1⟩ : ∃ w1, w.alloc (.cells #[.int .i64 (r : Int), .slice ac cl cc] 78) = w1 := ⟨_, rfl⟩
  have A1 := Lib.hid (show Adds w w1 by rw [← hw1]; exact (Gr.new _ _).adds)
  have B1 := Lib.hid (show BkS 78 w1 w.heap.size [.int .i64 (r : Int), .slice ac cl cc] by rw [← hw1]; exact BkS.new _ _ _)
  have L1 := Lib.hid (HL.out.adds A1.out)
  have F1 := Lib.hid (far_new HL.out A1.out (Nat.le_refl _) B1.out.lt)
  have b0 : w1.cell? ⟨w.heap.size, 0, none⟩ = some (.int .i64 (r : Int)) := B1.out.cell 0
  have HT1 := Lib.hid (mtell1 lb l r 1 w1 L1.out (HW.out.adds A1.out) HGw.out (by have := HR.out; omega) (by have := HLen.out; omega))
  have Q1 := Lib.hid (Keeps.adds HL.out.lt A1.out)
  go_enter Tryz.func74, Tryz.ntmps74
  go_wp2_with (first
    | (go_at_call 73; refine HT1.out.mono ?_; rintro e w3 ⟨rfl, l3, b3, k3⟩; have L3 := Lib.hid l3; have A3 := Lib.hid ((Below.mono A1.out (Nat.le_of_lt HL.out.lt)).trans b3); have B3 := Lib.hid (k3.bk F1.out B1.out); have F3 := Lib.hid (k3 _ F1.out).1; have K3 := Lib.hid (Q1.out.trans k3); have q1 : w3.cell? ⟨w.heap.size, 1, none⟩ = some (.slice ac cl cc) := B3.out.cell 1; clear l3 b3 k3 b0 HT1; have HT3 := Lib.hid (mtell1 lb _ cl 2 w3 L3.out (HW.out.low A3.out HGw.out) HGw.out (by have := HClb.out; omega) (by rw [List.length_append]; have := HLen.out; have := fixB_le8 r 1; omega)))
    | (go_at_call 73; refine HT3.out.mono ?_; rintro e w4 ⟨rfl, l4, b4, k4⟩; have L4 := Lib.hid l4; have A4 := Lib.hid (A3.out.trans b4); have B4 := Lib.hid (k4.bk F3.out B3.out); have K4 := Lib.hid (K3.out.trans k4); have q2 : w4.cell? ⟨w.heap.size, 1, none⟩ = some (.slice ac cl cc) := B4.out.cell 1; clear l4 b4 k4 q1 HT3))
  go_loopw [24] (fun i wr => ∃ j : Nat, i = .int .i64 (j : Int) ∧ j ≤ cl ∧ Hid (WAt lb wr (l ++ fixB r 1 ++ fixB cl 2 ++ (c.take j).flatMap bytesI) ∧ Below lb w wr ∧ Keeps lb w wr)) (fun i _ => cl - (RowKit.intOf i).toNat)
  case atStart => exact ⟨0, rfl, Nat.zero_le _, Lib.hid ⟨by simpa using L4.out, A4.out, K4.out⟩⟩
  case round =>
    obtain ⟨j, rfl, hj, HJ⟩ := hrel
    by_cases hlt : j < cl
    · have hltI : (j : Int) < (cl : Int) := by omega
      have HLt := Lib.hid hlt
      have hjc : j < c.length := by rw [HCl.out]; exact hlt
      obtain ⟨g2, off2, rfl, hg2, hx⟩ := (show CodeW n wr (.slice ac c.length cc) c by have h := HC.out.below (HJ.out.2.1.mono HN.out); rw [← HCl.out] at h; exact h).at (i := j) hjc
      have hmx := HM.out _ (mem_getDzI c j hjc)
      have HTk := Lib.hid (bytesI_take c j hjc)
      have HLj := Lib.hid (show (l ++ fixB r 1 ++ fixB cl 2 ++ (c.take j).flatMap bytesI).length + (bytesI (c.getD j zI)).length ≤ 140737488355328 by
        have h1 := flat_le33 (c.take j)
        have h2 := bytesI_le (c.getD j zI)
        have h3 := HLen.out
        have h4 : (fixB r 1).length ≤ 8 := fixB_le8 r 1
        have h5 : (fixB cl 2).length ≤ 8 := fixB_le8 cl 2
        have h6 := HClb.out
        rw [List.length_take] at h1
        simp only [List.length_append]
        omega)
      obtain ⟨x, hxe⟩ : ∃ x, c.getD j zI = x := ⟨_, rfl⟩
      rw [hxe] at hx hmx HTk HLj
      have HW0 := Lib.hid (HW.out.low HJ.out.2.1 HGw.out)
      have HBy := Lib.hid (fun (W : World) (h : Adds wr W) => bytes8_yes x hmx.2 hmx.1 W (HW0.out.adds h))
      obtain ⟨bx, hbx⟩ : ∃ bx, bytesI x = bx := ⟨_, rfl⟩
      rw [hbx] at HTk HLj HBy
      clear hbx hxe hmx hlt hj
      obtain ⟨xo, xa, xb, xc, xi⟩ := x
      obtain ⟨hx0, hx1, hx2, hx3, hx4⟩ := hx
      simp only at hx0 hx1 hx2 hx3 hx4
      go_wp2_with (first
        | (go_at_call 120; refine (HBy.out _ (adds_alloc _ _)).mono ?_; rintro e w5 ⟨v5, rfl, o5, a5⟩; obtain ⟨ao5, cap5, e5, _⟩ := id o5.bytes; subst e5; have HO5 := Lib.hid o5.bytes; have HA5 := Lib.hid ((adds_alloc wr _).trans a5); clear o5 a5)
        | (go_at_call 72; refine (mput (n := w5.heap.size) lb w5.heap.size _ bx _ _ (HJ.out.1.adds (HA5.out.trans (adds_alloc _ _))) ((BkS.new 27 w5 [_]).cell 0) (HO5.out.below (adds_alloc _ _)) HLj.out).mono ?_; rintro e w6 ⟨rfl, q1, q2, q3⟩; have HQ1 := Lib.hid q1; have HQ2 := Lib.hid (((HA5.out.trans (adds_alloc w5 _)).mono (Nat.le_of_lt HJ.out.1.lt)).trans q2); have HQ3 := Lib.hid ((Keeps.adds HJ.out.1.lt (HA5.out.trans (adds_alloc _ _))).trans q3); clear q1 q2 q3))
      go_roundw
      case rel => exact ⟨j + 1, by go_num, HLt.out, Lib.hid ⟨by rw [HTk.out, ← List.append_assoc]; exact HQ1.out, HJ.out.2.1.trans HQ2.out, HJ.out.2.2.trans HQ3.out⟩⟩
      case measure => simp [RowKit.intOf]; have := HLt.out; omega
    · have hje : j = cl := by omega
      have hltI : ¬ (j : Int) < (cl : Int) := by omega
      have HE := Lib.hid hje
      clear hlt hj hje
      go_wp2
      refine bodyPost_end (results_none rfl _ _ _) rfl ?_
      have h := HJ.out
      rw [HE.out, ← HCl.out, List.take_length] at h
      refine ⟨rfl, ?_, h.2⟩
      unfold funcB
      simp only [Int.toNat_natCast]
      rw [← List.append_assoc, ← List.append_assoc]
      exact h.1
end Go.Proofs.YtfclclckcjjnkaaGreatDoor
namespace Go.Proofs.YtfclclckcjjnkaaGreatDoor
open Go Go.RowKit Go.Lib Go.Shelf

/-- The bytes with which an image begins, as they lie in the variable. -/
structure BegW (w : World) : Prop where
  c0 : w.cell? ⟨0, 0, none⟩ = some (.int .u8 108)
  c1 : w.cell? ⟨0, 1, none⟩ = some (.int .u8 105)
  c2 : w.cell? ⟨0, 2, none⟩ = some (.int .u8 110)
  c3 : w.cell? ⟨0, 3, none⟩ = some (.int .u8 101)
theorem BegW.low {n : Nat} {w w' : World} (h : BegW w) (hb : Below n w w') (hg : 0 < n) : BegW w' :=
  ⟨(hb.cell (p := ⟨_, 0, none⟩) hg).trans h.c0, (hb.cell (p := ⟨_, 1, none⟩) hg).trans h.c1, (hb.cell (p := ⟨_, 2, none⟩) hg).trans h.c2, (hb.cell (p := ⟨_, 3, none⟩) hg).trans h.c3⟩
theorem BegW.adds {w w' : World} (h : BegW w) (ha : Adds w w') : BegW w' := h.low ha (World.block_lt_of_cell? w _ h.c0)
/-- The variables that the package reads. -/
structure MVars (w : World) : Prop where
  wid : Widths w
  beg : BegW w
theorem MVars.adds {w w' : World} (h : MVars w) (ha : Adds w w') : MVars w' := ⟨h.wid.adds ha, h.beg.adds ha⟩
theorem MVars.lt {w : World} (h : MVars w) : 1 < w.heap.size ∧ 0 < w.heap.size := ⟨World.block_lt_of_cell? w _ h.wid.c0, World.block_lt_of_cell? w _ h.beg.c0⟩
theorem bytes_line {n : Nat} {w : World} {g : Nat} {t : TypeId} (hg : g < n) (h : BkS t w g [.int .u8 108, .int .u8 105, .int .u8 110, .int .u8 101]) : Bytes n w (.slice (some ⟨g, 0, none⟩) 4 4) lineB := by
  refine ⟨_, 4, rfl, by decide, by decide, fun _ => ⟨g, 0, rfl, hg, fun i hi => ?_⟩⟩
  have hi : i < 4 := hi
  rw [Nat.zero_add, h.cell i]
  match i, hi with
  | 0, _ => rfl
  | 1, _ => rfl
  | 2, _ => rfl
  | 3, _ => rfl
theorem ints4 (w : World) (a b c d : Nat) : IntsAt w.heap.size (w.alloc (.cells #[.int .i64 (a : Int), .int .i64 (b : Int), .int .i64 (c : Int), .int .i64 (d : Int)] 3)) [a, b, c, d] := by
  intro j hj
  have h := BkS.new 3 w [.int .i64 (a : Int), .int .i64 (b : Int), .int .i64 (c : Int), .int .i64 (d : Int)]
  have hj : j < 4 := hj
  match j, hj with
  | 0, _ => exact h.cell 0
  | 1, _ => exact h.cell 1
  | 2, _ => exact h.cell 2
  | 3, _ => exact h.cell 3
theorem words1 (w : World) (x : Nat) : WordsAt w.heap.size (w.alloc (.cells #[.int .u64 (x : Int)] 95)) [x] := by
  intro j hj
  obtain rfl : j = 0 := by simpa using hj
  exact (BkS.new 95 w [.int .u64 (x : Int)]).cell 0
/-- tell of four ints. -/
theorem mtell4 (lb : Nat) (l : List UInt8) (a b c d : Nat) (w : World) (hl : WAt lb w l) (hw : Widths w) (hgw : 1 < lb) (ha : a < 256) (hb : b < 256) (hc : c < 256) (hd : d < 256) (hlen : l.length + 32 ≤ 140737488355328) :
    Calls Tryz.prog 73 #[putMv lb, .int .i64 1, .slice (some ⟨w.heap.size, 0, none⟩) 4 4] (w.alloc (.cells #[.int .i64 (a : Int), .int .i64 (b : Int), .int .i64 (c : Int), .int .i64 (d : Int)] 3)) fun e w' => e = .returned (.tuple #[]) ∧ WAt lb w' (l ++ tellB [a, b, c, d] 1) ∧ Below lb w w' ∧ Keeps lb w w' := by
  have A := adds_alloc w (.cells #[.int .i64 (a : Int), .int .i64 (b : Int), .int .i64 (c : Int), .int .i64 (d : Int)] 3)
  refine (mtellI lb w.heap.size l [a, b, c, d] 1 _ (hl.adds A) (hw.adds A) hgw (far_new hl A (Nat.le_refl _) (by simp)) (ints4 w a b c d) (fun j => ?_) (by simpa using hlen)).mono ?_
  · match j with
    | 0 => show a < _; omega
    | 1 => show b < _; omega
    | 2 => show c < _; omega
    | 3 => show d < _; omega
    | j + 4 => simp
  · rintro e w' ⟨h1, h2, h3, h4⟩
    exact ⟨h1, h2, (Below.mono A (Nat.le_of_lt hl.lt)).trans h3, (Keeps.adds hl.lt A).trans h4⟩
/-- tell of one word. -/
theorem mtellS (lb : Nat) (l : List UInt8) (x : Nat) (w : World) (hl : WAt lb w l) (hw : Widths w) (hgw : 1 < lb) (hx : x < 18446744073709551616) (hlen : l.length + 8 ≤ 140737488355328) :
    Calls Tryz.prog 75 #[putMv lb, .int .i64 8, .slice (some ⟨w.heap.size, 0, none⟩) 1 1] (w.alloc (.cells #[.int .u64 (x : Int)] 95)) fun e w' => e = .returned (.tuple #[]) ∧ WAt lb w' (l ++ fixB x 8) ∧ Below lb w w' ∧ Keeps lb w w' := by
  have A := adds_alloc w (.cells #[.int .u64 (x : Int)] 95)
  refine (mtellU lb w.heap.size l [x] 8 _ (hl.adds A) (hw.adds A) hgw (far_new hl A (Nat.le_refl _) (by simp)) (words1 w x) (fun j => ?_) (by simpa using hlen)).mono ?_
  · match j with
    | 0 => exact hx
    | j + 1 => simp
  · rintro e w' ⟨h1, h2, h3, h4⟩
    rw [tell1] at h2
    exact ⟨h1, h2, (Below.mono A (Nat.le_of_lt hl.lt)).trans h3, (Keeps.adds hl.lt A).trans h4⟩
theorem funcB_take (fs : List Fu) (j : Nat) (h : j < fs.length) : (fs.take (j + 1)).flatMap funcB = (fs.take j).flatMap funcB ++ funcB (fs.getD j zF) := by
  rw [List.take_succ_eq_append_getElem h, List.flatMap_append]
  simp [List.getD, h]
theorem funcB_le (f : Fu) (h : f.2.length ≤ 512) : (funcB f).length ≤ 17000 := by
  have h1 := flat_le33 f.2
  have h2 : (fixB f.1.toNat 1).length ≤ 8 := fixB_le8 f.1.toNat 1
  have h3 : (fixB f.2.length 2).length ≤ 8 := fixB_le8 f.2.length 2
  unfold funcB
  simp only [List.length_append]
  omega
theorem funcsB_le : ∀ (fs : List Fu), (∀ f ∈ fs, f.2.length ≤ 512) → (fs.flatMap funcB).length ≤ fs.length * 17000
  | [], _ => by simp
  | f :: fs, h => by have h1 := funcB_le f (h f (by simp)); have h2 := funcsB_le fs (fun g hg => h g (by simp [hg])); simp only [List.flatMap_cons, List.length_append, List.length_cons, Nat.add_mul]; omega
set_option maxRecDepth 100000 in
set_option maxHeartbeats 4000000 in
theorem mwimage {n : Nat} (lb : Nat) (u : Value) (p : Pg) (w : World) (hl : WAt lb w []) (hv : MVars w) (hgw : 1 < lb) (hn : n ≤ lb) (hf : FuncsW n w u p.1) (hF : Fine p) :
    Calls Tryz.prog 40 #[.pointer (some ⟨lb, 0, none⟩), pgV u p] w fun e w' => e = .returned (.tuple #[]) ∧ WAt lb w' (imageB p) ∧ Below lb w w' ∧ Keeps lb w w' := by
  obtain ⟨fs, x1, x2, x3⟩ := p
  obtain ⟨n0, n1, n2, n3, hfs⟩ := hF
  simp only at hf n0 n1 n2 n3 hfs ⊢
  obtain ⟨a, rfl⟩ : ∃ m : Nat, x1 = m := ⟨x1.toNat, by omega⟩
  obtain ⟨b, rfl⟩ : ∃ m : Nat, x2 = m := ⟨x2.toNat, by omega⟩
  obtain ⟨c, rfl⟩ : ∃ m : Nat, x3 = m := ⟨x3.toNat, by omega⟩
  have HOk := Lib.hid hf.ok
  have HL := Lib.hid hl; have HV := Lib.hid hv; have HGw := Lib.hid hgw; have HN := Lib.hid hn; have HFs := Lib.hid hfs; have HF := Lib.hid hf
  have HB := Lib.hid (show bareB (fs, (a : Int), (b : Int), (c : Int)) = lineB ++ (tellB [a, b, c, fs.length] 1 ++ fs.flatMap funcB) from rfl)
  have HNm := Lib.hid (show a < 256 ∧ b < 256 ∧ c < 256 ∧ fs.length < 256 ∧ fs.length ≤ 32 by omega)
  have HSh := Lib.hid (fun j => funcsB_le (fs.take j) (fun f hf => (hfs f (List.mem_of_mem_take hf)).2.1.2))
  obtain ⟨ao, cap, rfl, h1, h2, _⟩ := hf
  obtain ⟨fl, hfl⟩ : ∃ fl, fs.length = fl := ⟨_, rfl⟩
  have HFl := Lib.hid hfl
  have hfI : (fl : Int) ≤ 32 := by omega
  simp only [hfl] at HF HB HNm ⊢
  unfold imageB
  rw [HB.out]
  have c0 := hv.beg.c0; have c1 := hv.beg.c1; have c2 := hv.beg.c2; have c3 := hv.beg.c3
  clear hl hgw hn hfs n0 n1 n2 n3 h1 h2 hfl
  obtain ⟨w1, hw1⟩ : ∃ w1, w.alloc (.cells #[.slice ao fl cap, .int .i64 (a : Int), .int .i64 (b : Int), .int .i64 (c : Int)] 24) = w1 := ⟨_, rfl⟩
  have A1 := Lib.hid (show Adds w w1 by rw [← hw1]; exact (Gr.new _ _).adds)
  have B1 := Lib.hid (show BkS 24 w1 w.heap.size [.slice ao fl cap, .int .i64 (a : Int), .int .i64 (b : Int), .int .i64 (c : Int)] by rw [← hw1]; exact BkS.new _ _ _)
  have HS1 := Lib.hid (show w1.heap.size = w.heap.size + 1 by rw [← hw1]; simp)
  have d0 := (hv.beg.adds A1.out).c0; have d1 := (hv.beg.adds A1.out).c1; have d2 := (hv.beg.adds A1.out).c2; have d3 := (hv.beg.adds A1.out).c3
  clear hv c0 c1 c2 c3
  obtain ⟨w2, hw2⟩ : ∃ w2, w1.alloc (.cells #[.int .u8 108, .int .u8 105, .int .u8 110, .int .u8 101] 130) = w2 := ⟨_, rfl⟩
  have A2 := Lib.hid (show Adds w w2 by rw [← hw2]; exact A1.out.trans (Gr.new _ _).adds)
  have B2 := Lib.hid (show BkS 130 w2 w1.heap.size [.int .u8 108, .int .u8 105, .int .u8 110, .int .u8 101] by rw [← hw2]; exact BkS.new _ _ _)
  have C2 := Lib.hid (B1.out.adds (show Adds w1 w2 by rw [← hw2]; exact (Gr.new _ _).adds))
  have F2 := Lib.hid (far_new HL.out A2.out (Nat.le_refl _) C2.out.lt)
  have K2 := Lib.hid (Keeps.adds HL.out.lt A2.out)
  have HP := Lib.hid (mput (n := w2.heap.size) lb w2.heap.size [] lineB (.slice (some ⟨w1.heap.size, 0, none⟩) 4 4) _ ((HL.out.adds A2.out).adds (adds_alloc w2 (.cells #[.slice (some ⟨w1.heap.size, 0, none⟩) 4 4] 27))) ((BkS.new 27 w2 [_]).cell 0) ((bytes_line B2.out.lt B2.out).below (adds_alloc _ _)) (by decide))
  go_enter Tryz.func40, Tryz.ntmps40
  go_wp2_with (first
    | (go_at_call 72; refine HP.out.mono ?_; rintro e w3 ⟨rfl, l3, b3, k3⟩; have a3 := adds_alloc w2 (.cells #[.slice (some ⟨w1.heap.size, 0, none⟩) 4 4] 27); have k23 := (Keeps.adds (HL.out.adds A2.out).lt a3).trans k3; have L3 := Lib.hid l3; have A3 := Lib.hid ((Below.mono A2.out (Nat.le_of_lt HL.out.lt)).trans ((Below.mono a3 (Nat.le_of_lt (HL.out.adds A2.out).lt)).trans b3)); have B3 := Lib.hid (k23.bk F2.out C2.out); have F3 := Lib.hid (k23 _ F2.out).1; have K3 := Lib.hid (K2.out.trans k23); have q0 : w3.cell? ⟨w.heap.size, 0, none⟩ = some (.slice ao fl cap) := B3.out.cell 0; have q1 : w3.cell? ⟨w.heap.size, 1, none⟩ = some (.int .i64 (a : Int)) := B3.out.cell 1; have q2 : w3.cell? ⟨w.heap.size, 2, none⟩ = some (.int .i64 (b : Int)) := B3.out.cell 2; have q3 : w3.cell? ⟨w.heap.size, 3, none⟩ = some (.int .i64 (c : Int)) := B3.out.cell 3; clear l3 b3 k3 k23 a3 HP; have HT4 := Lib.hid (mtell4 lb _ a b c fl w3 L3.out (HV.out.wid.low A3.out HGw.out) HGw.out HNm.out.1 HNm.out.2.1 HNm.out.2.2.1 HNm.out.2.2.2.1 (by simp [lineB])))
    | (go_at_call 73; refine HT4.out.mono ?_; rintro e w4 ⟨rfl, l4, b4, k4⟩; have L4 := Lib.hid l4; have A4 := Lib.hid (A3.out.trans b4); have B4 := Lib.hid (k4.bk F3.out B3.out); have K4 := Lib.hid (K3.out.trans k4); have r0 : w4.cell? ⟨w.heap.size, 0, none⟩ = some (.slice ao fl cap) := B4.out.cell 0; clear l4 b4 k4 q0 q1 q2 q3 HT4))
  go_loopw [28] (fun i wr => ∃ j : Nat, i = .int .i64 (j : Int) ∧ j ≤ fl ∧ Hid (WAt lb wr (lineB ++ (tellB [a, b, c, fl] 1 ++ (fs.take j).flatMap funcB)) ∧ Below lb w wr ∧ Keeps lb w wr)) (fun i _ => fl - (RowKit.intOf i).toNat)
  case atStart => exact ⟨0, rfl, Nat.zero_le _, Lib.hid ⟨by simpa using L4.out, A4.out, K4.out⟩⟩
  case round =>
    obtain ⟨j, rfl, hj, HJ⟩ := hrel
    by_cases hlt : j < fl
    · have hltI : (j : Int) < (fl : Int) := by omega
      have HLt := Lib.hid hlt
      have hjc : j < fs.length := by rw [HFl.out]; exact hlt
      obtain ⟨g, off, rfl, hg, hat⟩ := (show FuncsW n wr (.slice ao fs.length cap) fs by have h := HF.out.below (HJ.out.2.1.mono HN.out); rw [← HFl.out] at h; exact h).at (i := j) hjc
      have hmem : fs.getD j zF ∈ fs := by rw [List.getD_eq_getElem?_getD, List.getElem?_eq_getElem hjc]; exact List.getElem_mem hjc
      have hfj := HFs.out _ hmem
      have hokj := HOk.out _ hmem
      have HTk := Lib.hid (funcB_take fs j hjc)
      have HSj := Lib.hid (show (lineB ++ (tellB [a, b, c, fl] 1 ++ (fs.take j).flatMap funcB)).length ≤ 1000000000 by
        have h1 := HSh.out j
        have h2 : (tellB [a, b, c, fl] 1).length ≤ 8 * 4 := tellB_len 1 [a, b, c, fl]
        have h3 := HNm.out.2.2.2.2
        rw [List.length_take] at h1
        simp only [List.length_append, lineB, List.length_cons, List.length_nil]
        omega)
      obtain ⟨k0, cv, k1, hc, _⟩ := hat
      obtain ⟨⟨r, cc⟩, hre⟩ : ∃ f, fs.getD j zF = f := ⟨_, rfl⟩
      rw [hre] at hfj hokj HTk k0 hc
      simp only at hfj hokj k0 hc
      obtain ⟨r, rfl⟩ : ∃ m : Nat, r = m := ⟨r.toNat, by omega⟩
      obtain ⟨ac, ccap, rfl, _, _⟩ := hc.form
      have HFn := Lib.hid (fun (W : World) (h : Adds wr W) => mwfunc (n := n) lb (lineB ++ (tellB [a, b, c, fl] 1 ++ (fs.take j).flatMap funcB)) r _ cc W (HJ.out.1.adds h) ((HV.out.wid.low HJ.out.2.1 HGw.out).adds h) HGw.out HN.out (hc.below (h.mono (Nat.le_trans HN.out (Nat.le_of_lt HJ.out.1.lt)))) (by omega) hfj.2.1.2 (fun x hx => ⟨hfj.2.2 x hx, hokj x hx⟩) HSj.out)
      clear hc hfj hokj hre hmem hg hlt hj
      go_wp2_with (go_at_call 74; refine (HFn.out _ (adds_alloc _ _)).mono ?_; rintro e w6 ⟨rfl, q1, q2, q3⟩; have HQ1 := Lib.hid q1; have HQ2 := Lib.hid ((Below.mono (adds_alloc wr _) (Nat.le_of_lt HJ.out.1.lt)).trans q2); have HQ3 := Lib.hid ((Keeps.adds HJ.out.1.lt (adds_alloc wr _)).trans q3); clear q1 q2 q3)
      go_roundw
      case rel => exact ⟨j + 1, by go_num, HLt.out, Lib.hid ⟨by have h := HQ1.out; rw [HTk.out]; simpa only [List.append_assoc] using h, HJ.out.2.1.trans HQ2.out, HJ.out.2.2.trans HQ3.out⟩⟩
      case measure => simp [RowKit.intOf]; have := HLt.out; omega
    · have hje : j = fl := by omega
      have hltI : ¬ (j : Int) < (fl : Int) := by omega
      have HE := Lib.hid hje
      clear hlt hj hje
      obtain ⟨L, hLe⟩ : ∃ L, lineB ++ (tellB [a, b, c, fl] 1 ++ (fs.take j).flatMap funcB) = L := ⟨_, rfl⟩
      have HLe := Lib.hid (show lineB ++ (tellB [a, b, c, fl] 1 ++ fs.flatMap funcB) = L by rw [← hLe, HE.out, ← HFl.out, List.take_length])
      have HLl := Lib.hid (show L.length ≤ 1000000000 by
        have h1 := HSh.out j
        have h2 : (tellB [a, b, c, fl] 1).length ≤ 8 * 4 := tellB_len 1 [a, b, c, fl]
        have h3 := HNm.out.2.2.2.2
        have h4 := HE.out
        rw [List.length_take] at h1
        rw [← hLe]
        simp only [List.length_append, lineB, List.length_cons, List.length_nil]
        omega)
      have HJ1 := Lib.hid (show WAt lb wr L by rw [← hLe]; exact HJ.out.1)
      have HJ2 := Lib.hid HJ.out.2
      clear hLe HJ
      obtain ⟨v, hc, _, ho, _⟩ := HJ1.out
      have HBv := Lib.hid ho.bytes
      obtain ⟨va, vc, rfl, _⟩ := ho.bytes
      have HOf := Lib.hid (of_any (n := wr.heap.size) _ [L] _ (lists_1 wr _ L (Nat.le_refl _) HBv.out) (by simp) (by have := HLl.out; simp; omega))
      have HFL := Lib.hid (show ([L] : List (List UInt8)).flatten = L by simp)
      rw [HFL.out] at HOf
      clear ho
      go_wp2_with (first
        | (go_at_call 76; refine HOf.out.mono ?_; rintro e w7 ⟨rfl, a7⟩; have A7 := Lib.hid ((adds_alloc wr _).trans a7); clear a7; have HTS := Lib.hid (mtellS lb L (sumS L) w7 (HJ1.out.adds A7.out) ((HV.out.wid.low HJ2.out.1 HGw.out).adds A7.out) HGw.out (sumS_lt L) (by have := HLl.out; omega)))
        | (go_at_call 75; refine HTS.out.mono ?_; rintro e w8 ⟨rfl, q1, q2, q3⟩; have HQ1 := Lib.hid q1; have HQ2 := Lib.hid ((Below.mono A7.out (Nat.le_of_lt HJ1.out.lt)).trans q2); have HQ3 := Lib.hid ((Keeps.adds HJ1.out.lt A7.out).trans q3); clear q1 q2 q3 HTS))
      refine bodyPost_end (results_none rfl _ _ _) rfl ?_
      refine ⟨rfl, ?_, HJ2.out.1.trans HQ2.out, HJ2.out.2.trans HQ3.out⟩
      rw [HLe.out]
      exact HQ1.out
end Go.Proofs.YtfclclckcjjnkaaGreatDoor
