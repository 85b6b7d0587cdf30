/- Merged: Z34, GFew, Z30, Z18. -/
import Derived.Test.YtdkgehhlikaocaaGreatY27
import Derived.Test.YtdkgehhlikaocaaGreatY29
import Derived.Test.YtdkgehhlikaocaaGreatY30
import Derived.Test.YtdkgehhlikaocaaGreatY31
import Derived.Test.YtdkgehhlikaocaaGreatY6
import Derived.Test.YtdkgehhlikaocaaGreatY5
namespace Go.Proofs.YtdkgehhlikaocaaGreat
open Go Go.RowKit Go.Shelf

theorem GoodS.may {p : Pg} {L : List Fr} (h : GoodS p L) (hl : L.length ≤ 1000000) : MayCopy p L := by
  refine ⟨h.ok, by have := h.fine.n0; omega, fun f hf => by have := (h.fine.fs f hf).2.1; omega, fun x hx => ?_, hl⟩
  obtain ⟨a, b, c⟩ := h.fr x hx
  have := (h.fine.fs _ (getD_memF a)).1
  refine ⟨fun e => ?_, by omega⟩
  have h0 : x.2.2.2.length = 0 := by rw [e]; rfl
  omega
theorem ok_of_check {p : Pg} (h : checkP p = 0) : ∀ f ∈ p.1, ∀ i ∈ f.2, OkIn i := by
  intro f hf i hi
  have hm := ((fine_of h).fs f hf).2.2 i hi
  have hf := op_facts hm (Int.le_refl _)
  have h1 := hf.op
  refine ⟨?_, hf.im⟩
  have e1 : IntKind.i64.min = -9223372036854775808 := by decide
  have e2 : IntKind.i64.max = 9223372036854775807 := by decide
  simp [Lit.wf, e1, e2]
  omega
theorem atP_top {p : Pg} {L : List Fr} {x : Fr} (h : GoodS p (L ++ [x])) : atP p.1 (x.1 : Int) (x.2.1 : Int) = (insT p x, 0) := by
  obtain ⟨a, b, _⟩ := h.top
  unfold atP hasB
  simp only [Int.toNat_natCast]
  rw [decide_eq_true (by omega), decide_eq_true (by omega)]
  rfl
/-- A law under way: a live stack, and the start in a box. -/
structure HoldSt (w : World) (n b : Nat) (p : Pg) (X : List Value) (W : World) (L : List Fr) (res : UInt32) : Prop where
  pile : PileP 73 n W b p L res
  good : GoodS p L
  adds : Adds w W
  box : BkS 27 W w.heap.size X
  hn : n ≤ W.heap.size
  hw : w.heap.size < n
section
variable {w W W' : World} {n b : Nat} {p : Pg} {X : List Value} {L : List Fr} {res : UInt32}
theorem HoldSt.more (h : HoldSt w n b p X W L res) (ha : Adds W W') : HoldSt w n b p X W' L res := ⟨h.pile.adds ha, h.good, h.adds.trans ha, h.box.adds ha, Nat.le_trans h.hn ha.size, h.hw⟩
theorem HoldSt.low (h : HoldSt w n b p X W L res) {q : List Fr} {r : UInt32} (hl : Low n W W') (hp : PileP 73 n W' b p q r) (hg : GoodS p q) : HoldSt w n b p X W' q r :=
  ⟨hp, hg, Below.trans h.adds (Below.less hl.b (Nat.le_of_lt h.hw)), hl.k _ _ _ (by unfold pileT; decide) h.box, Nat.le_trans h.hn hl.b.size, h.hw⟩
theorem HoldSt.stk (h : HoldSt w n b p X W L res) : StkO n W (.pointer (some ⟨b, 0, none⟩)) p L res := .inr ⟨b, rfl, h.pile⟩
theorem HoldSt.ne (h : HoldSt w n b p X W L res) : p.1.length ≠ 0 := by have := h.good.fine.n0; omega
/-- What one call leaves. -/
def CallE (w : World) (n b : Nat) (p : Pg) (X : List Value) (q : List Fr × UInt32 × Int) (W : World) (e : Ending) (W' : World) : Prop :=
  e = .returned (.int .i64 q.2.2) ∧ HoldSt w n b p X W' q.1 q.2.1 ∧ (q.2.2 ≠ 0 → Adds W W')
theorem HoldSt.step (h : HoldSt w n b p X W L res) (hl : L.length < 1000000) (most : Int) (q : List Fr × UInt32 × Int) (hq : stepP p L res most = q) :
    Calls Tryz.prog 14 #[.pointer (some ⟨b, 0, none⟩), .int .i64 most] W (CallE w n b p X q W) := by
  refine (StepS_live h.pile (h.good.stands hl) h.ne most q hq).mono ?_
  rintro e W' ⟨he, h1, h2⟩
  have hk := hq ▸ stepP_ok h.good res most
  refine ⟨he, ?_, h2⟩
  by_cases h0 : q.2.2 = 0
  · exact h.low (h1 h0).2 (h1 h0).1 hk.good
  · obtain ⟨e1, e2⟩ := hk.no h0
    rw [e1, e2]
    exact h.more (h2 h0)
theorem HoldSt.pass (h : HoldSt w n b p X W L res) (hl : L.length < 1000000) (reg : Int) (u : UInt32) (q : List Fr × UInt32 × Int) (hq : passP p L res reg u = q) :
    Calls Tryz.prog 15 #[.pointer (some ⟨b, 0, none⟩), .int .i64 reg, .int .u32 (u.toNat : Nat)] W (CallE w n b p X q W) := by
  refine (PassS_live h.pile (h.good.stands hl) h.ne reg u q hq).mono ?_
  rintro e W' ⟨he, h1, h2⟩
  have hk := hq ▸ passP_ok h.good res reg u 0
  refine ⟨he, ?_, h2⟩
  by_cases h0 : q.2.2 = 0
  · exact h.low (h1 h0).2 (h1 h0).1 hk.good
  · obtain ⟨e1, e2⟩ := hk.no h0
    rw [e1, e2]
    exact h.more (h2 h0)
end
end Go.Proofs.YtdkgehhlikaocaaGreat
namespace Go.Proofs.YtdkgehhlikaocaaGreat
open Go Go.RowKit Go.Shelf

end Go.Proofs.YtdkgehhlikaocaaGreat
namespace Go.Proofs.YtdkgehhlikaocaaGreat
open Go Go.RowKit Go.Shelf

/-- The sum of the codes' lengths, as an int that wraps. -/
def zW (l : List Fu) : Int := l.foldl (fun z f => wrap64 (z + (f.2.length : Int))) 0
theorem zW_next (l : List Fu) (k : Nat) (h : k < l.length) : zW (l.take (k + 1)) = wrap64 (zW (l.take k) + ((l.getD k zF).2.length : Int)) := by
  unfold zW
  rw [List.take_add_one, List.getElem?_eq_getElem h, List.getD_eq_getElem?_getD, List.getElem?_eq_getElem h, List.foldl_append]
  rfl
def fewV (l : List Fu) : Bool := decide (l.length ≤ 40) && decide (zW l ≤ 600)
set_option maxRecDepth 100000 in
set_option maxHeartbeats 8000000 in
theorem few12_any {m : Nat} (u : Value) (p : Pg) (w : World) (hf : FuncsW m w u p.1) : Calls Tryz.prog 19 #[pgV u p] w fun e w' => e = .returned (.bool (fewV p.1)) ∧ Adds w w' := by
  obtain ⟨fs, x1, x2, x3⟩ := p
  have HF := Lib.hid hf.here
  obtain ⟨ao, cap, rfl, h1, h2, _⟩ := hf
  unfold maxLen at h2
  obtain ⟨fl, hfl⟩ : ∃ fl, fs.length = fl := ⟨_, rfl⟩
  have HFl := Lib.hid hfl
  simp only [hfl] at HF h1 ⊢
  have hfI : (fl : Int) ≤ 9223372036854775807 := by omega
  clear hfl h1 h2
  obtain ⟨w1, hw1⟩ : ∃ w1, w.alloc (.cells #[.slice ao fl cap, .int .i64 x1, .int .i64 x2, .int .i64 x3] 24) = w1 := ⟨_, rfl⟩
  have A1 := Lib.hid (show Adds w w1 by rw [← hw1]; exact (Gr.new _ _).adds)
  have B1 := Lib.hid (show BkS 24 w1 w.heap.size [.slice ao fl cap, .int .i64 x1, .int .i64 x2, .int .i64 x3] by rw [← hw1]; exact BkS.new _ _ _)
  have b0 : w1.cell? ⟨w.heap.size, 0, none⟩ = some (.slice ao fl cap) := B1.out.cell 0
  go_enter Tryz.func19, Tryz.ntmps19
  go_wp2
  go_loop [3, 4] (fun n i => ∃ (z : Int) (k : Nat), n = .int .i64 z ∧ i = .int .i64 k ∧ k ≤ 40 ∧ k ≤ fl ∧ Hid (z = zW (fs.take k))) (fun _ i => 41 - (intOf i).toNat)
  case atStart => exact ⟨0, 0, rfl, rfl, by omega, by omega, Lib.hid rfl⟩
  case round =>
    obtain ⟨z, k, rfl, rfl, hk40, hkl, HZ⟩ := hrel
    by_cases hlt : k < fl
    · have hltI : (k : Int) < (fl : Int) := by omega
      by_cases h40 : k < 40
      · have h40I : (k : Int) < 40 := by omega
        obtain ⟨g, off, rfl, hg, hat⟩ := (show FuncsW w.heap.size w (.slice ao fs.length cap) fs by have h := HF.out; rw [← HFl.out] at h; exact h).at (i := k) (by rw [HFl.out]; exact hlt)
        obtain ⟨k0, c, k1, hc, _⟩ := hat
        obtain ⟨ac, cc, rfl, _, _⟩ := hc.form
        obtain ⟨cl, hcl⟩ : ∃ cl, (fs.getD k zF).2.length = cl := ⟨_, rfl⟩
        have HCl := Lib.hid hcl
        rw [hcl] at k1
        clear hcl
        have k2 : w1.cell? ⟨g, off + k * 2 + 1, none⟩ = some (.slice ac cl cc) := A1.out.cellAt k1
        clear hc k0 k1
        go_wp2
        go_round
        case rel => exact ⟨_, k + 1, rfl, by go_num, by omega, by omega, Lib.hid (by rw [zW_next fs k (by rw [HFl.out]; exact hlt), HCl.out, HZ.out])⟩
        case measure => simp [intOf]; omega
      · have h40I : ¬ (k : Int) < 40 := by omega
        have hfmI : ¬ (fl : Int) ≤ 40 := by omega
        have HV := Lib.hid (show fewV fs = false by unfold fewV; rw [HFl.out, decide_eq_false (by omega)]; rfl)
        go_wp2
        go_ret
        rw [HV.out]
        exact ⟨rfl, A1.out⟩
    · have hltI : ¬ (k : Int) < (fl : Int) := by omega
      by_cases hfm : fl ≤ 40
      · have hfmI : (fl : Int) ≤ 40 := by omega
        have HV := Lib.hid (show fewV fs = decide (z ≤ 600) by unfold fewV; rw [HFl.out, decide_eq_true hfm, HZ.out, List.take_of_length_le (by rw [HFl.out]; omega)]; rfl)
        go_wp2
        go_ret
        rw [HV.out]
        exact ⟨rfl, A1.out⟩
      · exfalso; omega
abbrev startV (u : Value) (p : Pg) (f : Int) (a : Value) : Value := .agg #[u, .int .i64 p.2.1, .int .i64 p.2.2.1, .int .i64 p.2.2.2, .int .i64 f, a]
set_option maxRecDepth 100000 in
theorem small12_any {m : Nat} (u : Value) (p : Pg) (w : World) (hf : FuncsW m w u p.1) (f : Int) (ao : Option Addr) (len cap : Nat) (hc : cap ≤ maxLen) (hlc : len ≤ cap) : Calls Tryz.prog 5 #[startV u p f (.slice ao len cap)] w fun e w' => e = .returned (.bool (fewV p.1 && decide (len ≤ 20))) ∧ Adds w w' := by
  have HF := Lib.hid (fun W (hW : Adds w W) => few12_any u p W (hf.adds hW))
  obtain ⟨fs, x1, x2, x3⟩ := p
  obtain ⟨ap, cp, rfl, _, _, _⟩ := hf
  simp only at HF ⊢
  generalize fs.length = fl at *
  obtain ⟨b, hb⟩ : ∃ b, fewV fs = b := ⟨_, rfl⟩
  rw [hb] at HF ⊢
  clear hb
  obtain ⟨d, hd⟩ : ∃ d, decide (len ≤ 20) = d := ⟨_, rfl⟩
  have hdI : decide ((len : Int) ≤ 20) = d := by rw [← hd]; simp only [decide_eq_decide]; omega
  rw [hd]
  clear hd
  have hlI : (len : Int) ≤ 9223372036854775807 := by unfold maxLen at hc; omega
  clear hc hlc
  obtain ⟨w1, hw1⟩ : ∃ w1, w.alloc (.cells #[.slice ap fl cp, .int .i64 x1, .int .i64 x2, .int .i64 x3, .int .i64 f, .slice ao len cap] 27) = w1 := ⟨_, rfl⟩
  have A1 := Lib.hid (show Adds w w1 by rw [← hw1]; exact (Gr.new _ _).adds)
  have B1 := Lib.hid (show BkS 27 w1 w.heap.size [.slice ap fl cp, .int .i64 x1, .int .i64 x2, .int .i64 x3, .int .i64 f, .slice ao len cap] by rw [← hw1]; exact BkS.new _ _ _)
  have b0 := B1.out.cell 0
  have b1 := B1.out.cell 1
  have b2 := B1.out.cell 2
  have b3 := B1.out.cell 3
  go_enter Tryz.func5, Tryz.ntmps5
  go_wp2_with (go_at_call 19; refine (HF.out _ A1.out).mono ?_; rintro e w2 ⟨rfl, a2⟩; have A2 := Lib.hid (Adds.trans A1.out a2); have c5 := (B1.out.adds a2).cell 5; clear a2; cases b)
  all_goals
    go_wp2
    go_ret
    exact ⟨by simp [], A2.out⟩
end Go.Proofs.YtdkgehhlikaocaaGreat
namespace Go.Proofs.YtdkgehhlikaocaaGreat
open Go Go.RowKit Go.Shelf

abbrev gP : Pg := ([(3, [(8, 0, 1, 2, 1), (9, 0, 0, 0, 0)]), (2, [(3, 0, 0, 1, 1), (9, 0, 0, 0, 0)])], 0, 0, 0)
theorem gP_ok : ∀ f ∈ gP.1, ∀ i ∈ f.2, OkIn i := by
  intro f hf i hi
  simp at hf
  rcases hf with rfl | rfl <;> simp at hi <;> rcases hi with rfl | rfl <;> exact ⟨by decide, by decide⟩
theorem gP_check : checkP gP = 0 := by decide +kernel
abbrev gL0 : List Fr := [(0, 0, 0, [0, 2, 3])]
abbrev gL1 : List Fr := [(0, 1, 0, [0, 2, 3]), (1, 0, 0, [2, 3])]
abbrev gL2 : List Fr := [(0, 1, 0, [0, 2, 3]), (1, 1, 0, [5, 3])]
abbrev gL3 : List Fr := [(0, 1, 0, [5, 2, 3])]
theorem g_s0 : stepP gP gL0 0 1 = (gL0, 0, 222) := by decide +kernel
theorem g_s1 : stepP gP gL0 0 2 = (gL1, 0, 0) := by decide +kernel
theorem g_s2 : stepP gP gL1 0 2 = (gL2, 0, 0) := by decide +kernel
theorem g_s3 : stepP gP gL2 0 2 = (gL3, 0, 0) := by decide +kernel
theorem g_s4 : stepP gP gL3 0 2 = ([], 5, 0) := by decide +kernel
theorem g_st0 : Stands gP gL0 := ⟨gP_ok, fun x hx => by
  simp at hx
  subst hx
  exact ⟨by decide, by decide, fun _ => ⟨gP_ok, by constructor <;> decide, by decide, by decide, by decide, fun _ => by decide, fun y hy => by simp at hy, by decide⟩⟩⟩
theorem g_st1 : Stands gP gL1 := ⟨gP_ok, fun x hx => by
  simp at hx
  subst hx
  exact ⟨by decide, by decide, fun _ => ⟨gP_ok, by constructor <;> decide, by decide, by decide, by decide, fun _ => by decide, fun y hy => by simp at hy; subst hy; decide, by decide⟩⟩⟩
theorem g_st2 : Stands gP gL2 := ⟨gP_ok, fun x hx => by
  simp at hx
  subst hx
  exact ⟨by decide, by decide, fun _ => ⟨gP_ok, by constructor <;> decide, by decide, by decide, by decide, fun _ => by decide, fun y hy => by simp at hy; subst hy; decide, by decide⟩⟩⟩
theorem g_st3 : Stands gP gL3 := ⟨gP_ok, fun x hx => by
  simp at hx
  subst hx
  exact ⟨by decide, by decide, fun _ => ⟨gP_ok, by constructor <;> decide, by decide, by decide, by decide, fun _ => by decide, fun y hy => by simp at hy, by decide⟩⟩⟩
theorem PileP.low {t : TypeId} {n b : Nat} {w : World} {p : Pg} {L : List Fr} {res : UInt32} (h : PileP t n w b p L res) : n ≤ w.heap.size := by
  obtain ⟨_, _, _, hp, _⟩ := h
  exact hp.low
set_option maxRecDepth 100000 in
theorem num12 (v : Int) (w : World) : Calls Tryz.prog 9 #[.int .i64 v] w fun e w' => e = .returned (.int .i64 v) ∧ w = w' := by
  go_enter Tryz.func9, Tryz.ntmps9
  go_wp2
  go_ret
  exact ⟨rfl, rfl⟩
set_option maxRecDepth 100000 in
set_option maxHeartbeats 4000000 in
theorem given12 (w : World) : Calls Tryz.prog 20 #[] w fun e w' => ∃ v, e = .returned (pgV v gP) ∧ FuncsW w'.heap.size w' v gP.1 ∧ Adds w w' := by
  obtain ⟨w1, hw1⟩ : ∃ w1, w.alloc (.cells #[.slice none 0 0, .int .i64 0, .int .i64 0, .int .i64 0] 24) = w1 := ⟨_, rfl⟩
  have A1 := Lib.hid (show Adds w w1 by rw [← hw1]; exact Adds.new _ _)
  have B1 := Lib.hid (show BkS 24 w1 w.heap.size [.slice none 0 0, .int .i64 0, .int .i64 0, .int .i64 0] by rw [← hw1]; exact BkS.new _ _ _)
  obtain ⟨w2, hw2⟩ : ∃ w2, w1.alloc (.cells #[.int .i64 8, .int .i64 0, .int .i64 1, .int .i64 2, .int .u32 1, .int .i64 9, .int .i64 0, .int .i64 0, .int .i64 0, .int .u32 0] 56) = w2 := ⟨_, rfl⟩
  have A2 := Lib.hid (show Adds w1 w2 by rw [← hw2]; exact Adds.new _ _)
  have C2 := Lib.hid (show BkS 56 w2 w1.heap.size [.int .i64 8, .int .i64 0, .int .i64 1, .int .i64 2, .int .u32 1, .int .i64 9, .int .i64 0, .int .i64 0, .int .i64 0, .int .u32 0] by rw [← hw2]; exact BkS.new _ _ _)
  have hz2 : w2.heap.size = w1.heap.size + 1 := by rw [← hw2]; simp
  obtain ⟨w3, hw3⟩ : ∃ w3, w2.alloc (.cells #[.int .i64 3, .int .i64 0, .int .i64 0, .int .i64 1, .int .u32 1, .int .i64 9, .int .i64 0, .int .i64 0, .int .i64 0, .int .u32 0] 56) = w3 := ⟨_, rfl⟩
  have A3 := Lib.hid (show Adds w2 w3 by rw [← hw3]; exact Adds.new _ _)
  have C3 := Lib.hid (show BkS 56 w3 (w1.heap.size + 1) [.int .i64 3, .int .i64 0, .int .i64 0, .int .i64 1, .int .u32 1, .int .i64 9, .int .i64 0, .int .i64 0, .int .i64 0, .int .u32 0] by rw [← hw3, ← hz2]; exact BkS.new _ _ _)
  have hz3 : w3.heap.size = w1.heap.size + 1 + 1 := by rw [← hw3, ← hz2]; simp
  obtain ⟨w4, hw4⟩ : ∃ w4, w3.alloc (.cells #[.int .i64 3, .slice (some ⟨w1.heap.size, 0, none⟩) 2 2, .int .i64 2, .slice (some ⟨w1.heap.size + 1, 0, none⟩) 2 2] 46) = w4 := ⟨_, rfl⟩
  have A4 := Lib.hid (show Adds w3 w4 by rw [← hw4]; exact Adds.new _ _)
  have C4 := Lib.hid (show BkS 46 w4 (w1.heap.size + 1 + 1) [.int .i64 3, .slice (some ⟨w1.heap.size, 0, none⟩) 2 2, .int .i64 2, .slice (some ⟨w1.heap.size + 1, 0, none⟩) 2 2] by rw [← hw4, ← hz3]; exact BkS.new _ _ _)
  have A14 := Lib.hid (Adds.trans A2.out (Adds.trans A3.out A4.out))
  have C24 := Lib.hid (C2.out.adds (Adds.trans A3.out A4.out))
  have C34 := Lib.hid (C3.out.adds A4.out)
  have D1 := Lib.hid (B1.out.adds A14.out)
  have x0 := D1.out.cell 0
  have x1 := D1.out.cell 1
  have x2 := D1.out.cell 2
  have x3 := D1.out.cell 3
  have y0 := D1.out.free 0
  have y1 := D1.out.free 1
  have y2 := D1.out.free 2
  have y3 := D1.out.free 3
  have hmx : Tryz.prog.follows .mixedOrders = true := by kernel_rfl
  go_enter Tryz.func20, Tryz.ntmps20
  go_wp2
  obtain ⟨w5, hw5⟩ : ∃ w5, (((w4.setCell ⟨w.heap.size, 0, none⟩ (.slice (some ⟨w1.heap.size + 1 + 1, 0, none⟩) 2 2)).setCell ⟨w.heap.size, 1, none⟩ (.int .i64 0)).setCell ⟨w.heap.size, 2, none⟩ (.int .i64 0)).setCell ⟨w.heap.size, 3, none⟩ (.int .i64 0) = w5 := ⟨_, rfl⟩
  have hT : TnS w.heap.size w4 w5 := by rw [← hw5]; exact (((TnS.setCell _ _ _ _).trans (TnS.setCell _ _ _ _)).trans (TnS.setCell _ _ _ _)).trans (TnS.setCell _ _ _ _)
  have hD : BkS 24 w5 w.heap.size [.slice (some ⟨w1.heap.size + 1 + 1, 0, none⟩) 2 2, .int .i64 0, .int .i64 0, .int .i64 0] := by rw [← hw5]; exact (((D1.out.set 0 _).set 1 _).set 2 _).set 3 _
  have hlt := B1.out.lt
  have E2 := C24.out.tn hT (by omega)
  have E3 := C34.out.tn hT (by omega)
  have E4 := C4.out.tn hT (by omega)
  rw [hw5]
  (try simp only [Exit.inBlock, Exit.then])
  refine bodyPost_ret (res_box1 rfl _ _ _ _ _ _ _ rfl hD Tryz.underlying24 rfl (by kernel_rfl)) rfl ?_
  refine ⟨_, rfl, ⟨_, _, rfl, Nat.le_refl _, by unfold maxLen; decide, fun _ => ⟨_, 0, rfl, E4.lt, fun i hi => ?_⟩⟩, TnS.own (Adds.trans A1.out A14.out) (Nat.le_refl _) hT⟩
  have hi2 : i = 0 ∨ i = 1 := by simp at hi; omega
  have code : ∀ (g : Nat) (a b : In), BkS 56 w5 g (insC a ++ insC b) → CodeW w5.heap.size w5 (.slice (some ⟨g, 0, none⟩) 2 2) [a, b] := fun g a b hb => ⟨_, _, rfl, Nat.le_refl _, by unfold maxLen; decide, fun _ => ⟨g, 0, rfl, hb.lt, fun k hk => by
    have hk2 : k = 0 ∨ k = 1 := by simp at hk; omega
    rcases hk2 with rfl | rfl
    · exact ⟨hb.cell 0, hb.cell 1, hb.cell 2, hb.cell 3, hb.cell 4⟩
    · exact ⟨hb.cell 5, hb.cell 6, hb.cell 7, hb.cell 8, hb.cell 9⟩⟩⟩
  rcases hi2 with rfl | rfl
  · exact ⟨E4.cell 0, _, E4.cell 1, code _ (8, 0, 1, 2, 1) (9, 0, 0, 0, 0) E2, gP_ok _ (by simp)⟩
  · exact ⟨E4.cell 2, _, E4.cell 3, code _ (3, 0, 0, 1, 1) (9, 0, 0, 0, 0) E3, gP_ok _ (by simp)⟩
set_option maxRecDepth 100000 in
set_option maxHeartbeats 8000000 in
theorem works12 (w : World) : Calls Tryz.prog 6 #[] w fun e w' => e = .returned (.bool true) ∧ Adds w w' := by
  have HG := Lib.hid (given12 w)
  have HNw := Lib.hid (fun (W : World) (v : Value) (hf : FuncsW W.heap.size W v gP.1) => NewS_ok (w := W.alloc (.cells #[.int .u32 0, .int .u32 2, .int .u32 3] 30)) (m := W.heap.size + 1) v gP ((hf.adds (Adds.new _ _)).up (Nat.le_succ _)) gP_check gP_ok (by decide) (by decide) 0 (by decide) 3 rfl (by decide) (.slice (some ⟨W.heap.size, 0, none⟩) 3 3) [0, 2, 3] (cells32_lit W [0, 2, 3] (by unfold maxLen; decide)) (by decide))
  have HS := Lib.hid (fun (n : Nat) (W : World) (b : Nat) (L : List Fr) (res : UInt32) (most : Int) (h : PileP 73 n W b gP L res) (hs : Stands gP L) (q : List Fr × UInt32 × Int) (hq : stepP gP L res most = q) => StepS_live h hs (by decide) most q hq)
  have HR := Lib.hid (fun (n : Nat) (W : World) (b : Nat) (L : List Fr) (res : UInt32) (h : PileP 73 n W b gP L res) (i : Int) (k : Int) (hk : (((regOf L i).toNat : Nat) : Int) = k) => show Calls Tryz.prog 21 #[.pointer (some ⟨b, 0, none⟩), .int .i64 i] W fun e w' => e = .returned (.int .u32 k) ∧ Adds W w' from by rw [← hk]; exact RegS_any (v := .pointer (some ⟨b, 0, none⟩)) (.inr ⟨b, rfl, h⟩) h.low i)
  have HD := Lib.hid (fun (n : Nat) (W : World) (b : Nat) (L : List Fr) (res : UInt32) (h : PileP 73 n W b gP L res) => depthS_any (v := .pointer (some ⟨b, 0, none⟩)) (.inr ⟨b, rfl, h⟩) h.low)
  have HRs := Lib.hid (fun (n : Nat) (W : World) (b : Nat) (L : List Fr) (res : UInt32) (h : PileP 73 n W b gP L res) => resultS_any (v := .pointer (some ⟨b, 0, none⟩)) (.inr ⟨b, rfl, h⟩) h.low)
  go_enter Tryz.func6, Tryz.ntmps6
  have HLw := Lib.hid (fun (n : Nat) (W V : World) (hn : w.heap.size ≤ n) (ha : Adds w W) (hl : Low n W V) => show Adds w V from Below.trans ha (Below.less hl.b hn))
  go_wp2_with (first
    | (go_at_call 9; refine (num12 _ _).mono ?_; rintro e wn ⟨rfl, rfl⟩)
    | (go_at_call 20; refine HG.out.mono ?_; rintro e w1 ⟨v, rfl, hf, a1⟩; have A1 := Lib.hid a1; have HF := Lib.hid hf; clear hf a1 HG)
    | (go_at_call 7; refine (HNw.out w1 v HF.out).mono ?_; rintro e w2 ⟨b, rfl, hp, a2⟩; have A2 := Lib.hid (Adds.trans A1.out (Adds.trans (Adds.new _ _) a2)); have hnn := Nat.le_trans A1.out.size (Adds.new w1 (Obj.cells #[Value.int IntKind.u32 0, Value.int IntKind.u32 2, Value.int IntKind.u32 3] 30)).size; generalize (w1.alloc (Obj.cells #[Value.int IntKind.u32 0, Value.int IntKind.u32 2, Value.int IntKind.u32 3] 30)).heap.size = n at hp hnn; have HN := Lib.hid hnn; have P0 := Lib.hid (show PileP 73 n w2 b gP gL0 0 from hp); clear hp a2 hnn HF)
    | (go_at_call 14; with_reducible refine (HS.out n w2 b gL0 0 1 P0.out g_st0 _ g_s0).mono ?_; rintro e w3 ⟨rfl, _, hh⟩; have a3 := hh (by decide); have A3 := Lib.hid (Adds.trans A2.out a3); have P1 := Lib.hid (P0.out.adds a3); clear hh a3 P0)
    | (go_at_call 14; with_reducible refine (HS.out n w3 b gL0 0 2 P1.out g_st0 _ g_s1).mono ?_; rintro e w4 ⟨rfl, hh, _⟩; have hh2 := hh rfl; have A4 := Lib.hid (HLw.out n _ _ HN.out A3.out hh2.2); have P2 := Lib.hid hh2.1; clear hh hh2 P1)
    | (go_at_call 13; refine (HD.out n w4 b gL1 0 P2.out).mono ?_; rintro e w5 ⟨rfl, a5⟩; have A5 := Lib.hid (Adds.trans A4.out a5); have P3 := Lib.hid (P2.out.adds a5); clear a5 P2)
    | (go_at_call 21; refine (HR.out n w5 b gL1 0 P3.out 1 3 (by decide)).mono ?_; rintro e w6 ⟨rfl, a6⟩; have A6 := Lib.hid (Adds.trans A5.out a6); have P4 := Lib.hid (P3.out.adds a6); clear a6 P3)
    | (go_at_call 14; with_reducible refine (HS.out n w6 b gL1 0 2 P4.out g_st1 _ g_s2).mono ?_; rintro e w7 ⟨rfl, hh, _⟩; have hh2 := hh rfl; have A7 := Lib.hid (HLw.out n _ _ HN.out A6.out hh2.2); have P5 := Lib.hid hh2.1; clear hh hh2 P4)
    | (go_at_call 14; with_reducible refine (HS.out n w7 b gL2 0 2 P5.out g_st2 _ g_s3).mono ?_; rintro e w8 ⟨rfl, hh, _⟩; have hh2 := hh rfl; have A8 := Lib.hid (HLw.out n _ _ HN.out A7.out hh2.2); have P6 := Lib.hid hh2.1; clear hh hh2 P5)
    | (go_at_call 21; refine (HR.out n w8 b gL3 0 P6.out 0 5 (by decide)).mono ?_; rintro e w9 ⟨rfl, a9⟩; have A9 := Lib.hid (Adds.trans A8.out a9); have P7 := Lib.hid (P6.out.adds a9); clear a9 P6)
    | (go_at_call 14; with_reducible refine (HS.out n w9 b gL3 0 2 P7.out g_st3 _ g_s4).mono ?_; rintro e wa ⟨rfl, hh, _⟩; have hh2 := hh rfl; have AA := Lib.hid (HLw.out n _ _ HN.out A9.out hh2.2); have P8 := Lib.hid hh2.1; clear hh hh2 P7)
    | (go_at_call 13; refine (HD.out n wa b [] 5 P8.out).mono ?_; rintro e wb ⟨rfl, ab⟩; have AB := Lib.hid (Adds.trans AA.out ab); have P9 := Lib.hid (P8.out.adds ab); clear ab P8)
    | (go_at_call 22; refine (HRs.out n wb b [] 5 P9.out).mono ?_; rintro e wc ⟨rfl, ac⟩; have AC := Lib.hid (Adds.trans AB.out ac); clear ac P9))
  go_ret
  exact ⟨rfl, AC.out⟩
/-- The body of the first loop. -/
def loopOfZ : Code → Option Code
  | .loop b => some b
  | .seq a b => (loopOfZ a).or (loopOfZ b)
  | .cond _ a b => (loopOfZ a).or (loopOfZ b)
  | .block _ b => loopOfZ b
  | .scope b => loopOfZ b
  | _ => none
theorem wp_calmZ {P : Program} {c : Code} {Q : Exit → Act → World → Prop} {a : Act} {w : World} (h : c.wp P (Exit.then (Q .normal) (fun _ _ _ => False)) a w) : c.wp P Q a w :=
  Code.wp_mono (Q := Exit.then (Q .normal) (fun _ _ _ => False)) (fun e _ _ hq => by cases e <;> first | exact hq | exact hq.elim) h
end Go.Proofs.YtdkgehhlikaocaaGreat
