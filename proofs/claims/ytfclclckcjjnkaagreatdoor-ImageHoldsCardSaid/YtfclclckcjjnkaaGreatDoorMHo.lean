/- Merged: GFew, MF, ML1. -/
import Derived.Test.YtfclclckcjjnkaaGreatDoorGMem
import Derived.Test.YtfclclckcjjnkaaGreatDoorIF8
import Derived.Test.YtfclclckcjjnkaaGreatDoorMDe
namespace Go.Proofs.YtfclclckcjjnkaaGreatDoor
open Go Go.RowKit Go.Shelf

/-- Some answer; if it is yes, the program is small. -/
def FewB (fs : List Fu) (e : Ending) : Prop := ∃ b : Bool, e = .returned (.bool b) ∧ (b = true → fs.length ≤ 40 ∧ ∀ f ∈ fs, f.2.length ≤ 1600)
abbrev sumL (l : List Fu) : Nat := (l.map fun f => f.2.length).sum
theorem sumL_take (fs : List Fu) (k : Nat) (h : k < fs.length) : sumL (fs.take (k + 1)) = sumL (fs.take k) + (fs.getD k zF).2.length := by
  rw [List.take_add_one, List.getD_eq_getElem?_getD, List.getElem?_eq_getElem h]
  simp only [sumL, List.map_append, List.sum_append, Option.toList_some, List.map_cons, List.map_nil, List.sum_cons, List.sum_nil, Option.getD_some, Nat.add_zero]
theorem sumL_le (c : Nat) : ∀ l : List Fu, (∀ f ∈ l, f.2.length ≤ c) → sumL l ≤ l.length * c
  | [], _ => by simp [sumL]
  | f :: l, h => by
    have h1 := h f (by simp)
    have h2 := sumL_le c l (fun g hg => h g (by simp [hg]))
    simp only [sumL, List.map_cons, List.sum_cons, List.length_cons, Nat.add_mul] at h2 ⊢
    omega
theorem sumL_mem (l : List Fu) (f : Fu) (h : f ∈ l) : f.2.length ≤ sumL l := by
  induction l with
  | nil => simp at h
  | cons g l ih =>
    simp only [sumL, List.map_cons, List.sum_cons]
    rcases List.mem_cons.1 h with rfl | h
    · omega
    · have := ih h; simp only [sumL] at this; omega
end Go.Proofs.YtfclclckcjjnkaaGreatDoor
namespace Go.Proofs.YtfclclckcjjnkaaGreatDoor
open Go Go.RowKit Go.Shelf

def SomeB (e : Ending) : Prop := ∃ b, e = .returned (.bool b)
set_option maxRecDepth 100000 in
set_option maxHeartbeats 8000000 in
theorem few10_any {m : Nat} (u : Value) (p : Pg) (w : World) (hf : FuncsW m w u p.1) : Calls Tryz.prog 12 #[pgV u p] w fun e w' => SomeB e ∧ Adds w w' := by
  obtain ⟨fs, x1, x2, x3⟩ := p
  have HF := Lib.hid hf.here
  obtain ⟨ao, cap, rfl, h1, h2, _⟩ := hf
  unfold maxLen at h2
  obtain ⟨fl, hfl⟩ : ∃ fl, fs.length = fl := ⟨_, rfl⟩
  have HFl := Lib.hid hfl
  simp only [hfl] at HF h1 ⊢
  have hfI : (fl : Int) ≤ 9223372036854775807 := by omega
  clear hfl h1 h2
  obtain ⟨w1, hw1⟩ : ∃ w1, w.alloc (.cells #[.slice ao fl cap, .int .i64 x1, .int .i64 x2, .int .i64 x3] 24) = w1 := ⟨_, rfl⟩
  have A1 := Lib.hid (show Adds w w1 by rw [← hw1]; exact (Gr.new _ _).adds)
  have B1 := Lib.hid (show BkS 24 w1 w.heap.size [.slice ao fl cap, .int .i64 x1, .int .i64 x2, .int .i64 x3] by rw [← hw1]; exact BkS.new _ _ _)
  have b0 : w1.cell? ⟨w.heap.size, 0, none⟩ = some (.slice ao fl cap) := B1.out.cell 0
  go_enter Tryz.func12, Tryz.ntmps12
  go_wp2
  go_loop [3, 4] (fun n i => ∃ (z : Int) (k : Nat), n = .int .i64 z ∧ i = .int .i64 k ∧ k ≤ 40 ∧ k ≤ fl) (fun _ i => 41 - (intOf i).toNat)
  case atStart => exact ⟨0, 0, rfl, rfl, by omega, by omega⟩
  case round =>
    obtain ⟨z, k, rfl, rfl, hk40, hkl⟩ := hrel
    by_cases hlt : k < fl
    · have hltI : (k : Int) < (fl : Int) := by omega
      by_cases h40 : k < 40
      · have h40I : (k : Int) < 40 := by omega
        obtain ⟨g, off, rfl, hg, hat⟩ := (show FuncsW w.heap.size w (.slice ao fs.length cap) fs by have h := HF.out; rw [← HFl.out] at h; exact h).at (i := k) (by rw [HFl.out]; exact hlt)
        obtain ⟨k0, c, k1, hc, _⟩ := hat
        obtain ⟨ac, cc, rfl, _, _⟩ := hc.form
        generalize (fs.getD k zF).2.length = cl at *
        have k2 : w1.cell? ⟨g, off + k * 2 + 1, none⟩ = some (.slice ac cl cc) := A1.out.cellAt k1
        clear hc k0 k1
        go_wp2
        go_round
        case rel => exact ⟨_, k + 1, rfl, by go_num, by omega, by omega⟩
        case measure => simp [intOf]; omega
      · have h40I : ¬ (k : Int) < 40 := by omega
        have hfmI : ¬ (fl : Int) ≤ 40 := by omega
        go_wp2
        go_ret
        exact ⟨⟨_, rfl⟩, A1.out⟩
    · have hltI : ¬ (k : Int) < (fl : Int) := by omega
      by_cases hfm : fl ≤ 40
      · have hfmI : (fl : Int) ≤ 40 := by omega
        go_wp2
        go_ret
        exact ⟨⟨_, rfl⟩, A1.out⟩
      · exfalso; omega
end Go.Proofs.YtfclclckcjjnkaaGreatDoor
namespace Go.Proofs.YtfclclckcjjnkaaGreatDoor
open Go Go.RowKit Go.Shelf Go.Lib

theorem byteV_map_set (l : List UInt8) (i : Nat) (b : UInt8) : (l.map byteV).set i (byteV b) = (l.set i b).map byteV := by
  rw [List.map_set]
/-- A byte of an own row is written. -/
theorem OwnB.set {w : World} {base g cap n : Nat} {l : List UInt8} (h : OwnB w base (.slice (some ⟨g, 0, none⟩) n cap) l) (i : Nat) (b : UInt8) :
    OwnB (w.setCell ⟨g, i, none⟩ (byteV b)) base (.slice (some ⟨g, 0, none⟩) n cap) (l.set i b) := by
  refine ⟨by simp, .inr ?_⟩
  rcases h.2 with ⟨e, _⟩ | ⟨g', cap', cur, e, hb, hg, hn, hm, hs, ht⟩
  · cases e
  · simp only [Value.slice.injEq, Option.some.injEq, Addr.mk.injEq, and_true] at e
    obtain ⟨rfl, hnl, rfl⟩ := e
    refine ⟨g, cap, cur.setIfInBounds i (byteV b), by rw [List.length_set, hnl], hb, ?_, by rw [List.length_set]; exact hn, hm, by simpa using hs, ?_⟩
    · simp only [World.setCell, Array.getElem?_modify, hg]
      simp
    · rw [List.length_set, ← byteV_map_set, ← ht, Array.toList_setIfInBounds, List.take_set]
theorem own_cell {w : World} {base g cap n : Nat} {l : List UInt8} (h : OwnB w base (.slice (some ⟨g, 0, none⟩) n cap) l) (i : Nat) (hi : i < l.length) : w.cell? ⟨g, i, none⟩ = some (.int .u8 (l.getD i 0).toNat) := by
  obtain ⟨ao, cap', e, h1, h2, h3⟩ := h.bytes
  simp only [Value.slice.injEq] at e
  obtain ⟨rfl, rfl, rfl⟩ := e
  obtain ⟨b, off, e, _, hc⟩ := h3 (by rintro rfl; simp at hi)
  simp only [Option.some.injEq, Addr.mk.injEq] at e
  obtain ⟨rfl, rfl, _⟩ := e
  have := hc i hi
  rwa [Nat.zero_add] at this
theorem own_free {w : World} {base g cap n : Nat} {l : List UInt8} (h : OwnB w base (.slice (some ⟨g, 0, none⟩) n cap) l) (i : Nat) : w.frozen? ⟨g, i, none⟩ = false := by
  rcases h.2 with ⟨e, _⟩ | ⟨g', cap', cur, e, hb, hg, _⟩
  · cases e
  · simp only [Value.slice.injEq, Option.some.injEq, Addr.mk.injEq, and_true] at e
    obtain ⟨rfl, _, _⟩ := e
    simp [World.frozen?, hg]
theorem xor_byte (x y : UInt8) : bits .xor .u8 (x.toNat : Int) (y.toNat : Int) = ((x ^^^ y).toNat : Int) := by
  rw [u8_xor_nat _ _ x.toNat_lt y.toNat_lt, UInt8.toNat_xor]
theorem xor_ne {x y : UInt8} (h : y ≠ 0) : x ^^^ y ≠ x := by
  intro e
  have h1 : x ^^^ (x ^^^ y) = x ^^^ x := by rw [e]
  rw [← UInt8.xor_assoc, UInt8.xor_self, UInt8.zero_xor] at h1
  exact h h1

theorem encI_two {p : Pg} (h : ¬ checkP p = 0) : encI p = ([], 2) := by unfold encI; rw [if_neg h]
theorem encI_yes {p : Pg} (h : checkP p = 0) : encI p = (imageB p, 0) := by unfold encI; rw [if_pos h]
theorem imageB_pos (p : Pg) : 0 < (imageB p).length := by
  unfold imageB sealB bareB lineB
  simp only [List.length_append, List.length_cons, List.length_nil]; omega
theorem imageB_le {p : Pg} (h : checkP p = 0) : (imageB p).length ≤ 1000000 := by
  have hF := fine_of h
  have h1 := funcsB_le p.1 (fun f hf => (hF.fs f hf).2.1.2)
  have h2 : (headB p).length ≤ 8 * 4 := tellB_len 1 _
  have h3 := fixB_le8 (sumS (bareB p)) 8
  have h4 := hF.n0
  unfold imageB sealB bareB lineB at *
  simp only [List.length_append, List.length_cons, List.length_nil] at *
  have h3' : (fixB (sumS ([108, 105, 110, 101] ++ (headB p ++ p.1.flatMap funcB))) 8).length ≤ 8 := h3
  omega
set_option maxRecDepth 100000 in
set_option maxHeartbeats 4000000 in
theorem law_holdsM {m : Nat} (u : Value) (p : Pg) (x : Int) (w : World) (hx : (Lit.int .i64 x).wf = true) (hf : FuncsW m w u p.1) (hv : MVars w) :
    Calls Tryz.prog 6 #[pgV u p, .int .i64 x] w (TrueAdds w) := by
  have hxb : x ≤ 9223372036854775807 := by
    have h2 : IntKind.i64.max = 9223372036854775807 := by decide
    simp [Lit.wf, h2] at hx
    omega
  clear hx
  have HF := Lib.hid hf
  have HV := Lib.hid hv
  obtain ⟨ao, cap, rfl, _, _, _⟩ := hf
  obtain ⟨w1, hw1⟩ : ∃ w1, w.alloc (.cells (pgC (.slice ao p.1.length cap) p).toArray 24) = w1 := ⟨_, rfl⟩
  have A1 := Lib.hid (show Adds w w1 by rw [← hw1]; exact (Gr.new _ _).adds)
  have B1 := Lib.hid (show BkS 24 w1 w.heap.size (pgC (.slice ao p.1.length cap) p) by rw [← hw1]; exact BkS.new _ _ _)
  have HFew := Lib.hid (few10_any _ p w1 (HF.out.adds A1.out))
  have HW := Lib.hid (fun (W : World) (h : Adds w W) => worksM W (hv.adds h))
  have HE := Lib.hid (fun (W : World) (h : Adds w W) => mencode _ p W (hv.adds h) (HF.out.adds h))
  have hn := num10_any
  obtain ⟨en, hen⟩ : ∃ en, encI p = en := ⟨_, rfl⟩
  have HEn := Lib.hid hen
  unfold EncPost at HE
  rw [hen] at HE
  have HPl := Lib.hid (show (checkP p = 0 ∨ en = ([], 2)) ∧ (checkP p = 0 → en = (imageB p, 0)) from ⟨by by_cases h : checkP p = 0; exact .inl h; exact .inr (by rw [← hen, encI_two h]), fun h => by rw [← hen, encI_yes h]⟩)
  clear hen hv
  obtain ⟨fs, x1, x2, x3⟩ := p
  simp only at B1 HF HE HFew hw1 ⊢
  obtain ⟨fl, hfl⟩ : ∃ fl, fs.length = fl := ⟨_, rfl⟩
  simp only [hfl] at B1 HF HE HFew hw1 ⊢
  clear hfl
  have b0 : w1.cell? ⟨w.heap.size, 0, none⟩ = some (.slice ao fl cap) := B1.out.cell 0
  have b1 : w1.cell? ⟨w.heap.size, 1, none⟩ = some (.int .i64 x1) := B1.out.cell 1
  have b2 : w1.cell? ⟨w.heap.size, 2, none⟩ = some (.int .i64 x2) := B1.out.cell 2
  have b3 : w1.cell? ⟨w.heap.size, 3, none⟩ = some (.int .i64 x3) := B1.out.cell 3
  by_cases hc : checkP (fs, x1, x2, x3) = 0
  · have hen : en = (imageB (fs, x1, x2, x3), 0) := HPl.out.2 hc
    subst hen
    have HNe := Lib.hid (show imageB (fs, x1, x2, x3) ≠ [] from fun h => by have := imageB_pos (fs, x1, x2, x3); rw [h] at this; simp at this)
    have HLp := Lib.hid (imageB_pos (fs, x1, x2, x3))
    have HLe := Lib.hid (imageB_le hc)
    have HSelf := Lib.hid (decI_image hc)
    have HBent := Lib.hid (fun i y => @decI_bent (fs, x1, x2, x3) i y)
    have HCs := Lib.hid decI_cases
    clear hc
    obtain ⟨l, hl⟩ : ∃ l, imageB (fs, x1, x2, x3) = l := ⟨_, rfl⟩
    rw [hl] at HE HNe HLp HLe HSelf HBent
    obtain ⟨ll, hll⟩ : ∃ ll, l.length = ll := ⟨_, rfl⟩
    have HLl := Lib.hid hll
    rw [hll] at HLp HLe HBent
    have hl1 : (0 : Int) < (ll : Int) := by have := HLp.out; omega
    have hl2 : (ll : Int) ≤ 1000000 := by have := HLe.out; omega
    have hl0 : ((ll : Int) == 0) = false := by rw [beq_eq_false_iff_ne]; omega
    clear hl hll HPl
    by_cases hx0 : x < 0
    · go_enter Tryz.func6, Tryz.ntmps6
      go_wp2_with fail
      refine HFew.out.mono ?_
      rintro e w2 ⟨⟨b, rfl⟩, a2⟩
      have A2 := Lib.hid (A1.out.trans a2)
      have C2 := Lib.hid (B1.out.adds a2)
      have c0 : w2.cell? ⟨w.heap.size, 0, none⟩ = some (.slice ao fl cap) := C2.out.cell 0
      have c1 : w2.cell? ⟨w.heap.size, 1, none⟩ = some (.int .i64 x1) := C2.out.cell 1
      have c2 : w2.cell? ⟨w.heap.size, 2, none⟩ = some (.int .i64 x2) := C2.out.cell 2
      have c3 : w2.cell? ⟨w.heap.size, 3, none⟩ = some (.int .i64 x3) := C2.out.cell 3
      clear a2
      cases b
      · go_wp2_with (go_at_call 13; refine (HW.out _ A2.out).mono ?_; rintro e w3 ⟨rfl, a3⟩; have A3 := Lib.hid (A2.out.trans a3); clear a3)
        go_ret
        exact ⟨rfl, A3.out⟩
      · go_wp2_with (first
          | (go_at_call 14; refine (HE.out _ A2.out).mono ?_; rintro e w3 ⟨v, rfl, o3, a3⟩; obtain ⟨g3, cap3, e3, hg3, hg3'⟩ := OwnB.form o3 HNe.out; rw [HLl.out] at e3; subst e3; have A3 := Lib.hid (A2.out.trans a3); have O3 := Lib.hid o3; clear a3 o3)
          | (go_at_call 17; refine (hn _ _).mono ?_; rintro e w9 ⟨rfl, rfl⟩)
          | (go_at_call 13; refine (HW.out _ A3.out).mono ?_; rintro e w4 ⟨rfl, a4⟩; have A4 := Lib.hid (A3.out.trans a4); clear a4))
        go_ret
        exact ⟨rfl, A4.out⟩
    · obtain ⟨n, rfl⟩ : ∃ n : Nat, x = n := ⟨x.toNat, by omega⟩
      obtain ⟨i, k, hk, rfl⟩ : ∃ i k, k < 8 ∧ n = 8 * i + k := ⟨n / 8, n % 8, by omega, by omega⟩
      have hq : Int.tdiv (((8 * i + k : Nat)) : Int) 8 = (i : Int) := by rw [Int.tdiv_eq_ediv_of_nonneg (by omega)]; omega
      have hr : Int.tmod (((8 * i + k : Nat)) : Int) 8 = (k : Int) := by rw [Int.tmod_eq_emod_of_nonneg (by omega)]; omega
      have hib : (i : Int) ≤ 1152921504606846975 := by omega
      obtain ⟨z, hz⟩ : ∃ z : Int, (((8 * i + k : Nat)) : Int) = z := ⟨_, rfl⟩
      rw [hz] at hq hr hx0 hxb
      rw [hz]
      clear hz
      by_cases hil : ll ≤ i
      · have hilI : (ll : Int) ≤ (i : Int) := by omega
        have hdz : decide (z < 0) = false := by simpa using hx0
        have hdi : decide (ll ≤ i) = true := by simpa using hil
        clear hil
        go_enter Tryz.func6, Tryz.ntmps6
        go_wp2_with fail
        refine HFew.out.mono ?_
        rintro e w2 ⟨⟨b, rfl⟩, a2⟩
        have A2 := Lib.hid (A1.out.trans a2)
        have C2 := Lib.hid (B1.out.adds a2)
        have c0 : w2.cell? ⟨w.heap.size, 0, none⟩ = some (.slice ao fl cap) := C2.out.cell 0
        have c1 : w2.cell? ⟨w.heap.size, 1, none⟩ = some (.int .i64 x1) := C2.out.cell 1
        have c2 : w2.cell? ⟨w.heap.size, 2, none⟩ = some (.int .i64 x2) := C2.out.cell 2
        have c3 : w2.cell? ⟨w.heap.size, 3, none⟩ = some (.int .i64 x3) := C2.out.cell 3
        clear a2
        cases b
        · go_wp2_with (go_at_call 13; refine (HW.out _ A2.out).mono ?_; rintro e w3 ⟨rfl, a3⟩; have A3 := Lib.hid (A2.out.trans a3); clear a3)
          go_ret
          exact ⟨rfl, A3.out⟩
        · go_wp2_with (first
            | (go_at_call 14; refine (HE.out _ A2.out).mono ?_; rintro e w3 ⟨v, rfl, o3, a3⟩; obtain ⟨g3, cap3, e3, hg3, hg3'⟩ := OwnB.form o3 HNe.out; rw [HLl.out] at e3; subst e3; have A3 := Lib.hid (A2.out.trans a3); have O3 := Lib.hid o3; clear a3 o3)
            | (go_at_call 17; refine (hn _ _).mono ?_; rintro e w9 ⟨rfl, rfl⟩)
            | (go_at_call 13; refine (HW.out _ A3.out).mono ?_; rintro e w4 ⟨rfl, a4⟩; have A4 := Lib.hid (A3.out.trans a4); clear a4))
          go_ret
          exact ⟨rfl, A4.out⟩
      · have hilI : ¬ (ll : Int) ≤ (i : Int) := by omega
        have hilI2 : (i : Int) < (ll : Int) := by omega
        have HIl := Lib.hid (Nat.lt_of_not_le hil)
        have hk8 : (k : Int) < 8 := by omega
        obtain ⟨yk, hyk, hy0⟩ : ∃ yk : UInt8, (2 : Int) ^ k % 256 = (yk.toNat : Int) ∧ yk ≠ 0 := by
          match k, hk with
          | 0, _ => exact ⟨1, by decide, by decide⟩
          | 1, _ => exact ⟨2, by decide, by decide⟩
          | 2, _ => exact ⟨4, by decide, by decide⟩
          | 3, _ => exact ⟨8, by decide, by decide⟩
          | 4, _ => exact ⟨16, by decide, by decide⟩
          | 5, _ => exact ⟨32, by decide, by decide⟩
          | 6, _ => exact ⟨64, by decide, by decide⟩
          | 7, _ => exact ⟨128, by decide, by decide⟩
        have HY0 := Lib.hid hy0
        clear hy0
        have hdz : decide (z < 0) = false := by simpa using hx0
        have hdi : decide (ll ≤ i) = false := by simpa using hil
        clear hil
        go_enter Tryz.func6, Tryz.ntmps6
        go_wp2_with fail
        refine HFew.out.mono ?_
        rintro e w2 ⟨⟨b, rfl⟩, a2⟩
        have A2 := Lib.hid (A1.out.trans a2)
        have C2 := Lib.hid (B1.out.adds a2)
        have c0 : w2.cell? ⟨w.heap.size, 0, none⟩ = some (.slice ao fl cap) := C2.out.cell 0
        have c1 : w2.cell? ⟨w.heap.size, 1, none⟩ = some (.int .i64 x1) := C2.out.cell 1
        have c2 : w2.cell? ⟨w.heap.size, 2, none⟩ = some (.int .i64 x2) := C2.out.cell 2
        have c3 : w2.cell? ⟨w.heap.size, 3, none⟩ = some (.int .i64 x3) := C2.out.cell 3
        clear a2
        cases b
        · go_wp2_with (go_at_call 13; refine (HW.out _ A2.out).mono ?_; rintro e w3 ⟨rfl, a3⟩; have A3 := Lib.hid (A2.out.trans a3); clear a3)
          go_ret
          exact ⟨rfl, A3.out⟩
        · go_wp2_with (first
            | (go_at_call 14; refine (HE.out _ A2.out).mono ?_; rintro e w3 ⟨v, rfl, o3, a3⟩; obtain ⟨g3, cap3, e3, hg3, hg3'⟩ := OwnB.form o3 HNe.out; rw [HLl.out] at e3; subst e3; have A3 := Lib.hid (A2.out.trans a3); have O3 := Lib.hid o3; clear a3 o3)
            | (go_at_call 17; refine (hn _ _).mono ?_; rintro e w9 ⟨rfl, rfl⟩)
            | (at_builtin; refine wp_append_bytes rfl (.tmp 41) (.tmp 42) rfl w3.heap.size _ [] rfl (by exact own_empty w3) _ l w3.heap.size rfl (by exact O3.out.bytes.below (adds_alloc _ _)) (by rw [HLl.out, List.length_nil]; have := HLe.out; omega) (by simp) ?_; intro v5 w5 o5 b5; rw [List.nil_append] at o5; obtain ⟨g5, cap5, e5, hg5, hg5'⟩ := OwnB.form o5 HNe.out; rw [HLl.out] at e5; subst e5; have O5 := Lib.hid o5; have B5 := Lib.hid (Below.trans (adds_alloc w3 _) b5); clear o5 b5; obtain ⟨xo, hxo⟩ : ∃ xo, l.getD i 0 = xo := ⟨_, rfl⟩; have hcx := own_cell O5.out i (by rw [HLl.out]; exact HIl.out); rw [hxo] at hcx; have hfr := own_free O5.out i; have hxy := xor_byte xo yk; obtain ⟨zb, hzb⟩ : ∃ zb, xo ^^^ yk = zb := ⟨_, rfl⟩; rw [hzb] at hxy; have HZ := Lib.hid (show zb ≠ l.getD i 0 from by rw [hxo, ← hzb]; exact xor_ne HY0.out); clear hxo hzb; have O6 := Lib.hid (O5.out.set i zb); have B6 := Lib.hid (B5.out.setCell (p := ⟨g5, i, none⟩) hg5 (byteV zb)); have hd := mdecode _ (l.set i zb) _ O6.out.bytes (HV.out.adds (A3.out.trans B6.out)); unfold byteV at hd; have HD := Lib.hid hd; clear hd; have HBe := Lib.hid (HBent.out i zb HIl.out HZ.out); have HCs6 := Lib.hid (HCs.out (l.set i zb)); obtain ⟨dd, hdd⟩ : ∃ dd, decI (l.set i zb) = dd := ⟨_, rfl⟩; rw [hdd] at HD HBe HCs6; have HDd := Lib.hid hdd; clear hdd))
          obtain ⟨⟨⟨gs, y1, y2, y3⟩, er⟩, hde⟩ : ∃ d, dd = d := ⟨_, rfl⟩
          subst hde
          unfold DecPost at HD
          simp only at HD HBe HCs6
          have HI1 := Lib.hid (fun (W : World) (h : Below w3.heap.size w3 W) => show Calls Tryz.prog 20 #[.slice (some ⟨g3, 0, none⟩) ll cap3] W fun e w' => e = .returned (.bool true) ∧ Adds W w' from by
            have h1 := mis _ l W (O3.out.bytes.below h) (HV.out.adds (A3.out.trans h))
            rwa [decide_eq_true (by rw [HSelf.out])] at h1)
          have HI2 := Lib.hid (fun (W : World) (h : Adds (w5.setCell ⟨g5, i, none⟩ (.int .u8 ((zb.toNat : Nat) : Int))) W) => show Calls Tryz.prog 20 #[.slice (some ⟨g5, 0, none⟩) ll cap5] W fun e w' => e = .returned (.bool false) ∧ Adds W w' from by
            have h1 := mis _ (l.set i zb) W (O6.out.adds h).bytes (HV.out.adds (A3.out.trans (Below.trans B6.out (Below.mono h B6.out.size))))
            rwa [decide_eq_false (by rw [HDd.out]; exact HBe.out)] at h1)
          have HW6 := Lib.hid (show Adds w (w5.setCell ⟨g5, i, none⟩ (.int .u8 ((zb.toNat : Nat) : Int))) from A3.out.trans B6.out)
          have HC2 := HCs6.out.resolve_left HBe.out
          rcases HC2 with rfl | rfl
          · go_wp2_with (first
              | (go_at_call 18; refine HD.out.mono ?_; rintro e w7 ⟨cv, rfl, o7, a7⟩; obtain ⟨ao7, cp7, h7⟩ := o7.form; generalize gs.length = gl at h7; subst h7; have A8 := Lib.hid (Adds.trans a7 (adds_alloc w7 (.cells #[.slice ao7 gl cp7, .int .i64 y1, .int .i64 y2, .int .i64 y3] 24))); clear o7 a7; have HJ1 := Lib.hid (HI1.out _ (Below.trans B6.out (Below.mono A8.out B6.out.size))); clear HD HI1)
              | (go_at_call 20; refine HJ1.out.mono ?_; rintro e w9 ⟨rfl, a9⟩; have A9 := Lib.hid (Adds.trans A8.out a9); clear a9 HJ1; have HJ2 := Lib.hid (HI2.out _ A9.out); clear HI2)
              | (go_at_call 20; refine HJ2.out.mono ?_; rintro e wa ⟨rfl, aa⟩; have AA := Lib.hid (Adds.trans A9.out aa); clear aa HJ2)
              | (go_at_call 17; refine (hn _ _).mono ?_; rintro e wb ⟨rfl, rfl⟩)
              | (go_at_call 13; refine (HW.out _ (HW6.out.trans AA.out)).mono ?_; rintro e wc ⟨rfl, ac⟩; have AC := Lib.hid ((HW6.out.trans AA.out).trans ac); clear ac))
            go_ret
            exact ⟨rfl, AC.out⟩
          · go_wp2_with (first
              | (go_at_call 18; refine HD.out.mono ?_; rintro e w7 ⟨cv, rfl, o7, a7⟩; obtain ⟨ao7, cp7, h7⟩ := o7.form; generalize gs.length = gl at h7; subst h7; have A8 := Lib.hid (Adds.trans a7 (adds_alloc w7 (.cells #[.slice ao7 gl cp7, .int .i64 y1, .int .i64 y2, .int .i64 y3] 24))); clear o7 a7; have HJ1 := Lib.hid (HI1.out _ (Below.trans B6.out (Below.mono A8.out B6.out.size))); clear HD HI1)
              | (go_at_call 20; refine HJ1.out.mono ?_; rintro e w9 ⟨rfl, a9⟩; have A9 := Lib.hid (Adds.trans A8.out a9); clear a9 HJ1; have HJ2 := Lib.hid (HI2.out _ A9.out); clear HI2)
              | (go_at_call 20; refine HJ2.out.mono ?_; rintro e wa ⟨rfl, aa⟩; have AA := Lib.hid (Adds.trans A9.out aa); clear aa HJ2)
              | (go_at_call 17; refine (hn _ _).mono ?_; rintro e wb ⟨rfl, rfl⟩)
              | (go_at_call 13; refine (HW.out _ (HW6.out.trans AA.out)).mono ?_; rintro e wc ⟨rfl, ac⟩; have AC := Lib.hid ((HW6.out.trans AA.out).trans ac); clear ac))
            go_ret
            exact ⟨rfl, AC.out⟩
  · have hen : en = ([], 2) := HPl.out.1.resolve_left hc
    subst hen
    clear hc
    go_enter Tryz.func6, Tryz.ntmps6
    go_wp2_with fail
    refine HFew.out.mono ?_
    rintro e w2 ⟨⟨b, rfl⟩, a2⟩
    have A2 := Lib.hid (A1.out.trans a2)
    have C2 := Lib.hid (B1.out.adds a2)
    have c0 : w2.cell? ⟨w.heap.size, 0, none⟩ = some (.slice ao fl cap) := C2.out.cell 0
    have c1 : w2.cell? ⟨w.heap.size, 1, none⟩ = some (.int .i64 x1) := C2.out.cell 1
    have c2 : w2.cell? ⟨w.heap.size, 2, none⟩ = some (.int .i64 x2) := C2.out.cell 2
    have c3 : w2.cell? ⟨w.heap.size, 3, none⟩ = some (.int .i64 x3) := C2.out.cell 3
    clear a2
    cases b
    · go_wp2_with (go_at_call 13; refine (HW.out _ A2.out).mono ?_; rintro e w3 ⟨rfl, a3⟩; have A3 := Lib.hid (A2.out.trans a3); clear a3)
      go_ret
      exact ⟨rfl, A3.out⟩
    · go_wp2_with (first
        | (go_at_call 14; refine (HE.out _ A2.out).mono ?_; rintro e w3 ⟨v, rfl, o3, a3⟩; obtain ⟨ao3, cap3, e3, _⟩ := id o3.bytes; subst e3; have A3 := Lib.hid (A2.out.trans a3); clear a3 o3)
        | (go_at_call 17; refine (hn _ _).mono ?_; rintro e w9 ⟨rfl, rfl⟩)
        | (go_at_call 13; refine (HW.out _ A3.out).mono ?_; rintro e w4 ⟨rfl, a4⟩; have A4 := Lib.hid (A3.out.trans a4); clear a4))
      go_ret
      exact ⟨rfl, A4.out⟩
end Go.Proofs.YtfclclckcjjnkaaGreatDoor
