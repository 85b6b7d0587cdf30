/- Merged: Z18. -/
import Derived.Test.YthhegcngkpfcoaaGreatY45
namespace Go.Proofs.YthhegcngkpfcoaaGreat
open Go Go.RowKit Go.Shelf

abbrev gP : Pg := ([(3, [(8, 0, 1, 2, 1), (9, 0, 0, 0, 0)]), (2, [(3, 0, 0, 1, 1), (9, 0, 0, 0, 0)])], 0, 0, 0)
theorem gP_ok : ∀ f ∈ gP.1, ∀ i ∈ f.2, OkIn i := by
  intro f hf i hi
  simp at hf
  rcases hf with rfl | rfl <;> simp at hi <;> rcases hi with rfl | rfl <;> exact ⟨by decide, by decide⟩
theorem gP_check : checkP gP = 0 := by decide +kernel
abbrev gL0 : List Fr := [(0, 0, 0, [0, 2, 3])]
abbrev gL1 : List Fr := [(0, 1, 0, [0, 2, 3]), (1, 0, 0, [2, 3])]
abbrev gL2 : List Fr := [(0, 1, 0, [0, 2, 3]), (1, 1, 0, [5, 3])]
abbrev gL3 : List Fr := [(0, 1, 0, [5, 2, 3])]
theorem g_s0 : stepP gP gL0 0 1 = (gL0, 0, 222) := by decide +kernel
theorem g_s1 : stepP gP gL0 0 2 = (gL1, 0, 0) := by decide +kernel
theorem g_s2 : stepP gP gL1 0 2 = (gL2, 0, 0) := by decide +kernel
theorem g_s3 : stepP gP gL2 0 2 = (gL3, 0, 0) := by decide +kernel
theorem g_s4 : stepP gP gL3 0 2 = ([], 5, 0) := by decide +kernel
theorem g_st0 : Stands gP gL0 := ⟨gP_ok, fun x hx => by
  simp at hx
  subst hx
  exact ⟨by decide, by decide, fun _ => ⟨gP_ok, by constructor <;> decide, by decide, by decide, by decide, fun _ => by decide, fun y hy => by simp at hy, by decide⟩⟩⟩
theorem g_st1 : Stands gP gL1 := ⟨gP_ok, fun x hx => by
  simp at hx
  subst hx
  exact ⟨by decide, by decide, fun _ => ⟨gP_ok, by constructor <;> decide, by decide, by decide, by decide, fun _ => by decide, fun y hy => by simp at hy; subst hy; decide, by decide⟩⟩⟩
theorem g_st2 : Stands gP gL2 := ⟨gP_ok, fun x hx => by
  simp at hx
  subst hx
  exact ⟨by decide, by decide, fun _ => ⟨gP_ok, by constructor <;> decide, by decide, by decide, by decide, fun _ => by decide, fun y hy => by simp at hy; subst hy; decide, by decide⟩⟩⟩
theorem g_st3 : Stands gP gL3 := ⟨gP_ok, fun x hx => by
  simp at hx
  subst hx
  exact ⟨by decide, by decide, fun _ => ⟨gP_ok, by constructor <;> decide, by decide, by decide, by decide, fun _ => by decide, fun y hy => by simp at hy, by decide⟩⟩⟩
theorem PileP.low {t : TypeId} {n b : Nat} {w : World} {p : Pg} {L : List Fr} {res : UInt32} (h : PileP t n w b p L res) : n ≤ w.heap.size := by
  obtain ⟨_, _, _, hp, _⟩ := h
  exact hp.low
set_option maxRecDepth 100000 in
theorem num12 (v : Int) (w : World) : Calls Tryz.prog 10 #[.int .i64 v] w fun e w' => e = .returned (.int .i64 v) ∧ w = w' := by
  go_enter Tryz.func10, Tryz.ntmps10
  go_wp2
  go_ret
  exact ⟨rfl, rfl⟩
set_option maxRecDepth 100000 in
set_option maxHeartbeats 4000000 in
theorem given12 (w : World) : Calls Tryz.prog 9 #[] w fun e w' => ∃ v, e = .returned (pgV v gP) ∧ FuncsW w'.heap.size w' v gP.1 ∧ Adds w w' := by
  obtain ⟨w1, hw1⟩ : ∃ w1, w.alloc (.cells #[.slice none 0 0, .int .i64 0, .int .i64 0, .int .i64 0] 28) = w1 := ⟨_, rfl⟩
  have A1 := Lib.hid (show Adds w w1 by rw [← hw1]; exact Adds.new _ _)
  have B1 := Lib.hid (show BkS 28 w1 w.heap.size [.slice none 0 0, .int .i64 0, .int .i64 0, .int .i64 0] by rw [← hw1]; exact BkS.new _ _ _)
  obtain ⟨w2, hw2⟩ : ∃ w2, w1.alloc (.cells #[.int .i64 8, .int .i64 0, .int .i64 1, .int .i64 2, .int .u32 1, .int .i64 9, .int .i64 0, .int .i64 0, .int .i64 0, .int .u32 0] 37) = w2 := ⟨_, rfl⟩
  have A2 := Lib.hid (show Adds w1 w2 by rw [← hw2]; exact Adds.new _ _)
  have C2 := Lib.hid (show BkS 37 w2 w1.heap.size [.int .i64 8, .int .i64 0, .int .i64 1, .int .i64 2, .int .u32 1, .int .i64 9, .int .i64 0, .int .i64 0, .int .i64 0, .int .u32 0] by rw [← hw2]; exact BkS.new _ _ _)
  have hz2 : w2.heap.size = w1.heap.size + 1 := by rw [← hw2]; simp
  obtain ⟨w3, hw3⟩ : ∃ w3, w2.alloc (.cells #[.int .i64 3, .int .i64 0, .int .i64 0, .int .i64 1, .int .u32 1, .int .i64 9, .int .i64 0, .int .i64 0, .int .i64 0, .int .u32 0] 37) = w3 := ⟨_, rfl⟩
  have A3 := Lib.hid (show Adds w2 w3 by rw [← hw3]; exact Adds.new _ _)
  have C3 := Lib.hid (show BkS 37 w3 (w1.heap.size + 1) [.int .i64 3, .int .i64 0, .int .i64 0, .int .i64 1, .int .u32 1, .int .i64 9, .int .i64 0, .int .i64 0, .int .i64 0, .int .u32 0] by rw [← hw3, ← hz2]; exact BkS.new _ _ _)
  have hz3 : w3.heap.size = w1.heap.size + 1 + 1 := by rw [← hw3, ← hz2]; simp
  obtain ⟨w4, hw4⟩ : ∃ w4, w3.alloc (.cells #[.int .i64 3, .slice (some ⟨w1.heap.size, 0, none⟩) 2 2, .int .i64 2, .slice (some ⟨w1.heap.size + 1, 0, none⟩) 2 2] 72) = w4 := ⟨_, rfl⟩
  have A4 := Lib.hid (show Adds w3 w4 by rw [← hw4]; exact Adds.new _ _)
  have C4 := Lib.hid (show BkS 72 w4 (w1.heap.size + 1 + 1) [.int .i64 3, .slice (some ⟨w1.heap.size, 0, none⟩) 2 2, .int .i64 2, .slice (some ⟨w1.heap.size + 1, 0, none⟩) 2 2] by rw [← hw4, ← hz3]; exact BkS.new _ _ _)
  have A14 := Lib.hid (Adds.trans A2.out (Adds.trans A3.out A4.out))
  have C24 := Lib.hid (C2.out.adds (Adds.trans A3.out A4.out))
  have C34 := Lib.hid (C3.out.adds A4.out)
  have D1 := Lib.hid (B1.out.adds A14.out)
  have x0 := D1.out.cell 0
  have x1 := D1.out.cell 1
  have x2 := D1.out.cell 2
  have x3 := D1.out.cell 3
  have y0 := D1.out.free 0
  have y1 := D1.out.free 1
  have y2 := D1.out.free 2
  have y3 := D1.out.free 3
  have hmx : Tryz.prog.follows .mixedOrders = true := by kernel_rfl
  go_enter Tryz.func9, Tryz.ntmps9
  go_wp2
  obtain ⟨w5, hw5⟩ : ∃ w5, (((w4.setCell ⟨w.heap.size, 0, none⟩ (.slice (some ⟨w1.heap.size + 1 + 1, 0, none⟩) 2 2)).setCell ⟨w.heap.size, 1, none⟩ (.int .i64 0)).setCell ⟨w.heap.size, 2, none⟩ (.int .i64 0)).setCell ⟨w.heap.size, 3, none⟩ (.int .i64 0) = w5 := ⟨_, rfl⟩
  have hT : TnS w.heap.size w4 w5 := by rw [← hw5]; exact (((TnS.setCell _ _ _ _).trans (TnS.setCell _ _ _ _)).trans (TnS.setCell _ _ _ _)).trans (TnS.setCell _ _ _ _)
  have hD : BkS 28 w5 w.heap.size [.slice (some ⟨w1.heap.size + 1 + 1, 0, none⟩) 2 2, .int .i64 0, .int .i64 0, .int .i64 0] := by rw [← hw5]; exact (((D1.out.set 0 _).set 1 _).set 2 _).set 3 _
  have hlt := B1.out.lt
  have E2 := C24.out.tn hT (by omega)
  have E3 := C34.out.tn hT (by omega)
  have E4 := C4.out.tn hT (by omega)
  rw [hw5]
  (try simp only [Exit.inBlock, Exit.then])
  refine bodyPost_ret (res_box1 rfl _ _ _ _ _ _ _ rfl hD Tryz.underlying28 rfl (by kernel_rfl)) rfl ?_
  refine ⟨_, rfl, ⟨_, _, rfl, Nat.le_refl _, by unfold maxLen; decide, fun _ => ⟨_, 0, rfl, E4.lt, fun i hi => ?_⟩⟩, TnS.own (Adds.trans A1.out A14.out) (Nat.le_refl _) hT⟩
  have hi2 : i = 0 ∨ i = 1 := by simp at hi; omega
  have code : ∀ (g : Nat) (a b : In), BkS 37 w5 g (insC a ++ insC b) → CodeW w5.heap.size w5 (.slice (some ⟨g, 0, none⟩) 2 2) [a, b] := fun g a b hb => ⟨_, _, rfl, Nat.le_refl _, by unfold maxLen; decide, fun _ => ⟨g, 0, rfl, hb.lt, fun k hk => by
    have hk2 : k = 0 ∨ k = 1 := by simp at hk; omega
    rcases hk2 with rfl | rfl
    · exact ⟨hb.cell 0, hb.cell 1, hb.cell 2, hb.cell 3, hb.cell 4⟩
    · exact ⟨hb.cell 5, hb.cell 6, hb.cell 7, hb.cell 8, hb.cell 9⟩⟩⟩
  rcases hi2 with rfl | rfl
  · exact ⟨E4.cell 0, _, E4.cell 1, code _ (8, 0, 1, 2, 1) (9, 0, 0, 0, 0) E2, gP_ok _ (by simp)⟩
  · exact ⟨E4.cell 2, _, E4.cell 3, code _ (3, 0, 0, 1, 1) (9, 0, 0, 0, 0) E3, gP_ok _ (by simp)⟩
set_option maxRecDepth 100000 in
set_option maxHeartbeats 8000000 in
theorem works12 (w : World) : Calls Tryz.prog 18 #[] w fun e w' => e = .returned (.bool true) ∧ Adds w w' := by
  have HG := Lib.hid (given12 w)
  have HNw := Lib.hid (fun (W : World) (v : Value) (hf : FuncsW W.heap.size W v gP.1) => NewS_ok (w := W.alloc (.cells #[.int .u32 0, .int .u32 2, .int .u32 3] 22)) (m := W.heap.size + 1) v gP ((hf.adds (Adds.new _ _)).up (Nat.le_succ _)) gP_check gP_ok (by decide) (by decide) 0 (by decide) 3 rfl (by decide) (.slice (some ⟨W.heap.size, 0, none⟩) 3 3) [0, 2, 3] (cells32_lit W [0, 2, 3] (by unfold maxLen; decide)) (by decide))
  have HS := Lib.hid (fun (n : Nat) (W : World) (b : Nat) (L : List Fr) (res : UInt32) (most : Int) (h : PileP 34 n W b gP L res) (hs : Stands gP L) (q : List Fr × UInt32 × Int) (hq : stepP gP L res most = q) => StepS_live h hs (by decide) most q hq)
  have HR := Lib.hid (fun (n : Nat) (W : World) (b : Nat) (L : List Fr) (res : UInt32) (h : PileP 34 n W b gP L res) (i : Int) (k : Int) (hk : (((regOf L i).toNat : Nat) : Int) = k) => show Calls Tryz.prog 13 #[.pointer (some ⟨b, 0, none⟩), .int .i64 i] W fun e w' => e = .returned (.int .u32 k) ∧ Adds W w' from by rw [← hk]; exact RegS_any (v := .pointer (some ⟨b, 0, none⟩)) (.inr ⟨b, rfl, h⟩) h.low i)
  have HD := Lib.hid (fun (n : Nat) (W : World) (b : Nat) (L : List Fr) (res : UInt32) (h : PileP 34 n W b gP L res) => depthS_any (v := .pointer (some ⟨b, 0, none⟩)) (.inr ⟨b, rfl, h⟩) h.low)
  have HRs := Lib.hid (fun (n : Nat) (W : World) (b : Nat) (L : List Fr) (res : UInt32) (h : PileP 34 n W b gP L res) => resultS_any (v := .pointer (some ⟨b, 0, none⟩)) (.inr ⟨b, rfl, h⟩) h.low)
  go_enter Tryz.func18, Tryz.ntmps18
  have HLw := Lib.hid (fun (n : Nat) (W V : World) (hn : w.heap.size ≤ n) (ha : Adds w W) (hl : Low n W V) => show Adds w V from Below.trans ha (Below.less hl.b hn))
  go_wp2_with (first
    | (go_at_call 10; refine (num12 _ _).mono ?_; rintro e wn ⟨rfl, rfl⟩)
    | (go_at_call 9; refine HG.out.mono ?_; rintro e w1 ⟨v, rfl, hf, a1⟩; have A1 := Lib.hid a1; have HF := Lib.hid hf; clear hf a1 HG)
    | (go_at_call 8; refine (HNw.out w1 v HF.out).mono ?_; rintro e w2 ⟨b, rfl, hp, a2⟩; have A2 := Lib.hid (Adds.trans A1.out (Adds.trans (Adds.new _ _) a2)); have hnn := Nat.le_trans A1.out.size (Adds.new w1 (Obj.cells #[Value.int IntKind.u32 0, Value.int IntKind.u32 2, Value.int IntKind.u32 3] 22)).size; generalize (w1.alloc (Obj.cells #[Value.int IntKind.u32 0, Value.int IntKind.u32 2, Value.int IntKind.u32 3] 22)).heap.size = n at hp hnn; have HN := Lib.hid hnn; have P0 := Lib.hid (show PileP 34 n w2 b gP gL0 0 from hp); clear hp a2 hnn HF)
    | (go_at_call 11; with_reducible refine (HS.out n w2 b gL0 0 1 P0.out g_st0 _ g_s0).mono ?_; rintro e w3 ⟨rfl, _, hh⟩; have a3 := hh (by decide); have A3 := Lib.hid (Adds.trans A2.out a3); have P1 := Lib.hid (P0.out.adds a3); clear hh a3 P0)
    | (go_at_call 11; with_reducible refine (HS.out n w3 b gL0 0 2 P1.out g_st0 _ g_s1).mono ?_; rintro e w4 ⟨rfl, hh, _⟩; have hh2 := hh rfl; have A4 := Lib.hid (HLw.out n _ _ HN.out A3.out hh2.2); have P2 := Lib.hid hh2.1; clear hh hh2 P1)
    | (go_at_call 14; refine (HD.out n w4 b gL1 0 P2.out).mono ?_; rintro e w5 ⟨rfl, a5⟩; have A5 := Lib.hid (Adds.trans A4.out a5); have P3 := Lib.hid (P2.out.adds a5); clear a5 P2)
    | (go_at_call 13; refine (HR.out n w5 b gL1 0 P3.out 1 3 (by decide)).mono ?_; rintro e w6 ⟨rfl, a6⟩; have A6 := Lib.hid (Adds.trans A5.out a6); have P4 := Lib.hid (P3.out.adds a6); clear a6 P3)
    | (go_at_call 11; with_reducible refine (HS.out n w6 b gL1 0 2 P4.out g_st1 _ g_s2).mono ?_; rintro e w7 ⟨rfl, hh, _⟩; have hh2 := hh rfl; have A7 := Lib.hid (HLw.out n _ _ HN.out A6.out hh2.2); have P5 := Lib.hid hh2.1; clear hh hh2 P4)
    | (go_at_call 11; with_reducible refine (HS.out n w7 b gL2 0 2 P5.out g_st2 _ g_s3).mono ?_; rintro e w8 ⟨rfl, hh, _⟩; have hh2 := hh rfl; have A8 := Lib.hid (HLw.out n _ _ HN.out A7.out hh2.2); have P6 := Lib.hid hh2.1; clear hh hh2 P5)
    | (go_at_call 13; refine (HR.out n w8 b gL3 0 P6.out 0 5 (by decide)).mono ?_; rintro e w9 ⟨rfl, a9⟩; have A9 := Lib.hid (Adds.trans A8.out a9); have P7 := Lib.hid (P6.out.adds a9); clear a9 P6)
    | (go_at_call 11; with_reducible refine (HS.out n w9 b gL3 0 2 P7.out g_st3 _ g_s4).mono ?_; rintro e wa ⟨rfl, hh, _⟩; have hh2 := hh rfl; have AA := Lib.hid (HLw.out n _ _ HN.out A9.out hh2.2); have P8 := Lib.hid hh2.1; clear hh hh2 P7)
    | (go_at_call 14; refine (HD.out n wa b [] 5 P8.out).mono ?_; rintro e wb ⟨rfl, ab⟩; have AB := Lib.hid (Adds.trans AA.out ab); have P9 := Lib.hid (P8.out.adds ab); clear ab P8)
    | (go_at_call 15; refine (HRs.out n wb b [] 5 P9.out).mono ?_; rintro e wc ⟨rfl, ac⟩; have AC := Lib.hid (Adds.trans AB.out ac); clear ac P9))
  go_ret
  exact ⟨rfl, AC.out⟩
end Go.Proofs.YthhegcngkpfcoaaGreat
