/- The law SiteSets, walked. -/
import Derived.Sort.LoopGhostIn
import Derived.Shelf.SlIter.Collect
import Derived.Test.YtoeoeeomnbggkaaGreatDoorSWM
import Derived.Test.YtoeoeeomnbggkaaGreatDoorSIM
import Derived.Test.YtoeoeeomnbggkaaGreatDoorSI2
import Derived.Test.YtoeoeeomnbggkaaGreatDoorSKM
import Derived.Test.YtoeoeeomnbggkaaGreatDoorSRaM
import Derived.Test.YtoeoeeomnbggkaaGreatDoorTurn
import Derived.Test.YtoeoeeomnbggkaaGreatDoorInvIn
namespace Go.Proofs.YtoeoeeomnbggkaaGreatDoor
open Go Go.RowKit Go.Shelf Go.Maps
attribute [local go_sem] Oper.semAt_some

theorem seqP5_not_nil (fn : Fn) (a b : Array Value) (W : World) : (binOp .eql 40 (.func fn a b) .nilFunc).run Tryz.prog W = .ok (.bool false) W := by kernel_rfl
theorem wp_calm7 {P : Program} {c : Code} {Q : Exit → Act → World → Prop} {a : Act} {w : World} (h : c.wp P (Exit.then (Q .normal) (fun _ _ _ => False)) a w) : c.wp P Q a w :=
  Code.wp_mono (Q := Exit.then (Q .normal) (fun _ _ _ => False)) (fun e _ _ hq => by cases e <;> first | exact hq | exact hq.elim) h
theorem mem_sortP {L : List Pr} {x : Pr} : x ∈ sortP L ↔ x ∈ L := (sortP_perm L).mem_iff
theorem sortP_put {L : List Pr} {x : Pr} (h : L.Nodup) : sortP (if x ∈ L then L else x :: L) = addP (sortP L) x := by
  refine sortP_eq ?_ (addP_rise (sortP_rise h)) fun y => ?_
  · split
    · exact h
    · exact List.nodup_cons.2 ⟨by assumption, h⟩
  · rw [addP_mem, mem_sortP]
    by_cases hx : x ∈ L
    · rw [if_pos hx]
      constructor
      · exact .inr
      · rintro (rfl | h1)
        · exact hx
        · exact h1
    · rw [if_neg hx, List.mem_cons]

/-- A list of pairs that does not lie in block B. -/
def PairsA (B : Nat) (w : World) (u : Value) (l : List Pr) : Prop :=
  ∃ ao cap, u = .slice ao l.length cap ∧ l.length ≤ cap ∧ cap ≤ maxLen ∧ (l ≠ [] → ∃ g off, ao = some ⟨g, off, none⟩ ∧ g ≠ B ∧ ∀ i, i < l.length → At4 w g (off + i * 4) (atP l i))
theorem PairsA.w {B : Nat} {w : World} {u : Value} {l : List Pr} (h : PairsA B w u l) : PairsW w.heap.size w u l := by
  obtain ⟨ao, cap, e, h1, h2, h3⟩ := h
  refine ⟨ao, cap, e, h1, h2, fun hl => ?_⟩
  obtain ⟨g, off, e, _, hc⟩ := h3 hl
  exact ⟨g, off, e, World.block_lt_of_cell? w _ (hc 0 (List.length_pos_iff.2 hl)).1, hc⟩
theorem PairsA.k {B : Nat} {w : World} {u : Value} {l : List Pr} (h : PairsA B w u l) : PairsK (fun g => g = B) w u l := by
  obtain ⟨ao, cap, e, h1, h2, h3⟩ := h
  exact ⟨ao, cap, e, fun hl => by obtain ⟨g, off, e, hg, hc⟩ := h3 hl; exact ⟨g, off, e, hg, hc⟩⟩
theorem PairsA.keepC {B : Nat} {w w' : World} {u : Value} {l : List Pr} (h : PairsA B w u l) (hk : KeepC (fun g => g = B) w w') : PairsA B w' u l := by
  obtain ⟨ao, cap, e, h1, h2, h3⟩ := h
  exact ⟨ao, cap, e, h1, h2, fun hl => by obtain ⟨g, off, e, hg, hc⟩ := h3 hl; exact ⟨g, off, e, hg, fun i hi => (hc i hi).keepC hg hk⟩⟩
theorem PairsA.of {B n : Nat} {w : World} {u v : Value} {t : TypeId} {l : List Pr} (h : PairsW n w u l) (hb : Boxed w B t v) : PairsA B w u l := by
  obtain ⟨ao, cap, e, h1, h2, h3⟩ := h
  refine ⟨ao, cap, e, h1, h2, fun hl => ?_⟩
  obtain ⟨g, off, e, _, hc⟩ := h3 hl
  refine ⟨g, off, e, ?_, hc⟩
  rintro rfl
  have k := (hc 0 (List.length_pos_iff.2 hl)).2.1
  rw [cell_of_row7 w g _ _ _ _ hb] at k
  simp at k
theorem TnS.keepC {b : Nat} {L : List Pr} {v w : World} (M : Nat → Prop) (h : TnS b v w) (hs : SetAt v b L) : KeepC M v w := fun k c e f _ hk => by
  have hne : k ≠ b := by
    rintro rfl
    obtain ⟨n, es, ⟨es0, clock, h0, _⟩, _⟩ := hs
    rw [h0] at hk
    cases hk
  exact (h.block k (Array.getElem?_eq_some_iff.1 hk).1 (fun e => hne (by cases e; rfl))).trans hk

theorem RowS.pairs7 {base : Nat} {w : World} {v : Value} {l : List Pr} (h : RowS base w v l) : PairsW w.heap.size w v l := by
  rcases h.1.2 with ⟨rfl, h0⟩ | ⟨g, cap, cur, rfl, hb, hg, hnc, hcm, _, ht⟩
  · rw [List.eq_nil_of_length_eq_zero h0]; exact PairsW.nil _ _
  · refine ⟨_, cap, rfl, hnc, hcm, fun _ => ⟨g, 0, rfl, (Array.getElem?_eq_some_iff.1 hg).1, fun i hi => ?_⟩⟩
    have at_ : ∀ j, j < 4 → w.cell? ⟨g, 0 + i * 4 + j, none⟩ = (prC (atP l i))[j]? := fun j hj => by
      rw [cell_of_row7 w g _ _ _ _ hg, Nat.zero_add, ← flatP_get l i j hj hi, ← ht, List.getElem?_take_of_lt (by omega)]
      simp
    exact ⟨at_ 0 (by omega), at_ 1 (by omega), at_ 2 (by omega), at_ 3 (by omega)⟩
theorem PairsW.kM {n : Nat} {M : Nat → Prop} {w : World} {u : Value} {l : List Pr} (h : PairsW n w u l) (hM : ∀ k, M k → n ≤ k) : PairsK M w u l := by
  obtain ⟨ao, cap, e, h1, h2, h3⟩ := h
  exact ⟨ao, cap, e, fun hl => by obtain ⟨g, off, e, hg, hc⟩ := h3 hl; exact ⟨g, off, e, fun hm => by have := hM g hm; omega, hc⟩⟩
/-- A frame and a world that are these. -/
def Same7 (b a : Act) (w2 w : World) : Prop := b = a ∧ w2 = w

/-- A set, beside the document's own list. -/
structure Half (n2 bp b B : Nat) (w1 : World) (L wl : List Pr) (u : Value) (w : World) : Prop where
  set : SetP w (.pointer (some ⟨bp, 0, none⟩)) bp b L
  box : Boxed w B 22 u
  row : PairsA B w u wl
  low : Below n2 w1 w
theorem Half.adds {n2 bp b B : Nat} {w1 w w' : World} {L wl : List Pr} {u : Value} (h : Half n2 bp b B w1 L wl u w) (hn : n2 ≤ w1.heap.size) (ha : Adds w w') : Half n2 bp b B w1 L wl u w' :=
  ⟨h.set.adds ha, boxed_adds h.box ha, h.row.keepC (KeepC.of_below ha), h.low.trans (Below.mono ha (Nat.le_trans hn h.low.size))⟩
theorem Half.turn {n2 bp b B : Nat} {w1 w w' : World} {L L' wl : List Pr} {u : Value} (h : Half n2 bp b B w1 L wl u w) (hn : n2 ≤ w1.heap.size) (hb : n2 ≤ b) (ht : TnS b w w') (hs : SetP w' (.pointer (some ⟨bp, 0, none⟩)) bp b L') : Half n2 bp b B w1 L' wl u w' :=
  ⟨hs, (TnS.keepC (fun _ => False) ht h.set.set) B _ _ _ (fun h => h) h.box, h.row.keepC (ht.keepC _ h.set.set), h.low.trans (ht.below7 hb (Nat.le_trans hn h.low.size))⟩
theorem Half.store {n2 bp b B : Nat} {w1 w : World} {L wl wl' : List Pr} {u u' : Value} {n : Nat} (h : Half n2 bp b B w1 L wl u w) (hB : n2 ≤ B) (h1 : B ≠ bp) (h2 : B ≠ b) (hu : PairsW n w u' wl') : Half n2 bp b B w1 L wl' u' (w.setCell ⟨B, 0, none⟩ u') :=
  ⟨⟨h.set.ptr, (Below.heap_setCell w ⟨B, 0, none⟩ u' bp (fun e => h1 e.symm)).trans h.set.box, h.set.set.same (Below.heap_setCell w ⟨B, 0, none⟩ u' b (fun e => h2 e.symm))⟩,
    h.box.set u', (PairsA.of hu h.box).keepC (keepC_setT _ _ _), h.low.setCell (p := ⟨B, 0, none⟩) hB _⟩
/-- How the law stands at a round's head of its first loop. -/
def FirstHead (n2 bp b B : Nat) (w1 : World) (l : List Pr) (s8 s9 : Value) (wr : World) : Prop :=
  ∃ (k : Nat) (L : List Pr) (u : Value), k ≤ l.length ∧ s9 = .int .i64 ((k : Nat) : Int) ∧ s8 = .bool ((l.take k).all mayP) ∧ (∀ y ∈ L, mayP y = true) ∧ L.length ≤ k ∧ Half n2 bp b B w1 L (sortP L) u wr
theorem may_take {l : List Pr} {k : Nat} (hk : k < l.length) : (l.take (k + 1)).all mayP = ((l.take k).all mayP && mayP (atP l k)) := by
  rw [take_at hk, List.all_append]; simp
theorem sortP_nil : sortP [] = [] := by simp [sortP]

/-- How the law stands ahead of turn t. -/
def SetsTurn (n0 n1 B Bw : Nat) (w7 : World) (g : Nat) (aa : Act) (W : World) : Prop :=
  ∃ (t Bt : Nat) (ds : List Deferred) (f : Nat → Value), t + g = 2 ∧ aa = { tmps := #[f 0, f 1, f 2, Value.pointer (some { block := n0, off := 0 }), Value.pointer (some { block := n1, off := 0 }), f 5, f 6, Value.pointer (some { block := B, off := 0 }), f 8, f 9, f 10, f 11, f 12, f 13, f 14, Value.func (Fn.func 25) #[] #[Value.pointer (some { block := Bw, off := 0 })], Value.pointer (some { block := Bt, off := 0 }), f 17, f 18, f 19, f 20, f 21, f 22, f 23, f 24, f 25, f 26, f 27, f 28, f 29, f 30, f 31, f 32, f 33, f 34, f 35, f 36, f 37, f 38, f 39, f 40, f 41, f 42, f 43, f 44, f 45, f 46, f 47, f 48, f 49, f 50, f 51, f 52, f 53, f 54, f 55, f 56, f 57, f 58, f 59, f 60, f 61, f 62, f 63, f 64, f 65, f 66, f 67, f 68, f 69, f 70, f 71, f 72, f 73, f 74, f 75, f 76, f 77, f 78, f 79, f 80, f 81, f 82, f 83, f 84, f 85, f 86, f 87, f 88, f 89, f 90, f 91, f 92, f 93, f 94, f 95, f 96, f 97, f 98, f 99, f 100, f 101, f 102, f 103, f 104, f 105, f 106, f 107, f 108, f 109, f 110, f 111, f 112, f 113, f 114, f 115, f 116, f 117, f 118, f 119, f 120, f 121, f 122, f 123, f 124, f 125, f 126, f 127, f 128, f 129, f 130, f 131, f 132, f 133, f 134, f 135, f 136, f 137, f 138, f 139, f 140, f 141, f 142, f 143, f 144, f 145, f 146, f 147, f 148, f 149, f 150, f 151, f 152, f 153, f 154, f 155, f 156, f 157, f 158, f 159, f 160, f 161, f 162, f 163, f 164, f 165, f 166, f 167, f 168, f 169, f 170, f 171, f 172, f 173, f 174, f 175, f 176, f 177, f 178, f 179, f 180, f 181, f 182, f 183, f 184, f 185, f 186, f 187, f 188, f 189, f 190], defers := ds } ∧ Below w7.heap.size w7 W ∧ w7.heap.size ≤ Bt ∧ Boxed W Bt 3 (.int .i64 (t : Nat)) ∧ Marks w7.heap.size W.heap.size W ds
set_option maxRecDepth 100000 in
theorem SetsTurn.mk (n0 n1 B Bw : Nat) (w7 : World) {g : Nat} {aa : Act} {W : World} (t Bt : Nat) (hg : t + g = 2) (hs : aa.tmps.size = 191) (h3 : aa.tmps[3]? = some (Value.pointer (some { block := n0, off := 0 }))) (h4 : aa.tmps[4]? = some (Value.pointer (some { block := n1, off := 0 }))) (h7 : aa.tmps[7]? = some (Value.pointer (some { block := B, off := 0 }))) (h15 : aa.tmps[15]? = some (Value.func (Fn.func 25) #[] #[Value.pointer (some { block := Bw, off := 0 })])) (h16 : aa.tmps[16]? = some (Value.pointer (some { block := Bt, off := 0 })))
    (hb : Below w7.heap.size w7 W) (hB : w7.heap.size ≤ Bt) (hx : Boxed W Bt 3 (.int .i64 (t : Nat))) (hm : Marks w7.heap.size W.heap.size W aa.defers) : SetsTurn n0 n1 B Bw w7 g aa W := by
  rcases aa with ⟨tmps, ds⟩
  obtain ⟨f, rfl⟩ := arr_fun tmps 191 hs
  have e3 : f 3 = Value.pointer (some { block := n0, off := 0 }) := Option.some.inj h3; have e4 : f 4 = Value.pointer (some { block := n1, off := 0 }) := Option.some.inj h4; have e7 : f 7 = Value.pointer (some { block := B, off := 0 }) := Option.some.inj h7; have e15 : f 15 = Value.func (Fn.func 25) #[] #[Value.pointer (some { block := Bw, off := 0 })] := Option.some.inj h15; have e16 : f 16 = Value.pointer (some { block := Bt, off := 0 }) := Option.some.inj h16
  refine ⟨t, Bt, ds, f, hg, ?_, hb, hB, hx, hm⟩
  show ({ tmps := #[f 0, f 1, f 2, f 3, f 4, f 5, f 6, f 7, f 8, f 9, f 10, f 11, f 12, f 13, f 14, f 15, f 16, f 17, f 18, f 19, f 20, f 21, f 22, f 23, f 24, f 25, f 26, f 27, f 28, f 29, f 30, f 31, f 32, f 33, f 34, f 35, f 36, f 37, f 38, f 39, f 40, f 41, f 42, f 43, f 44, f 45, f 46, f 47, f 48, f 49, f 50, f 51, f 52, f 53, f 54, f 55, f 56, f 57, f 58, f 59, f 60, f 61, f 62, f 63, f 64, f 65, f 66, f 67, f 68, f 69, f 70, f 71, f 72, f 73, f 74, f 75, f 76, f 77, f 78, f 79, f 80, f 81, f 82, f 83, f 84, f 85, f 86, f 87, f 88, f 89, f 90, f 91, f 92, f 93, f 94, f 95, f 96, f 97, f 98, f 99, f 100, f 101, f 102, f 103, f 104, f 105, f 106, f 107, f 108, f 109, f 110, f 111, f 112, f 113, f 114, f 115, f 116, f 117, f 118, f 119, f 120, f 121, f 122, f 123, f 124, f 125, f 126, f 127, f 128, f 129, f 130, f 131, f 132, f 133, f 134, f 135, f 136, f 137, f 138, f 139, f 140, f 141, f 142, f 143, f 144, f 145, f 146, f 147, f 148, f 149, f 150, f 151, f 152, f 153, f 154, f 155, f 156, f 157, f 158, f 159, f 160, f 161, f 162, f 163, f 164, f 165, f 166, f 167, f 168, f 169, f 170, f 171, f 172, f 173, f 174, f 175, f 176, f 177, f 178, f 179, f 180, f 181, f 182, f 183, f 184, f 185, f 186, f 187, f 188, f 189, f 190], defers := ds } : Act) = _
  simp only [e3, e4, e7, e15, e16]


set_option maxRecDepth 100000 in
set_option maxHeartbeats 32000000 in
theorem law_sets7 (v : Value) (l : List Pr) (m : Int) (w : World) (hl : PairsW w.heap.size w v l) (hok : ∀ y ∈ l, okPr y) (hv : SVars w) :
    Calls Tryz.prog 3 #[v, .int .i64 m] w (TrueAdds w) := by
  have HV := Lib.hid hv; have HOK := Lib.hid hok
  have HNum := Lib.hid num_site
  have hnn := seqP5_not_nil
  have hmo : Tryz.prog.follows .mixedOrders = true := by kernel_rfl
  clear hv hok
  obtain ⟨ao, cap, rfl, h1, h2, _⟩ := id hl
  have HL := Lib.hid hl
  clear hl
  unfold maxLen at h2
  refine (callsIn_wide (n := 9)).1 ?_
  refine callsIn_of_wp_marks Tryz.func3 rfl trivial ?_ rfl
  simp only [Tryz.ntmps3, List.size_toArray, List.length_cons, List.length_nil, Nat.reduceAdd, Nat.reduceSub, Array.replicate_succ, Array.replicate_zero, List.push_toArray, List.append_toArray, List.nil_append, List.cons_append]
  obtain ⟨w1, hw1⟩ : ∃ w1, (w.alloc (.cells #[.int .i64 m] 3)).alloc (.cells #[.bool false] 4) = w1 := ⟨_, rfl⟩
  have A1 := Lib.hid (show Adds w w1 by rw [← hw1]; exact Adds.trans (Adds.new _ _) (Adds.new _ _))
  have HS1 := Lib.hid (show w1.heap.size = w.heap.size + 1 + 1 by rw [← hw1]; simp)
  have HB3 := Lib.hid (show Boxed w1 w.heap.size 3 (.int .i64 m) by rw [← hw1]; exact (Below.block (Adds.new _ _) _ (by simp)).trans (World.alloc_heap_new w _))
  have HB4 := Lib.hid (show Boxed w1 (w.heap.size + 1) 4 (.bool false) by rw [← hw1]; have := World.alloc_heap_new (w.alloc (.cells #[.int .i64 m] 3)) (.cells #[.bool false] 4); unfold Boxed; simpa using this)
  have HW1 := Lib.hid hw1
  have HWk := Lib.hid (fun (W : World) (h : Adds w W) => works_any W (HV.out.below h))
  by_cases h30 : 30 < l.length
  · have h30' : (30 : Int) < (l.length : Int) := by omega
    clear h30
    have HK := Lib.hid (hw1 ▸ HWk.out w1 A1.out)
    clear hw1
    gi_wp2_with (refine ⟨trivial, ?_⟩; gi_at_call 4; refine (callsIn_wide.2 HK.out).mono ?_; rintro z w2 ⟨rfl, a2⟩; rw [HW1.out] at a2; have hbr := boxed_adds HB4.out a2; have c4 := hbr.cell; have f4 := hbr.frozen; have HBRR := Lib.hid hbr; clear hbr; have A2 := Lib.hid a2; clear a2)
    show LeavesInM _ _ _ _ _ _ _ _ _
    refine marks_leave [] w.heap.size _ (B := w.heap.size + 1 + 1) trivial fun W'' hb'' => ⟨.bool true, results_box rfl Tryz.underlying4 _ _ _ (.bool true) rfl (boxed_below (HBRR.out.set (.bool true)) hb'' (by omega)).cell, rfl, ?_⟩
    have h0 : Below w.heap.size w w2 := Adds.trans A1.out A2.out
    exact h0.trans (((Below.refl w.heap.size w2).setCell (p := ⟨w.heap.size + 1, 0, none⟩) (by show w.heap.size ≤ w.heap.size + 1; omega) _).trans (hb''.mono (by omega)))
  · have h30' : ¬ (30 : Int) < (l.length : Int) := by omega
    have H30 := Lib.hid h30
    clear h30
    have HNw := Lib.hid (w_new w1)
    rw [← hw1] at HNw
    clear hw1
    gi_wp2_with (refine ⟨trivial, ?_⟩; gi_at_call 5; refine (callsIn_wide.2 HNw.out).mono ?_; rintro e w2 ⟨bp, b, rfl, q1, q2, q3, q4⟩; rw [HW1.out] at q2 q3 q4; have HSet2 := Lib.hid q1; have HBp := Lib.hid (And.intro q2 q3); have A12 := Lib.hid q4; clear q1 q2 q3 q4)
    obtain ⟨n0, hn0⟩ : ∃ n0, w.heap.size = n0 := ⟨_, rfl⟩
    have HN0 := Lib.hid hn0
    obtain ⟨n1, hn1⟩ : ∃ n1, n0 + 1 = n1 := ⟨_, rfl⟩
    have HN1 := Lib.hid hn1
    rw [hn0, hn1] at HB4 HS1
    rw [hn0] at HB3
    rw [hn0, hn1]
    clear hn0 hn1
    obtain ⟨w3, hw3⟩ : ∃ w3, w2.alloc (.cells #[.slice none 0 0] 22) = w3 := ⟨_, rfl⟩
    obtain ⟨B, hB⟩ : ∃ B, w2.heap.size = B := ⟨_, rfl⟩
    have A23 := Lib.hid (show Adds w2 w3 by rw [← hw3]; exact Adds.new _ _)
    have HBx := Lib.hid (show Boxed w3 B 22 (.slice none 0 0) by rw [← hw3, ← hB]; exact Boxed.new _ _ _)
    have HBb := Lib.hid (show B ≠ bp ∧ B ≠ b ∧ w1.heap.size ≤ B ∧ w1.heap.size ≤ b from by
      have h1 := HSet2.out.box.lt
      have h2 := HSet2.out.set.lt
      have h3 := A12.out.size
      have h4 := HBp.out
      omega)
    rw [hw3, hB]
    clear hw3 hB
    gi_loopw [8, 9] (fun s8 s9 wr => FirstHead w1.heap.size bp b B w1 l s8 s9 wr) (fun _ s9 _ => l.length - (intOf s9).toNat)
    case atStart =>
      exact ⟨0, [], .slice none 0 0, Nat.zero_le _, rfl, rfl, by simp, Nat.le_refl _, HSet2.out.adds A23.out, HBx.out, (by rw [sortP_nil]; exact PairsA.of (PairsW.nil 0 _) HBx.out), Adds.trans A12.out A23.out⟩
    case round =>
      obtain ⟨k, L, u, hk, rfl, rfl, hmay, hLk, hH⟩ := hrel
      have HH := Lib.hid hH; have HMay := Lib.hid hmay; have HK := Lib.hid hk; have HLk := Lib.hid hLk
      clear hH hmay hk hLk
      by_cases hlt : k < l.length
      · obtain ⟨ao', cap', e, _, _, h3⟩ := HL.out
        simp only [Value.slice.injEq, true_and] at e
        obtain ⟨rfl, rfl⟩ := e
        obtain ⟨g, off, rfl, hg, hc⟩ := h3 (by rintro rfl; simp at hlt)
        have HAt := Lib.hid (hc k hlt)
        have HMT := Lib.hid (may_take hlt)
        have HOx := Lib.hid (HOK.out _ (atP_mem hlt))
        obtain ⟨x, hxe⟩ : ∃ x, atP l k = x := ⟨_, rfl⟩
        rw [hxe] at HAt HMT HOx
        have HLt := Lib.hid hlt
        have hltI : (k : Int) < (l.length : Int) := by omega
        have hkI : (k : Int) ≤ 30 := by have := H30.out; omega
        have HG := Lib.hid hg
        clear h3 hc hxe hlt hg
        obtain ⟨fi, hfi⟩ : ∃ fi, (l.take k).all mayP = fi := ⟨_, rfl⟩
        rw [hfi] at HMT ⊢
        clear hfi
        obtain ⟨au, cu, rfl, hu1, hu2, _⟩ := HH.out.row.w
        have HCu := Lib.hid (And.intro hu1 hu2)
        clear hu1 hu2
        obtain ⟨⟨x1, x2⟩, ⟨x3, x4⟩⟩ := x
        have HDq := Lib.hid (show ∀ W, Below w1.heap.size w1 W → W.cell? ⟨g, off + k * 4, none⟩ = some (.int .i64 x1) ∧ W.cell? ⟨g, off + k * 4 + 1, none⟩ = some (.int .i64 x2) ∧ W.cell? ⟨g, off + k * 4 + 2, none⟩ = some (.int .i64 x3) ∧ W.cell? ⟨g, off + k * 4 + 3, none⟩ = some (.int .i64 x4) from fun W h => HAt.out.below HG.out (Adds.trans A1.out (show Adds w1 W from h)))
        have hsz1 : w1.heap.size ≤ wr.heap.size := HH.out.low.size
        have HSz := Lib.hid hsz1
        clear hsz1
        have HN := Lib.hid (show (sortP L).length ≤ 30 by rw [sortP_length]; have := HLk.out; have := HK.out; have := H30.out; omega)
        have HHas := Lib.hid (fun (W : World) (h : Gr wr.drew W) => refHas_any (n := wr.heap.size) (.slice au (sortP L).length cu) (sortP L) ((x1, x2), (x3, x4)) (by have := HN.out; omega) W (Nat.le_trans (Adds.drew wr).size h.adds.size) (HH.out.row.w.below (Adds.trans (Adds.drew wr) h.adds)))
        have HD := Lib.hid (show ∀ w', Gr wr.drew w' → w'.cell? ⟨B, 0, none⟩ = some (.slice au (sortP L).length cu) ∧ w'.cell? ⟨g, off + k * 4, none⟩ = some (.int .i64 x1) ∧ w'.cell? ⟨g, off + k * 4 + 1, none⟩ = some (.int .i64 x2) ∧ w'.cell? ⟨g, off + k * 4 + 2, none⟩ = some (.int .i64 x3) ∧ w'.cell? ⟨g, off + k * 4 + 3, none⟩ = some (.int .i64 x4) from fun w' h => by
          have ha := HH.out.adds (Nat.le_refl _) (Adds.trans (Adds.drew wr) h.adds)
          exact ⟨ha.box.cell, HDq.out w' ha.low⟩)
        obtain ⟨hd, hhd⟩ : ∃ hd, decide (((x1, x2), (x3, x4)) ∈ sortP L) = hd := ⟨_, rfl⟩
        rw [hhd] at HHas
        have HHd := Lib.hid hhd
        clear hhd
        gi_wp2
        refine wpIn_wide.2 ?_
        refine wp_region_loose [] (fun _ _ _ => True) Gr (by kernel_rfl) (by kernel_rfl) (by simp) Gr.refl (fun _ _ _ h k => Gr.trans h k) (fun _ _ _ _ _ _ => trivial) ?_
        repeat (refine wpL_step (fun K hK => ?_); first
          | (refine stepL_ex rfl rfl rfl Gr.refl (fun w' hw' => rfl) ?_; go_simp; refine hK _ ?_; clear hK K)
          | (refine stepL_ex (v := .slice au (sortP L).length cu) rfl rfl rfl Gr.refl ?_ ?_; (· (intro w' hw'; clear hK; have hc := HD.out w' hw'; go_simp)); go_simp; refine hK _ ?_; clear hK K)
          | (refine stepL_ex (v := .pointer (some ⟨g, off + k * 4, none⟩)) rfl rfl rfl Gr.refl ?_ ?_; (· (intro w' hw'; clear hK; go_simp)); go_simp; refine hK _ ?_; clear hK K)
          | (refine stepL_ex (v := .agg #[.int .i64 x1, .int .i64 x2, .int .i64 x3, .int .i64 x4]) rfl rfl rfl Gr.refl ?_ ?_; (· (intro w' hw'; clear hK; have hc := HD.out w' hw'; go_simp)); go_simp; refine hK _ ?_; clear hK K)
          | (refine stepL_call (v := .bool hd) (f := 6) (args := #[.slice au (sortP L).length cu, .agg #[.int .i64 x1, .int .i64 x2, .int .i64 x3, .int .i64 x4]]) rfl rfl rfl ?_ (fun w' hw' => HHas.out w' hw') ?_; (· (intro w'; clear hK; go_simp)); go_simp; refine hK _ ?_; clear hK K))
        refine wpL_nil ?_
        intro wa aa
        simp only [forL]
        have HHa := Lib.hid (HH.out.adds (Nat.le_refl _) (Adds.trans (Adds.drew wr) aa.adds))
        clear aa HHas HD
        obtain ⟨j0, j1, j2, j3⟩ := HDq.out wa HHa.out.low
        cases hm : mayP ((x1, x2), (x3, x4))
        · have HAd := Lib.hid (add_bad bp b _ L _ hm wa HHa.out.set)
          have hRP := fun W => refPair_any ((x1, x2), (x3, x4)) W
          rw [hm] at hRP
          have HRP := Lib.hid hRP
          have HHs := Lib.hid (fun (W : World) (h : Half w1.heap.size bp b B w1 L (sortP L) (.slice au (sortP L).length cu) W) => has_some bp b _ L _ HOx.out W h.set)
          rw [show decide (((x1, x2), (x3, x4)) ∈ L) = false by rw [decide_eq_false_iff_not]; intro hin; have := HMay.out _ hin; rw [hm] at this; cases this] at HHs
          have HFm := Lib.hid hm
          clear hm hRP
          gi_wp2_with (first
            | (refine ⟨trivial, ?_⟩; gi_at_call 7; refine (callsIn_wide.2 HAd.out).mono ?_; rintro e wb ⟨rfl, h⟩; have HHb := Lib.hid (HHa.out.adds (Nat.le_refl _) h.adds); obtain ⟨j4, j5, j6, j7⟩ := HDq.out wb HHb.out.low; clear h)
            | (refine ⟨trivial, ?_⟩; gi_at_call 8; refine (callsIn_wide.2 (HRP.out _)).mono ?_; rintro e wc ⟨rfl, h⟩; have HHc := Lib.hid (HHb.out.adds (Nat.le_refl _) h.adds); obtain ⟨i4, i5, i6, i7⟩ := HDq.out wc HHc.out.low; clear h)
            | (refine ⟨trivial, ?_⟩; gi_at_call 9; refine (callsIn_wide.2 (HNum.out _ _)).mono ?_; rintro e w9 ⟨rfl, rfl⟩)
            | (refine ⟨trivial, ?_⟩; gi_at_call 10; refine (callsIn_wide.2 (HHs.out _ HHc.out)).mono ?_; rintro e wd ⟨rfl, h⟩; have HHe := Lib.hid (HHc.out.adds (Nat.le_refl _) h.adds); clear h))
          go_roundw
          case rel => exact ⟨k + 1, L, _, HLt.out, rfl, by rw [HMT.out, HFm.out]; simp, HMay.out, by have := HLk.out; omega, HHe.out⟩
          case measure => simp [intOf]; have := HLt.out; omega
        · have HAd := Lib.hid (add_yes bp b _ L _ HOx.out hm (by have := HLk.out; have := HK.out; have := H30.out; omega) wa HHa.out.set)
          have hRP := fun W => refPair_any ((x1, x2), (x3, x4)) W
          rw [hm] at hRP
          have HRP := Lib.hid hRP
          have HSP := Lib.hid (sortP_put (x := ((x1, x2), (x3, x4))) HH.out.set.set.nodup)
          have HFm := Lib.hid hm
          clear hRP
          obtain ⟨L', hL'⟩ : ∃ L', (if ((x1, x2), (x3, x4)) ∈ L then L else ((x1, x2), (x3, x4)) :: L) = L' := ⟨_, rfl⟩
          have HL' := Lib.hid (show (∀ y ∈ L', mayP y = true) ∧ L'.length ≤ k + 1 ∧ ((x1, x2), (x3, x4)) ∈ L' by
            rw [← hL']
            split
            · rename_i hin
              exact ⟨HMay.out, by have := HLk.out; omega, hin⟩
            · refine ⟨fun y hy => ?_, by have := HLk.out; simp; omega, by simp⟩
              rcases List.mem_cons.1 hy with rfl | hy
              · exact hm
              · exact HMay.out y hy)
          rw [hL'] at HAd HSP
          rw [show decide (((x1, x2), (x3, x4)) ∉ L) = !hd by rw [← HHd.out]; simp [mem_sortP]] at HAd
          clear hm hL'
          have HHs := Lib.hid (fun (W : World) (u : Value) (h : Half w1.heap.size bp b B w1 L' (sortP L') u W) => has_some bp b _ L' _ HOx.out W h.set)
          rw [decide_eq_true HL'.out.2.2] at HHs
          have HLn := Lib.hid (fun (W : World) (u : Value) (h : Half w1.heap.size bp b B w1 L' (sortP L') u W) => len_some bp b _ L' W h.set)
          gi_wp2_with (first
            | (refine ⟨trivial, ?_⟩; gi_at_call 7; refine (callsIn_wide.2 HAd.out).mono ?_; rintro e wb ⟨rfl, s, t⟩; have HHb := Lib.hid (HHa.out.turn (Nat.le_refl _) HBb.out.2.2.2 t s); obtain ⟨j4, j5, j6, j7⟩ := HDq.out wb HHb.out.low; clear s t)
            | (refine ⟨trivial, ?_⟩; gi_at_call 8; refine (callsIn_wide.2 (HRP.out _)).mono ?_; rintro e wc ⟨rfl, h⟩; have HHc := Lib.hid (HHb.out.adds (Nat.le_refl _) h.adds); obtain ⟨i4, i5, i6, i7⟩ := HDq.out wc HHc.out.low; clear h))
          have cB := HHc.out.box.cell
          have HRA := Lib.hid (refAdd_any (n := wc.heap.size) (.slice au (sortP L).length cu) (sortP L) ((x1, x2), (x3, x4)) (by have := HN.out; omega) wc.drew (Adds.drew wc).size (HHc.out.row.w.below (Adds.drew wc)))
          rw [← HSP.out] at HRA
          refine wpIn_wide.2 ?_
          refine wp_calm7 ?_
          go_region_with (go_at_call 11; refine HRA.out.mono ?_; rintro e wd ⟨u', rfl, q1, q2⟩; have HHd2 := Lib.hid (HHc.out.adds (Nat.le_refl _) (Adds.trans (Adds.drew wc) q2)); have HQ1 := Lib.hid q1; obtain ⟨a', c', rfl, _⟩ := q1; have cB2 := HHd2.out.box.cell; have fB2 := HHd2.out.box.frozen; clear q2)
          all_goals
            simp only [Exit.then]
            go_simp
            obtain ⟨we, hwe⟩ : ∃ we, wd.setCell ⟨B, 0, none⟩ (.slice a' (sortP L').length c') = we := ⟨_, rfl⟩
            have HHe := Lib.hid (show Half w1.heap.size bp b B w1 L' (sortP L') (.slice a' (sortP L').length c') we by rw [← hwe]; exact HHd2.out.store HBb.out.2.2.1 HBb.out.1 HBb.out.2.1 HQ1.out)
            rw [hwe]
            clear hwe cB2 fB2 HHd2 HQ1 HRA cB i4 i5 i6 i7 j4 j5 j6 j7 j0 j1 j2 j3
            have HD := Lib.hid (show ∀ w', Gr we.drew w' → Half w1.heap.size bp b B w1 L' (sortP L') (.slice a' (sortP L').length c') w' from fun w' h => HHe.out.adds (Nat.le_refl _) (Adds.trans (Adds.drew we) h.adds))
            have HDc := Lib.hid (show ∀ w', Gr we.drew w' → w'.cell? ⟨B, 0, none⟩ = some (.slice a' L'.length c') ∧ w'.cell? ⟨g, off + k * 4, none⟩ = some (.int .i64 x1) ∧ w'.cell? ⟨g, off + k * 4 + 1, none⟩ = some (.int .i64 x2) ∧ w'.cell? ⟨g, off + k * 4 + 2, none⟩ = some (.int .i64 x3) ∧ w'.cell? ⟨g, off + k * 4 + 3, none⟩ = some (.int .i64 x4) from fun w' h => by
              have := (HD.out w' h).box.cell
              rw [sortP_length] at this
              exact ⟨this, HDq.out w' (HD.out w' h).low⟩)
            rw [sortP_length] at HHe HD ⊢
            have HNum16 := Lib.hid (fun (W : World) (h : Gr we.drew W) => h)
            cases hd
            all_goals
              gi_wp2
              refine wpIn_wide.2 ?_
              refine wp_region_loose [] (fun _ _ _ => True) Gr (by kernel_rfl) (by kernel_rfl) (by simp) Gr.refl (fun _ _ _ h k => Gr.trans h k) (fun _ _ _ _ _ _ => trivial) ?_
              repeat (refine wpL_step (fun K hK => ?_); first
                | (refine stepL_ex rfl rfl rfl Gr.refl (fun w' hw' => rfl) ?_; go_simp; refine hK _ ?_; clear hK K)
                | (refine stepL_ex (v := .pointer (some ⟨g, off + k * 4, none⟩)) rfl rfl rfl Gr.refl ?_ ?_; (· (intro w' hw'; clear hK; go_simp)); go_simp; refine hK _ ?_; clear hK K)
                | (refine stepL_ex (v := .slice a' L'.length c') rfl rfl rfl Gr.refl ?_ ?_; (· (intro w' hw'; clear hK; have hc := HDc.out w' hw'; go_simp)); go_simp; refine hK _ ?_; clear hK K)
                | (refine stepL_ex (v := .agg #[.int .i64 x1, .int .i64 x2, .int .i64 x3, .int .i64 x4]) rfl rfl rfl Gr.refl ?_ ?_; (· (intro w' hw'; clear hK; have hc := HDc.out w' hw'; go_simp)); go_simp; refine hK _ ?_; clear hK K)
                | (refine stepL_ex (v := .bool false) rfl rfl rfl Gr.refl ?_ ?_; (· (intro w' hw'; clear hK; go_simp)); go_simp; refine hK _ ?_; clear hK K)
                | (refine stepL_ex (v := .int .i64 L'.length) rfl rfl rfl Gr.refl ?_ ?_; (· (intro w' hw'; clear hK; go_simp)); go_simp; refine hK _ ?_; clear hK K)
                | (refine stepL_call (v := .int .i64 0) (f := 9) (args := #[.int .i64 0]) rfl rfl rfl ?_ (fun w' _ => (HNum.out 0 w').mono fun _ _ ⟨q1, q2⟩ => ⟨q1, q2 ▸ Gr.refl _⟩) ?_; (· (intro w'; clear hK; go_simp)); go_simp; refine hK _ ?_; clear hK K)
                | (refine stepL_call (v := .bool true) (f := 10) (args := #[.pointer (some ⟨bp, 0, none⟩), .agg #[.int .i64 x1, .int .i64 x2, .int .i64 x3, .int .i64 x4]]) rfl rfl rfl ?_ (fun w' hw' => HHs.out w' _ (HD.out w' hw')) ?_; (· (intro w'; clear hK; go_simp)); go_simp; refine hK _ ?_; clear hK K)
                | (refine stepL_call (v := .int .i64 ((L'.length : Nat) : Int)) (f := 12) (args := #[.pointer (some ⟨bp, 0, none⟩)]) rfl rfl rfl ?_ (fun w' hw' => (HLn.out w' _ (HD.out w' hw')).mono fun _ _ ⟨q1, q2⟩ => ⟨q1, q2 ▸ Gr.refl _⟩) ?_; (· (intro w'; clear hK; go_simp)); go_simp; refine hK _ ?_; clear hK K))
              refine wpL_nil ?_
              intro wf af
              simp only [forL]
              have HHf := Lib.hid (HD.out wf af)
              clear af
              gi_wp2
              go_roundw
              case rel => exact ⟨k + 1, L', _, HLt.out, rfl, by rw [HMT.out, HFm.out]; simp, HL'.out.1, HL'.out.2.1, HHf.out⟩
              case measure => simp [intOf]; have := HLt.out; omega
      · obtain rfl : k = l.length := by have := HK.out; omega
        rw [List.take_length]
        have HL20 := Lib.hid (show L.length ≤ 30 by have := HLk.out; have := H30.out; omega)
        have HNP := Lib.hid (new_any (n := w.heap.size) _ l (by have := H30.out; omega) HOK.out wr (Nat.le_trans A1.out.size HH.out.low.size) (HL.out.below (Adds.trans A1.out (show Adds w1 wr from HH.out.low))))
        have HAll := Lib.hid (fun (W : World) (h : Adds wr W) => all_some bp b _ L (by have := HL20.out; omega) W (HH.out.set.adds h))
        have HHn := Lib.hid (fun (W : World) (h : Adds wr W) => HH.out.adds (Nat.le_refl _) h)
        obtain ⟨au, cu, rfl, hu1, hu2, _⟩ := HH.out.row.w
        have HCu := Lib.hid (And.intro hu1 hu2)
        clear hu1 hu2 hlt h1 h2 h30'
        cases hall : l.all mayP
        · have HNw2 := Lib.hid (show Calls Tryz.prog 5 #[.slice ao l.length cap] wr fun e w' => e = .returned (.tuple #[.pointer none, .int .i64 2]) ∧ Adds wr w' from HNP.out.mono fun e w' h => by
            rcases h with ⟨h, _⟩ | ⟨_, h2, h3⟩
            · rw [← List.all_eq_true, hall] at h; cases h
            · exact ⟨h2, h3⟩)
          clear hall HNP
          gi_wp2_with (first
            | (refine ⟨trivial, ?_⟩; gi_at_call 5; refine (callsIn_wide.2 HNw2.out).mono ?_; rintro e w4 ⟨rfl, q⟩; have A4 := Lib.hid q; clear q)
            | (refine ⟨trivial, ?_⟩; gi_at_call 13; refine (callsIn_wide.2 (HAll.out _ A4.out)).mono ?_; rintro e w7 ⟨rfl, u7, q1, q2, q3⟩; have HBw := Lib.hid q1; have HRw := Lib.hid q2; have A47 := Lib.hid q3; clear q1 q2 q3)
            | (refine ⟨trivial, ?_⟩; gi_at_call 9; refine (callsIn_wide.2 (HNum.out _ _)).mono ?_; rintro e w9 ⟨rfl, rfl⟩))
          obtain ⟨Bw, hBwe⟩ : ∃ Bw, w4.heap.size = Bw := ⟨_, rfl⟩
          rw [hBwe] at HBw HRw ⊢
          have HH7 := Lib.hid (HHn.out w7 (Adds.trans A4.out A47.out))
          have AW7 := Lib.hid (show Adds w w7 from Adds.trans A1.out (show Adds w1 w7 from HH7.out.low))
          have HK7 := Lib.hid HRw.out.pairs7
          have hs1 := HS1.out
          have hn1 := HN1.out
          have BM := Lib.hid (boxed_below HB3.out HH7.out.low (by omega))
          have BR := Lib.hid (boxed_below HB4.out HH7.out.low (by omega))
          have hm0 := BM.out.lt
          have hm1 := BR.out.lt
          have hmB := HH7.out.box.lt
          have hmw : Bw < w7.heap.size := (Array.getElem?_eq_some_iff.1 HBw.out).1
          clear hBwe HAll HHn HRw hs1 hn1
          refine wpIn_loop_ghost (SetsTurn n0 n1 B Bw w7) 2 ?start ?round
          case start => exact SetsTurn.mk _ _ _ _ w7 0 w7.heap.size rfl rfl rfl rfl rfl rfl rfl (Adds.new _ _) (Nat.le_refl _) (Boxed.new _ _ _) trivial
          case round =>
            rintro gg aa W ⟨t, Bt, ds, f, hg, rfl, hb, hBt, bt, hm⟩
            have HG := Lib.hid hg; clear hg
            have ct := bt.cell
            have ft := bt.frozen
            have HBT := Lib.hid bt; clear bt
            have HM := Lib.hid hm; clear hm
            have HB := Lib.hid hb; clear hb
            have HSW := Lib.hid HB.out.size
            by_cases ht : t < 2
            · have hsz := HSW.out
              gi_wp2
              rw [show decide ((t : Int) < 2) = true by rw [decide_eq_true_eq]; omega]
              generalize hWr : W.alloc (Obj.cells #[Value.int IntKind.i64 0] 3) = Wr
              have bn0 : Boxed Wr W.heap.size 3 (.int .i64 (([] : List Nat).length : Nat)) := hWr ▸ Boxed.new W _ _
              have bt0 : Boxed Wr Bt 3 (.int .i64 (t : Nat)) := hWr ▸ HBT.out.alloc _
              have AR := Lib.hid (hWr ▸ Adds.new W _ : Adds W Wr)
              have HSR := Lib.hid (show Wr.heap.size = W.heap.size + 1 by rw [← hWr]; simp)
              clear hWr
              have HB0 := Lib.hid (And.intro bt0 bn0); clear bt0 bn0
              have HBR := Lib.hid (HB.out.trans (Below.mono AR.out hsz))
              have hBtl := HBT.out.lt
              have HBTL := Lib.hid hBtl
              have HSQ := Lib.hid (pall_seqS 8 (by omega) Bw (fun k => k = W.heap.size) u7 (sortP L) (by rw [sortP_length]; have := HL20.out; omega) Wr (fun k h => by rw [h, HSR.out]; omega) ((HBR.out.cell (p := ⟨Bw, 0, none⟩) hmw).trans (cell_of_box_a HBw.out).1)
                ((HK7.out.below HBR.out).kM (fun k h => by omega)))
              obtain ⟨pv, hpv⟩ : ∃ pv : Nat → Pr, pv = atP (sortP L) := ⟨_, rfl⟩
              rw [show ixV7 (sortP L) = fun x => #[.int .i64 ((x : Nat) : Int), prV (pv x)] by rw [hpv]] at HSQ
              have HPv := Lib.hid hpv; clear hpv
              obtain ⟨N, hN⟩ : ∃ N, (sortP L).length = N := ⟨_, rfl⟩
              rw [hN] at HSQ
              have HNN := Lib.hid hN; clear hN
              refine' rangeFunc_SB rfl (by omega) (gf := 25) (lb := #[.pointer (some ⟨Bw, 0, none⟩)]) rfl trivial (enters_of Tryz.func25 (by kernel_rfl) rfl) HSQ.out
                KeepC.trans (fun W l o o' _ h hc _ => KeepC.put W l o o' h hc) (Below.refl _ _) (fun _ => rfl)
                (fun pre V => Below w7.heap.size w7 V ∧ Boxed V Bt 3 (.int .i64 (t : Nat)) ∧ Boxed V W.heap.size 3 (.int .i64 (pre.length : Nat)) ∧ (t = 0 → pre = [] ∨ (pre.length : Int) < m) ∧ Marks w7.heap.size W.heap.size V ds)
                (fun c pre V => c = .exit 4 ∧ Below w7.heap.size w7 V ∧ Boxed V Bt 3 (.int .i64 (t : Nat)) ∧ Boxed V W.heap.size 3 (.int .i64 (pre.length : Nat)) ∧ (t = 0 ∧ (pre.length : Int) = max 1 m) ∧ Marks w7.heap.size W.heap.size V ds)
                ?own ?ownx ?h0 _ (fun x => .cells (prC (pv x)).toArray 32 (0, 0)) (fun W o _ => KeepC.of_below (Adds.new W o)) ?assign ?body ?done ?stop
              case assign =>
                intro l2 x W2 bb K hbb hK
                have HK := Lib.hid hK; clear hK
                gi_wp2
                exact HK.out
              case own => exact fun s A B hs hb => ⟨hs.1.trans (hb.mono (by rw [HSR.out]; omega)), boxed_below hs.2.1 hb (by rw [HSR.out]; omega), boxed_below hs.2.2.1 hb (by rw [HSR.out]; omega), hs.2.2.2.1, hs.2.2.2.2.below hb (by rw [HSR.out]; omega)⟩
              case ownx => exact fun c s A B hs hb => ⟨hs.1, hs.2.1.trans (hb.mono (by rw [HSR.out]; omega)), boxed_below hs.2.2.1 hb (by rw [HSR.out]; omega), boxed_below hs.2.2.2.1 hb (by rw [HSR.out]; omega), hs.2.2.2.2.1, hs.2.2.2.2.2.below hb (by rw [HSR.out]; omega)⟩
              case h0 => exact ⟨HBR.out, HB0.out.1, HB0.out.2, fun _ => .inl rfl, HM.out.below AR.out (Nat.le_refl _)⟩
              case body =>
                clear ct ft
                rintro l2 pre x W2 bb ⟨hb2, bt2, bn2, hpm, hm2⟩ hgx hbb hbo
                obtain ⟨hx1, hpre⟩ := id hgx
                have hpl : pre.length = x := by rw [hpre, List.length_range]
                rw [hpl] at bn2 hpm
                have HPL := Lib.hid hpl; clear hpl hpre hgx
                obtain ⟨aw, cw, ew, _, _, hcw⟩ := (HH7.out.row.w).below hb2
                simp only [Value.slice.injEq, true_and] at ew
                obtain ⟨rfl, rfl⟩ := ew
                obtain ⟨gw, ow, rfl, _, hcw⟩ := hcw (by intro h; have h2 := HNN.out; rw [h] at h2; simp at h2; omega)
                have k4 := hcw x (by rw [HNN.out]; exact hx1)
                rw [show atP (sortP L) x = pv x by rw [HPv.out]] at k4
                have bk : BkS 32 W2 bb (prC (pv x)) := hbo
                obtain ⟨⟨⟨y1, y2⟩, ⟨y3, y4⟩⟩, hye⟩ : ∃ y, pv x = y := ⟨_, rfl⟩
                rw [hye] at k4 bk
                simp only [hye]
                obtain ⟨k0, k1, k2, k3⟩ := k4
                have e0 : W2.cell? ⟨bb, 0, none⟩ = some (.int .i64 y1) := bk.cell 0
                have e1 : W2.cell? ⟨bb, 1, none⟩ = some (.int .i64 y2) := bk.cell 1
                have e2 : W2.cell? ⟨bb, 2, none⟩ = some (.int .i64 y3) := bk.cell 2
                have e3 : W2.cell? ⟨bb, 3, none⟩ = some (.int .i64 y4) := bk.cell 3
                have hq := pair_neq y1 y2 y3 y4 y1 y2 y3 y4
                rw [show eqP ((y1, y2), (y3, y4)) ((y1, y2), (y3, y4)) = true from eqP_iff.2 rfl] at hq
                clear hcw hye bk hbo hbb
                have ct := bt2.cell
                have cn := bn2.cell
                have fn := bn2.frozen
                have cB := (boxed_adds HH7.out.box hb2).cell
                rw [HNN.out] at cB
                have c3 := (boxed_adds BM.out hb2).cell
                have HBB := Lib.hid (And.intro hb2 (And.intro bt2 (And.intro bn2 hm2))); clear bt2 bn2 hm2 hb2
                have HPM := Lib.hid hpm; clear hpm
                have hx3 : (x : Int) ≤ 1000000000 := by
                  have h1 := HNN.out
                  rw [sortP_length] at h1
                  have h2 := HL20.out
                  omega
                have hx4 : decide (N ≤ x) = false := by rw [decide_eq_false_iff_not]; omega
                have hx5 : ¬ ((N : Int) ≤ (x : Int)) := by omega
                have hx6 : (x : Int) < (N : Int) := by omega
                have HE := Lib.hid (show KeepsFrom Wr.heap.size W2 (W2.drew.setCell ⟨W.heap.size, 0, none⟩ (.int .i64 ((x : Int) + 1))) ∧ Below w7.heap.size w7 (W2.drew.setCell ⟨W.heap.size, 0, none⟩ (.int .i64 ((x : Int) + 1))) ∧ Boxed (W2.drew.setCell ⟨W.heap.size, 0, none⟩ (.int .i64 ((x : Int) + 1))) Bt 3 (.int .i64 (t : Nat)) ∧
                    Boxed (W2.drew.setCell ⟨W.heap.size, 0, none⟩ (.int .i64 ((x : Int) + 1))) W.heap.size 3 (.int .i64 ((pre ++ [x]).length : Nat)) ∧ Marks w7.heap.size W.heap.size (W2.drew.setCell ⟨W.heap.size, 0, none⟩ (.int .i64 ((x : Int) + 1))) ds ∧ KeepC (fun k => k = W.heap.size) W2 (W2.drew.setCell ⟨W.heap.size, 0, none⟩ (.int .i64 ((x : Int) + 1))) from by
                  have hq : Below W.heap.size W2 W2.drew := (Below.refl _ _).drew
                  refine ⟨(show KeepsFrom Wr.heap.size W2 W2.drew from (KeepsOthers.drew W2).from _).trans ((KeepsOthers.setCell _ _ _).from _), (HBB.out.1.trans (hq.mono hsz)).setCell (p := ⟨W.heap.size, 0, none⟩) hsz _, (boxed_below HBB.out.2.1 hq hBtl).other (by omega) _, ?_, ?_, ?_⟩
                  · have := (show Boxed W2.drew W.heap.size 3 (.int .i64 (x : Nat)) from HBB.out.2.2.1).set (.int .i64 ((x : Int) + 1))
                    rw [List.length_append, HPL.out]
                    exact this
                  · exact HBB.out.2.2.2.below (hq.setCell (p := ⟨W.heap.size, 0, none⟩) (Nat.le_refl _) _) (Nat.le_refl _)
                  · exact KeepC.trans (KeepC.of_below (Adds.drew W2)) (keepC_setT _ _ _))
                have HF2 := Lib.hid (show ((pre ++ [x]).length : Int) = (x : Int) + 1 ∧ (pre = [] ↔ x = 0) from ⟨by rw [List.length_append, HPL.out]; simp, by rw [← List.length_eq_zero_iff, HPL.out]⟩)
                clear hx1
                gi_wp2
                refine wpIn_region_inv (fun L b w2 => Same7 b { tmps := #[f 0, f 1, f 2, Value.pointer (some { block := n0, off := 0 }), Value.pointer (some { block := n1, off := 0 }), f 5, f 6, Value.pointer (some { block := B, off := 0 }), f 8, f 9, f 10, f 11, f 12, f 13, f 14, Value.func (Fn.func 25) #[] #[Value.pointer (some { block := Bw, off := 0 })], Value.pointer (some { block := Bt, off := 0 }), Value.pointer (some { block := W.heap.size, off := 0 }), Value.int IntKind.i64 ((x : Nat) : Int), Value.pointer (some { block := bb, off := 0 }), f 20, f 21, f 22, f 23, f 24, f 25, f 26, f 27, f 28, f 29, f 30, f 31, f 32, f 33, f 34, f 35, f 36, f 37, f 38, f 39, f 40, f 41, f 42, f 43, f 44, f 45, f 46, f 47, f 48, f 49, f 50, f 51, f 52, f 53, f 54, f 55, f 56, f 57, f 58, f 59, f 60, f 61, f 62, f 63, f 64, f 65, f 66, f 67, f 68, f 69, f 70, f 71, f 72, f 73, f 74, f 75, f 76, f 77, f 78, f 79, f 80, f 81, f 82, f 83, f 84, f 85, f 86, f 87, f 88, f 89, f 90, f 91, f 92, f 93, f 94, f 95, f 96, f 97, f 98, f 99, f 100, f 101, f 102, f 103, f 104, f 105, f 106, f 107, f 108, f 109, f 110, f 111, f 112, f 113, f 114, f 115, f 116, f 117, f 118, f 119, f 120, f 121, f 122, f 123, f 124, f 125, f 126, f 127, f 128, f 129, f 130, f 131, f 132, f 133, f 134, Value.int IntKind.i64 ((t : Nat) : Int), Value.bool true, f 137, f 138, Value.func (Fn.func 25) #[] #[Value.pointer (some { block := Bw, off := 0 })], Value.int IntKind.i64 ((x : Nat) : Int), Value.agg #[Value.int IntKind.i64 y1, Value.int IntKind.i64 y2, Value.int IntKind.i64 y3, Value.int IntKind.i64 y4], sel7 (L 0) (Value.int IntKind.i64 ((x : Nat) : Int)) (f 142), sel7 (L 1) (Value.int IntKind.i64 ((x : Nat) : Int)) (f 143), sel7 (L 2) (Value.bool false) (f 144), sel7 (L 3) (Value.bool false) (f 145), sel7 (L 4) (Value.int IntKind.i64 ((x : Nat) : Int)) (f 146), sel7 (L 5) (Value.slice (some { block := gw, off := ow }) N cu) (f 147), sel7 (L 6) (Value.int IntKind.i64 ((N : Nat) : Int)) (f 148), sel7 (L 7) (Value.bool false) (f 149), sel7 (L 8) (Value.bool false) (f 150), sel7 (L 9) (Value.bool false) (f 151), sel7 (L 10) (Value.agg #[Value.int IntKind.i64 y1, Value.int IntKind.i64 y2, Value.int IntKind.i64 y3, Value.int IntKind.i64 y4]) (f 152), sel7 (L 11) (Value.slice (some { block := gw, off := ow }) N cu) (f 153), sel7 (L 12) (Value.int IntKind.i64 ((x : Nat) : Int)) (f 154), sel7 (L 13) (Value.pointer (some { block := gw, off := ow + x * 4 })) (f 155), sel7 (L 14) (Value.agg #[Value.int IntKind.i64 y1, Value.int IntKind.i64 y2, Value.int IntKind.i64 y3, Value.int IntKind.i64 y4]) (f 156), sel7 (L 15) (Value.bool false) (f 157), sel7 (L 16) (Value.bool false) (f 158), f 159, f 160, f 161, f 162, f 163, f 164, f 165, f 166, f 167, f 168, f 169, f 170, f 171, f 172, f 173, f 174, f 175, f 176, f 177, f 178, f 179, f 180, f 181, f 182, f 183, f 184, f 185, f 186, f 187, f 188, f 189, f 190], defers := [] } w2 W2.drew) hmo (by kernel_rfl) ⟨rfl, rfl⟩ ?step ?fin
                case step =>
                  rintro L b w2 i o ho hL hC he ⟨rfl, rfl⟩
                  clear hC
                  have hq2 := hq
                  rcases i with _ | _ | _ | _ | _ | _ | _ | _ | _ | _ | _ | _ | _ | _ | _ | _ | _ | i
                  all_goals try (simp only [List.getElem?_cons_zero, List.getElem?_cons_succ, Option.some.injEq] at ho; subst ho)
                  all_goals try (simp at ho; done)
                  all_goals
                    try simp [Region.binds] at he
                    try simp only [he, sel7_t]
                    gi_wp2
                    refine ⟨?_, rfl⟩
                    simp [sel7, *]
                case fin =>
                  rintro b w2 ⟨rfl, rfl⟩
                  simp only [List.length_cons, List.length_nil, Nat.reduceAdd, Nat.reduceLT, decide_true, sel7_t]
                  clear k0 k1 k2 k3 e0 e1 e2 e3 hq cB
                  by_cases ht0 : t = 0
                  · subst ht0
                    by_cases hmx : m ≤ (x : Int) + 1
                    · gi_wp2
                      obtain ⟨hkf, hb3, ht3, hn3, hm3, hk3⟩ := HE.out
                      obtain ⟨hln, hp0⟩ := HF2.out
                      exact ⟨hkf, rfl, hb3, ht3, hn3, (by rw [hln]; rcases HPM.out (by simp) with h | h; (· rw [hp0] at h; omega); omega), hm3⟩
                    · gi_wp2
                      obtain ⟨hkf, hb3, ht3, hn3, hm3, hk3⟩ := HE.out
                      obtain ⟨hln, hp0⟩ := HF2.out
                      exact ⟨hkf, hk3, hb3, ht3, hn3, .inr (by rw [hln]; omega), hm3⟩
                  · obtain rfl : t = 1 := by omega
                    gi_wp2
                    obtain ⟨hkf, hb3, ht3, hn3, hm3, hk3⟩ := HE.out
                    obtain ⟨hln, hp0⟩ := HF2.out
                    exact ⟨hkf, hk3, hb3, ht3, hn3, (fun h => by cases h), hm3⟩
              case done =>
                clear ct ft
                rintro D xs W2 hD rfl ⟨hb2, bt2, bn2, hpm, hm2⟩ hK
                rw [List.length_range] at bn2 hpm
                have hN : t = 0 → min (N : Int) (max 1 m) = (N : Int) := by
                  intro h0
                  rcases hpm h0 with h | h
                  · have : N = 0 := by cases N with | zero => rfl | succ k => rw [List.range_succ] at h; simp at h
                    omega
                  · omega
                have hx3 : (N : Int) ≤ 1000000000 := by
                  have h1 := HNN.out
                  rw [sortP_length] at h1
                  have h2 := HL20.out
                  omega
                have HEND := Lib.hid (turn_endT (a := #[]) hb2 (by rw [HSR.out] at hD; omega) hD hK hm2 (by rw [HSR.out]; omega))
                have ct := bt2.cell
                have cn := bn2.cell
                have cB := (boxed_adds HH7.out.box hb2).cell
                rw [HNN.out] at cB
                have c3 := (boxed_adds BM.out hb2).cell
                clear hpm hK hm2 hb2 bt2 bn2
                by_cases ht0 : t = 0
                · subst ht0
                  have hN0 := hN rfl
                  clear hN
                  gi_wp2
                  all_goals
                    obtain ⟨e1, e2, e3⟩ := HEND.out
                    exact ⟨1, by have := HG.out; omega, SetsTurn.mk _ _ _ _ w7 1 W2.heap.size (by omega) rfl rfl rfl rfl rfl rfl (e1.alloc e1.size _) e1.size (Boxed.new _ _ _) ((e3.below (Adds.new _ _) (Nat.le_refl _)).up (by simp))⟩
                · obtain rfl : t = 1 := by omega
                  clear hN
                  gi_wp2
                  all_goals
                    obtain ⟨e1, e2, e3⟩ := HEND.out
                    exact ⟨0, by have := HG.out; omega, SetsTurn.mk _ _ _ _ w7 2 W2.heap.size (by omega) rfl rfl rfl rfl rfl rfl (e1.alloc e1.size _) e1.size (Boxed.new _ _ _) ((e3.below (Adds.new _ _) (Nat.le_refl _)).up (by simp))⟩
              case stop =>
                clear ct ft
                rintro D c pre W2 hD ⟨j, hj, hpre⟩ ⟨rfl, hb2, bt2, bn2, ⟨ht0, hmx⟩, hm2⟩ hK
                have hpl : pre.length = j := by rw [hpre, List.length_range]
                rw [hpl] at bn2 hmx
                subst ht0
                have hN0 : min (N : Int) (max 1 m) = (j : Int) := by omega
                have hx3 : (N : Int) ≤ 1000000000 := by
                  have h1 := HNN.out
                  rw [sortP_length] at h1
                  have h2 := HL20.out
                  omega
                have HEND := Lib.hid (turn_endT (a := #[]) hb2 (by rw [HSR.out] at hD; omega) hD hK hm2 (by rw [HSR.out]; omega))
                have ct := bt2.cell
                have cn := bn2.cell
                have cB := (boxed_adds HH7.out.box hb2).cell
                rw [HNN.out] at cB
                have c3 := (boxed_adds BM.out hb2).cell
                clear hK hm2 hb2 bt2 bn2 hpl hpre hj hmx
                gi_wp2
                all_goals
                  obtain ⟨e1, e2, e3⟩ := HEND.out
                  exact ⟨1, by have := HG.out; omega, SetsTurn.mk _ _ _ _ w7 1 W2.heap.size (by omega) rfl rfl rfl rfl rfl rfl (e1.alloc e1.size _) e1.size (Boxed.new _ _ _) ((e3.below (Adds.new _ _) (Nat.le_refl _)).up (by simp))⟩
            · have HK := Lib.hid (HWk.out W (Adds.trans AW7.out (show Adds w7 W from HB.out)))
              have HBW := Lib.hid (boxed_adds BR.out HB.out)
              gi_wp2_with (refine ⟨trivial, ?_⟩; gi_at_call 4; refine (callsIn_wide.2 HK.out).mono ?_; rintro z w2 ⟨rfl, a2⟩; have hbr := boxed_adds HBW.out a2; have c4 := hbr.cell; have f4 := hbr.frozen; have HBRR := Lib.hid hbr; clear hbr; have A2 := Lib.hid a2; clear a2)
              show LeavesInM _ _ _ _ _ _ _ _ _
              have hbs : Below w7.heap.size w7 w2 := HB.out.trans (Below.mono A2.out HSW.out)
              have hms : Marks w7.heap.size W.heap.size (w2.setCell ⟨n1, 0, none⟩ (.bool true)) ds := marks_setT (HM.out.below A2.out (Nat.le_refl _)) (by omega) _
              refine marks_leave ds _ _ hms fun W'' hb'' => ⟨.bool true, results_box rfl Tryz.underlying4 _ _ _ (.bool true) rfl (boxed_below (HBRR.out.set (.bool true)) hb'' (by omega)).cell, rfl, ?_⟩
              exact Below.trans AW7.out (((hbs.mono AW7.out.size).setCell (p := ⟨n1, 0, none⟩) (by show w.heap.size ≤ n1; have := HN0.out; have := HN1.out; omega) _).trans (hb''.mono AW7.out.size))
        · have HNw2 := Lib.hid (show Calls Tryz.prog 5 #[.slice ao l.length cap] wr fun e w' => ∃ bp' : Nat, e = .returned (.tuple #[.pointer (some ⟨bp', 0, none⟩), .int .i64 0]) ∧ Adds wr w' from HNP.out.mono fun e w' h => by
            rcases h with ⟨_, bp', _, _, h2, _, _, _, _, _, h3⟩ | ⟨h, _⟩
            · exact ⟨bp', h2, h3⟩
            · exact absurd (List.all_eq_true.1 hall) h)
          clear hall HNP
          gi_wp2_with (first
            | (refine ⟨trivial, ?_⟩; gi_at_call 5; refine (callsIn_wide.2 HNw2.out).mono ?_; rintro e w4 ⟨bp', rfl, q⟩; have A4 := Lib.hid q; clear q)
            | (refine ⟨trivial, ?_⟩; gi_at_call 13; refine (callsIn_wide.2 (HAll.out _ A4.out)).mono ?_; rintro e w7 ⟨rfl, u7, q1, q2, q3⟩; have HBw := Lib.hid q1; have HRw := Lib.hid q2; have A47 := Lib.hid q3; clear q1 q2 q3)
            | (refine ⟨trivial, ?_⟩; gi_at_call 9; refine (callsIn_wide.2 (HNum.out _ _)).mono ?_; rintro e w9 ⟨rfl, rfl⟩)
            | (refine ⟨trivial, ?_⟩))
          obtain ⟨Bw, hBwe⟩ : ∃ Bw, w4.heap.size = Bw := ⟨_, rfl⟩
          rw [hBwe] at HBw HRw ⊢
          have HH7 := Lib.hid (HHn.out w7 (Adds.trans A4.out A47.out))
          have AW7 := Lib.hid (show Adds w w7 from Adds.trans A1.out (show Adds w1 w7 from HH7.out.low))
          have HK7 := Lib.hid HRw.out.pairs7
          have hs1 := HS1.out
          have hn1 := HN1.out
          have BM := Lib.hid (boxed_below HB3.out HH7.out.low (by omega))
          have BR := Lib.hid (boxed_below HB4.out HH7.out.low (by omega))
          have hm0 := BM.out.lt
          have hm1 := BR.out.lt
          have hmB := HH7.out.box.lt
          have hmw : Bw < w7.heap.size := (Array.getElem?_eq_some_iff.1 HBw.out).1
          clear hBwe HAll HHn HRw hs1 hn1
          refine wpIn_loop_ghost (SetsTurn n0 n1 B Bw w7) 2 ?start ?round
          case start => exact SetsTurn.mk _ _ _ _ w7 0 w7.heap.size rfl rfl rfl rfl rfl rfl rfl (Adds.new _ _) (Nat.le_refl _) (Boxed.new _ _ _) trivial
          case round =>
            rintro gg aa W ⟨t, Bt, ds, f, hg, rfl, hb, hBt, bt, hm⟩
            have HG := Lib.hid hg; clear hg
            have ct := bt.cell
            have ft := bt.frozen
            have HBT := Lib.hid bt; clear bt
            have HM := Lib.hid hm; clear hm
            have HB := Lib.hid hb; clear hb
            have HSW := Lib.hid HB.out.size
            by_cases ht : t < 2
            · have hsz := HSW.out
              gi_wp2
              rw [show decide ((t : Int) < 2) = true by rw [decide_eq_true_eq]; omega]
              generalize hWr : W.alloc (Obj.cells #[Value.int IntKind.i64 0] 3) = Wr
              have bn0 : Boxed Wr W.heap.size 3 (.int .i64 (([] : List Nat).length : Nat)) := hWr ▸ Boxed.new W _ _
              have bt0 : Boxed Wr Bt 3 (.int .i64 (t : Nat)) := hWr ▸ HBT.out.alloc _
              have AR := Lib.hid (hWr ▸ Adds.new W _ : Adds W Wr)
              have HSR := Lib.hid (show Wr.heap.size = W.heap.size + 1 by rw [← hWr]; simp)
              clear hWr
              have HB0 := Lib.hid (And.intro bt0 bn0); clear bt0 bn0
              have HBR := Lib.hid (HB.out.trans (Below.mono AR.out hsz))
              have hBtl := HBT.out.lt
              have HBTL := Lib.hid hBtl
              have HSQ := Lib.hid (pall_seqS 8 (by omega) Bw (fun k => k = W.heap.size) u7 (sortP L) (by rw [sortP_length]; have := HL20.out; omega) Wr (fun k h => by rw [h, HSR.out]; omega) ((HBR.out.cell (p := ⟨Bw, 0, none⟩) hmw).trans (cell_of_box_a HBw.out).1)
                ((HK7.out.below HBR.out).kM (fun k h => by omega)))
              obtain ⟨pv, hpv⟩ : ∃ pv : Nat → Pr, pv = atP (sortP L) := ⟨_, rfl⟩
              rw [show ixV7 (sortP L) = fun x => #[.int .i64 ((x : Nat) : Int), prV (pv x)] by rw [hpv]] at HSQ
              have HPv := Lib.hid hpv; clear hpv
              obtain ⟨N, hN⟩ : ∃ N, (sortP L).length = N := ⟨_, rfl⟩
              rw [hN] at HSQ
              have HNN := Lib.hid hN; clear hN
              refine' rangeFunc_SB rfl (by omega) (gf := 25) (lb := #[.pointer (some ⟨Bw, 0, none⟩)]) rfl trivial (enters_of Tryz.func25 (by kernel_rfl) rfl) HSQ.out
                KeepC.trans (fun W l o o' _ h hc _ => KeepC.put W l o o' h hc) (Below.refl _ _) (fun _ => rfl)
                (fun pre V => Below w7.heap.size w7 V ∧ Boxed V Bt 3 (.int .i64 (t : Nat)) ∧ Boxed V W.heap.size 3 (.int .i64 (pre.length : Nat)) ∧ (t = 0 → pre = [] ∨ (pre.length : Int) < m) ∧ Marks w7.heap.size W.heap.size V ds)
                (fun c pre V => c = .exit 4 ∧ Below w7.heap.size w7 V ∧ Boxed V Bt 3 (.int .i64 (t : Nat)) ∧ Boxed V W.heap.size 3 (.int .i64 (pre.length : Nat)) ∧ (t = 0 ∧ (pre.length : Int) = max 1 m) ∧ Marks w7.heap.size W.heap.size V ds)
                ?own ?ownx ?h0 _ (fun x => .cells (prC (pv x)).toArray 32 (0, 0)) (fun W o _ => KeepC.of_below (Adds.new W o)) ?assign ?body ?done ?stop
              case assign =>
                intro l2 x W2 bb K hbb hK
                have HK := Lib.hid hK; clear hK
                gi_wp2
                exact HK.out
              case own => exact fun s A B hs hb => ⟨hs.1.trans (hb.mono (by rw [HSR.out]; omega)), boxed_below hs.2.1 hb (by rw [HSR.out]; omega), boxed_below hs.2.2.1 hb (by rw [HSR.out]; omega), hs.2.2.2.1, hs.2.2.2.2.below hb (by rw [HSR.out]; omega)⟩
              case ownx => exact fun c s A B hs hb => ⟨hs.1, hs.2.1.trans (hb.mono (by rw [HSR.out]; omega)), boxed_below hs.2.2.1 hb (by rw [HSR.out]; omega), boxed_below hs.2.2.2.1 hb (by rw [HSR.out]; omega), hs.2.2.2.2.1, hs.2.2.2.2.2.below hb (by rw [HSR.out]; omega)⟩
              case h0 => exact ⟨HBR.out, HB0.out.1, HB0.out.2, fun _ => .inl rfl, HM.out.below AR.out (Nat.le_refl _)⟩
              case body =>
                clear ct ft
                rintro l2 pre x W2 bb ⟨hb2, bt2, bn2, hpm, hm2⟩ hgx hbb hbo
                obtain ⟨hx1, hpre⟩ := id hgx
                have hpl : pre.length = x := by rw [hpre, List.length_range]
                rw [hpl] at bn2 hpm
                have HPL := Lib.hid hpl; clear hpl hpre hgx
                obtain ⟨aw, cw, ew, _, _, hcw⟩ := (HH7.out.row.w).below hb2
                simp only [Value.slice.injEq, true_and] at ew
                obtain ⟨rfl, rfl⟩ := ew
                obtain ⟨gw, ow, rfl, _, hcw⟩ := hcw (by intro h; have h2 := HNN.out; rw [h] at h2; simp at h2; omega)
                have k4 := hcw x (by rw [HNN.out]; exact hx1)
                rw [show atP (sortP L) x = pv x by rw [HPv.out]] at k4
                have bk : BkS 32 W2 bb (prC (pv x)) := hbo
                obtain ⟨⟨⟨y1, y2⟩, ⟨y3, y4⟩⟩, hye⟩ : ∃ y, pv x = y := ⟨_, rfl⟩
                rw [hye] at k4 bk
                simp only [hye]
                obtain ⟨k0, k1, k2, k3⟩ := k4
                have e0 : W2.cell? ⟨bb, 0, none⟩ = some (.int .i64 y1) := bk.cell 0
                have e1 : W2.cell? ⟨bb, 1, none⟩ = some (.int .i64 y2) := bk.cell 1
                have e2 : W2.cell? ⟨bb, 2, none⟩ = some (.int .i64 y3) := bk.cell 2
                have e3 : W2.cell? ⟨bb, 3, none⟩ = some (.int .i64 y4) := bk.cell 3
                have hq := pair_neq y1 y2 y3 y4 y1 y2 y3 y4
                rw [show eqP ((y1, y2), (y3, y4)) ((y1, y2), (y3, y4)) = true from eqP_iff.2 rfl] at hq
                clear hcw hye bk hbo hbb
                have ct := bt2.cell
                have cn := bn2.cell
                have fn := bn2.frozen
                have cB := (boxed_adds HH7.out.box hb2).cell
                rw [HNN.out] at cB
                have c3 := (boxed_adds BM.out hb2).cell
                have HBB := Lib.hid (And.intro hb2 (And.intro bt2 (And.intro bn2 hm2))); clear bt2 bn2 hm2 hb2
                have HPM := Lib.hid hpm; clear hpm
                have hx3 : (x : Int) ≤ 1000000000 := by
                  have h1 := HNN.out
                  rw [sortP_length] at h1
                  have h2 := HL20.out
                  omega
                have hx4 : decide (N ≤ x) = false := by rw [decide_eq_false_iff_not]; omega
                have hx5 : ¬ ((N : Int) ≤ (x : Int)) := by omega
                have hx6 : (x : Int) < (N : Int) := by omega
                have HE := Lib.hid (show KeepsFrom Wr.heap.size W2 (W2.drew.setCell ⟨W.heap.size, 0, none⟩ (.int .i64 ((x : Int) + 1))) ∧ Below w7.heap.size w7 (W2.drew.setCell ⟨W.heap.size, 0, none⟩ (.int .i64 ((x : Int) + 1))) ∧ Boxed (W2.drew.setCell ⟨W.heap.size, 0, none⟩ (.int .i64 ((x : Int) + 1))) Bt 3 (.int .i64 (t : Nat)) ∧
                    Boxed (W2.drew.setCell ⟨W.heap.size, 0, none⟩ (.int .i64 ((x : Int) + 1))) W.heap.size 3 (.int .i64 ((pre ++ [x]).length : Nat)) ∧ Marks w7.heap.size W.heap.size (W2.drew.setCell ⟨W.heap.size, 0, none⟩ (.int .i64 ((x : Int) + 1))) ds ∧ KeepC (fun k => k = W.heap.size) W2 (W2.drew.setCell ⟨W.heap.size, 0, none⟩ (.int .i64 ((x : Int) + 1))) from by
                  have hq : Below W.heap.size W2 W2.drew := (Below.refl _ _).drew
                  refine ⟨(show KeepsFrom Wr.heap.size W2 W2.drew from (KeepsOthers.drew W2).from _).trans ((KeepsOthers.setCell _ _ _).from _), (HBB.out.1.trans (hq.mono hsz)).setCell (p := ⟨W.heap.size, 0, none⟩) hsz _, (boxed_below HBB.out.2.1 hq hBtl).other (by omega) _, ?_, ?_, ?_⟩
                  · have := (show Boxed W2.drew W.heap.size 3 (.int .i64 (x : Nat)) from HBB.out.2.2.1).set (.int .i64 ((x : Int) + 1))
                    rw [List.length_append, HPL.out]
                    exact this
                  · exact HBB.out.2.2.2.below (hq.setCell (p := ⟨W.heap.size, 0, none⟩) (Nat.le_refl _) _) (Nat.le_refl _)
                  · exact KeepC.trans (KeepC.of_below (Adds.drew W2)) (keepC_setT _ _ _))
                have HF2 := Lib.hid (show ((pre ++ [x]).length : Int) = (x : Int) + 1 ∧ (pre = [] ↔ x = 0) from ⟨by rw [List.length_append, HPL.out]; simp, by rw [← List.length_eq_zero_iff, HPL.out]⟩)
                clear hx1
                gi_wp2
                refine wpIn_region_inv (fun L b w2 => Same7 b { tmps := #[f 0, f 1, f 2, Value.pointer (some { block := n0, off := 0 }), Value.pointer (some { block := n1, off := 0 }), f 5, f 6, Value.pointer (some { block := B, off := 0 }), f 8, f 9, f 10, f 11, f 12, f 13, f 14, Value.func (Fn.func 25) #[] #[Value.pointer (some { block := Bw, off := 0 })], Value.pointer (some { block := Bt, off := 0 }), Value.pointer (some { block := W.heap.size, off := 0 }), Value.int IntKind.i64 ((x : Nat) : Int), Value.pointer (some { block := bb, off := 0 }), f 20, f 21, f 22, f 23, f 24, f 25, f 26, f 27, f 28, f 29, f 30, f 31, f 32, f 33, f 34, f 35, f 36, f 37, f 38, f 39, f 40, f 41, f 42, f 43, f 44, f 45, f 46, f 47, f 48, f 49, f 50, f 51, f 52, f 53, f 54, f 55, f 56, f 57, f 58, f 59, f 60, f 61, f 62, f 63, f 64, f 65, f 66, f 67, f 68, f 69, f 70, f 71, f 72, f 73, f 74, f 75, f 76, f 77, f 78, f 79, f 80, f 81, f 82, f 83, f 84, f 85, f 86, f 87, f 88, f 89, f 90, f 91, f 92, f 93, f 94, f 95, f 96, f 97, f 98, f 99, f 100, f 101, f 102, f 103, f 104, f 105, f 106, f 107, f 108, f 109, f 110, f 111, f 112, f 113, f 114, f 115, f 116, f 117, f 118, f 119, f 120, f 121, f 122, f 123, f 124, f 125, f 126, f 127, f 128, f 129, f 130, f 131, f 132, f 133, f 134, Value.int IntKind.i64 ((t : Nat) : Int), Value.bool true, f 137, f 138, Value.func (Fn.func 25) #[] #[Value.pointer (some { block := Bw, off := 0 })], Value.int IntKind.i64 ((x : Nat) : Int), Value.agg #[Value.int IntKind.i64 y1, Value.int IntKind.i64 y2, Value.int IntKind.i64 y3, Value.int IntKind.i64 y4], sel7 (L 0) (Value.int IntKind.i64 ((x : Nat) : Int)) (f 142), sel7 (L 1) (Value.int IntKind.i64 ((x : Nat) : Int)) (f 143), sel7 (L 2) (Value.bool false) (f 144), sel7 (L 3) (Value.bool false) (f 145), sel7 (L 4) (Value.int IntKind.i64 ((x : Nat) : Int)) (f 146), sel7 (L 5) (Value.slice (some { block := gw, off := ow }) N cu) (f 147), sel7 (L 6) (Value.int IntKind.i64 ((N : Nat) : Int)) (f 148), sel7 (L 7) (Value.bool false) (f 149), sel7 (L 8) (Value.bool false) (f 150), sel7 (L 9) (Value.bool false) (f 151), sel7 (L 10) (Value.agg #[Value.int IntKind.i64 y1, Value.int IntKind.i64 y2, Value.int IntKind.i64 y3, Value.int IntKind.i64 y4]) (f 152), sel7 (L 11) (Value.slice (some { block := gw, off := ow }) N cu) (f 153), sel7 (L 12) (Value.int IntKind.i64 ((x : Nat) : Int)) (f 154), sel7 (L 13) (Value.pointer (some { block := gw, off := ow + x * 4 })) (f 155), sel7 (L 14) (Value.agg #[Value.int IntKind.i64 y1, Value.int IntKind.i64 y2, Value.int IntKind.i64 y3, Value.int IntKind.i64 y4]) (f 156), sel7 (L 15) (Value.bool false) (f 157), sel7 (L 16) (Value.bool false) (f 158), f 159, f 160, f 161, f 162, f 163, f 164, f 165, f 166, f 167, f 168, f 169, f 170, f 171, f 172, f 173, f 174, f 175, f 176, f 177, f 178, f 179, f 180, f 181, f 182, f 183, f 184, f 185, f 186, f 187, f 188, f 189, f 190], defers := [] } w2 W2.drew) hmo (by kernel_rfl) ⟨rfl, rfl⟩ ?step ?fin
                case step =>
                  rintro L b w2 i o ho hL hC he ⟨rfl, rfl⟩
                  clear hC
                  have hq2 := hq
                  rcases i with _ | _ | _ | _ | _ | _ | _ | _ | _ | _ | _ | _ | _ | _ | _ | _ | _ | i
                  all_goals try (simp only [List.getElem?_cons_zero, List.getElem?_cons_succ, Option.some.injEq] at ho; subst ho)
                  all_goals try (simp at ho; done)
                  all_goals
                    try simp [Region.binds] at he
                    try simp only [he, sel7_t]
                    gi_wp2
                    refine ⟨?_, rfl⟩
                    simp [sel7, *]
                case fin =>
                  rintro b w2 ⟨rfl, rfl⟩
                  simp only [List.length_cons, List.length_nil, Nat.reduceAdd, Nat.reduceLT, decide_true, sel7_t]
                  clear k0 k1 k2 k3 e0 e1 e2 e3 hq cB
                  by_cases ht0 : t = 0
                  · subst ht0
                    by_cases hmx : m ≤ (x : Int) + 1
                    · gi_wp2
                      obtain ⟨hkf, hb3, ht3, hn3, hm3, hk3⟩ := HE.out
                      obtain ⟨hln, hp0⟩ := HF2.out
                      exact ⟨hkf, rfl, hb3, ht3, hn3, (by rw [hln]; rcases HPM.out (by simp) with h | h; (· rw [hp0] at h; omega); omega), hm3⟩
                    · gi_wp2
                      obtain ⟨hkf, hb3, ht3, hn3, hm3, hk3⟩ := HE.out
                      obtain ⟨hln, hp0⟩ := HF2.out
                      exact ⟨hkf, hk3, hb3, ht3, hn3, .inr (by rw [hln]; omega), hm3⟩
                  · obtain rfl : t = 1 := by omega
                    gi_wp2
                    obtain ⟨hkf, hb3, ht3, hn3, hm3, hk3⟩ := HE.out
                    obtain ⟨hln, hp0⟩ := HF2.out
                    exact ⟨hkf, hk3, hb3, ht3, hn3, (fun h => by cases h), hm3⟩
              case done =>
                clear ct ft
                rintro D xs W2 hD rfl ⟨hb2, bt2, bn2, hpm, hm2⟩ hK
                rw [List.length_range] at bn2 hpm
                have hN : t = 0 → min (N : Int) (max 1 m) = (N : Int) := by
                  intro h0
                  rcases hpm h0 with h | h
                  · have : N = 0 := by cases N with | zero => rfl | succ k => rw [List.range_succ] at h; simp at h
                    omega
                  · omega
                have hx3 : (N : Int) ≤ 1000000000 := by
                  have h1 := HNN.out
                  rw [sortP_length] at h1
                  have h2 := HL20.out
                  omega
                have HEND := Lib.hid (turn_endT (a := #[]) hb2 (by rw [HSR.out] at hD; omega) hD hK hm2 (by rw [HSR.out]; omega))
                have ct := bt2.cell
                have cn := bn2.cell
                have cB := (boxed_adds HH7.out.box hb2).cell
                rw [HNN.out] at cB
                have c3 := (boxed_adds BM.out hb2).cell
                clear hpm hK hm2 hb2 bt2 bn2
                by_cases ht0 : t = 0
                · subst ht0
                  have hN0 := hN rfl
                  clear hN
                  gi_wp2
                  all_goals
                    obtain ⟨e1, e2, e3⟩ := HEND.out
                    exact ⟨1, by have := HG.out; omega, SetsTurn.mk _ _ _ _ w7 1 W2.heap.size (by omega) rfl rfl rfl rfl rfl rfl (e1.alloc e1.size _) e1.size (Boxed.new _ _ _) ((e3.below (Adds.new _ _) (Nat.le_refl _)).up (by simp))⟩
                · obtain rfl : t = 1 := by omega
                  clear hN
                  gi_wp2
                  all_goals
                    obtain ⟨e1, e2, e3⟩ := HEND.out
                    exact ⟨0, by have := HG.out; omega, SetsTurn.mk _ _ _ _ w7 2 W2.heap.size (by omega) rfl rfl rfl rfl rfl rfl (e1.alloc e1.size _) e1.size (Boxed.new _ _ _) ((e3.below (Adds.new _ _) (Nat.le_refl _)).up (by simp))⟩
              case stop =>
                clear ct ft
                rintro D c pre W2 hD ⟨j, hj, hpre⟩ ⟨rfl, hb2, bt2, bn2, ⟨ht0, hmx⟩, hm2⟩ hK
                have hpl : pre.length = j := by rw [hpre, List.length_range]
                rw [hpl] at bn2 hmx
                subst ht0
                have hN0 : min (N : Int) (max 1 m) = (j : Int) := by omega
                have hx3 : (N : Int) ≤ 1000000000 := by
                  have h1 := HNN.out
                  rw [sortP_length] at h1
                  have h2 := HL20.out
                  omega
                have HEND := Lib.hid (turn_endT (a := #[]) hb2 (by rw [HSR.out] at hD; omega) hD hK hm2 (by rw [HSR.out]; omega))
                have ct := bt2.cell
                have cn := bn2.cell
                have cB := (boxed_adds HH7.out.box hb2).cell
                rw [HNN.out] at cB
                have c3 := (boxed_adds BM.out hb2).cell
                clear hK hm2 hb2 bt2 bn2 hpl hpre hj hmx
                gi_wp2
                all_goals
                  obtain ⟨e1, e2, e3⟩ := HEND.out
                  exact ⟨1, by have := HG.out; omega, SetsTurn.mk _ _ _ _ w7 1 W2.heap.size (by omega) rfl rfl rfl rfl rfl rfl (e1.alloc e1.size _) e1.size (Boxed.new _ _ _) ((e3.below (Adds.new _ _) (Nat.le_refl _)).up (by simp))⟩
            · have HK := Lib.hid (HWk.out W (Adds.trans AW7.out (show Adds w7 W from HB.out)))
              have HBW := Lib.hid (boxed_adds BR.out HB.out)
              gi_wp2_with (refine ⟨trivial, ?_⟩; gi_at_call 4; refine (callsIn_wide.2 HK.out).mono ?_; rintro z w2 ⟨rfl, a2⟩; have hbr := boxed_adds HBW.out a2; have c4 := hbr.cell; have f4 := hbr.frozen; have HBRR := Lib.hid hbr; clear hbr; have A2 := Lib.hid a2; clear a2)
              show LeavesInM _ _ _ _ _ _ _ _ _
              have hbs : Below w7.heap.size w7 w2 := HB.out.trans (Below.mono A2.out HSW.out)
              have hms : Marks w7.heap.size W.heap.size (w2.setCell ⟨n1, 0, none⟩ (.bool true)) ds := marks_setT (HM.out.below A2.out (Nat.le_refl _)) (by omega) _
              refine marks_leave ds _ _ hms fun W'' hb'' => ⟨.bool true, results_box rfl Tryz.underlying4 _ _ _ (.bool true) rfl (boxed_below (HBRR.out.set (.bool true)) hb'' (by omega)).cell, rfl, ?_⟩
              exact Below.trans AW7.out (((hbs.mono AW7.out.size).setCell (p := ⟨n1, 0, none⟩) (by show w.heap.size ≤ n1; have := HN0.out; have := HN1.out; omega) _).trans (hb''.mono AW7.out.size))
end Go.Proofs.YtoeoeeomnbggkaaGreatDoor
