/- Two memories that lie apart; a list stored from its end; facts for the law MemoryHolds. -/
import Derived.Laws.BitsAllLaws
import Derived.Sort.QuietIn
import Derived.Test.YtleihmmkonakhaaDoorMW1
import Derived.Test.YtleihmmkonakhaaDoorInvIn
namespace Go.Proofs.YtleihmmkonakhaaDoor
open Go Go.RowKit Go.Shelf Go.Maps

/-- Two memories of blocks laid since w0, of which none is shared. -/
structure TwoM (w0 w : World) (vm vo : Value) (S T : Nat → Nat) : Prop where
  ex : ∃ bm b L bo bb K, MemP w vm S bm b L ∧ MemP w vo T bo bb K ∧ (∀ k, footP bm b L k → w0.heap.size ≤ k) ∧ (∀ k, footP bo bb K k → w0.heap.size ≤ k) ∧ (∀ k, footP bm b L k → ¬ footP bo bb K k)
  low : Adds w0 w
theorem TwoM.swap {w0 w : World} {vm vo : Value} {S T : Nat → Nat} (h : TwoM w0 w vm vo S T) : TwoM w0 w vo vm T S := by
  obtain ⟨⟨bm, b, L, bo, bb, K, h1, h2, h3, h4, h5⟩, h6⟩ := h
  exact ⟨⟨bo, bb, K, bm, b, L, h2, h1, h4, h3, fun k hk hf => h5 k hf hk⟩, h6⟩
theorem TwoM.adds {w0 w w' : World} {vm vo : Value} {S T : Nat → Nat} (h : TwoM w0 w vm vo S T) (ha : Adds w w') : TwoM w0 w' vm vo S T := by
  obtain ⟨⟨bm, b, L, bo, bb, K, h1, h2, h3, h4, h5⟩, h6⟩ := h
  exact ⟨⟨bm, b, L, bo, bb, K, h1.adds ha, h2.adds ha, h3, h4, h5⟩, Adds.trans h6 ha⟩
theorem TwoM.same {w0 w w' : World} {vm vo : Value} {S T : Nat → Nat} (h : TwoM w0 w vm vo S T) (hb : Adds w w') : TwoM w0 w' vm vo S T := h.adds hb
/-- A store into the second one. -/
theorem TwoM.stored {w0 w1 w : World} {vm vo lv : Value} {S T : Nat → Nat} {l : List (Nat × Nat)} (h : TwoM w0 w1 vm vo S T) (ha : Adds w1 w) (hl : CellsW (fun g => g < w0.heap.size ∨ w1.heap.size ≤ g) w lv l) (hok : cellsOk l) :
    Calls Tryd.prog 12 #[vo, lv] w fun e w' => e = .returned (.int .i64 0) ∧ TwoM w0 w' vm vo S (storeAll T l) := by
  obtain ⟨⟨bm, b, L, bo, bb, K, h1, h2, h3, h4, h5⟩, h6⟩ := h
  have k1 := h1.adds ha
  have k2 := h2.adds ha
  have k6 := Adds.trans h6 ha
  refine (storeM_any bo bb vo lv l T K w k2 (hl.mono fun g hg hx hf => ?_) hok).mono ?_
  · rcases hx with hx | hx
    · have := h4 g hf; omega
    · have := h2.foot_lt hf; omega
  · rintro e w' ⟨he, K', m1, f1, n1⟩
    refine ⟨he, ⟨bm, b, L, bo, bb, K', k1.frm f1 (fun k hk hf => h5 k hk (.inr hf)), m1, h3, fun k hk => ?_, fun k hk hf => ?_⟩, Frm.adds k6 f1 (fun i hi => h4 i (.inr hi))⟩
    · rcases hk with rfl | hk
      · exact h4 _ (.inl rfl)
      · rcases n1 k hk with hk | hk
        · exact h4 k (.inr hk)
        · exact Nat.le_trans k6.size hk
    · rcases hf with rfl | hf
      · exact h5 _ hk (.inl rfl)
      · rcases n1 k hf with hf | hf
        · exact h5 k hk (.inr hf)
        · have := k1.foot_lt hk; omega
theorem TwoM.load {w0 w : World} {vm vo : Value} {S T : Nat → Nat} (h : TwoM w0 w vm vo S T) (a : Nat) (ha : a < 4294967296) :
    Calls Tryd.prog 22 #[vm, .int .u32 ((a : Nat) : Int)] w fun e w' => e = .returned (.int .u32 ((S a : Nat) : Int)) ∧ w = w' := by
  obtain ⟨⟨bm, b, L, bo, bb, K, h1, _⟩, _⟩ := h
  exact loadM_any bm b a vm S L w ha h1
theorem TwoM.sameCall {w0 w : World} {vm vo : Value} {S T : Nat → Nat} (h : TwoM w0 w vm vo S T) :
    Calls Tryd.prog 14 #[vm, vo] w fun e w' => e = .returned (.bool (sameB S T)) ∧ Adds w w' := by
  obtain ⟨⟨bm, b, L, bo, bb, K, h1, h2, _⟩, _⟩ := h
  exact sameM_any vm vo bm b bo bb S T L K w h1 h2
theorem TwoM.digest {w0 w : World} {vm vo : Value} {S T : Nat → Nat} (h : TwoM w0 w vm vo S T) (hw : Widths w) {cs : List (Nat × Nat)} (hc : IsCells S cs) :
    Calls Tryd.prog 15 #[vm] w fun e w' => e = .returned (.int .u64 ((sumS (cellsB cs) : Nat) : Int)) ∧ Adds w w' := by
  obtain ⟨⟨bm, b, L, bo, bb, K, h1, h2, _⟩, _⟩ := h
  exact digestM_any bm b vm S L cs w h1 hc hw
theorem TwoM.len {w0 w : World} {vm vo : Value} {S T : Nat → Nat} (h : TwoM w0 w vm vo S T) {cs : List (Nat × Nat)} (hc : IsCells S cs) :
    Calls Tryd.prog 23 #[vm] w fun e w' => e = .returned (.int .i64 ((cs.length : Nat) : Int)) ∧ Adds w w' := by
  obtain ⟨⟨bm, b, L, bo, bb, K, h1, h2, _⟩, _⟩ := h
  have e := sumL_cells h1.mem hc
  exact e ▸ lenM_any bm b vm S L w h1
theorem TwoM.cells {w0 w : World} {vm vo : Value} {S T : Nat → Nat} (h : TwoM w0 w vm vo S T) : ∃ cs, IsCells S cs := by
  obtain ⟨⟨bm, b, L, bo, bb, K, h1, h2, _⟩, _⟩ := h
  exact ⟨_, isCells_of h1.mem⟩
theorem TwoM.word {w0 w : World} {vm vo : Value} {S T : Nat → Nat} (h : TwoM w0 w vm vo S T) : ∀ a, S a < 4294967296 := by
  obtain ⟨⟨bm, b, L, bo, bb, K, h1, h2, _⟩, _⟩ := h
  exact h1.mem.word
/-! ### The plain side -/
/-- Where the list's end from i on has an address, its word; elsewhere 0. -/
def endT (S : Nat → Nat) (l : List (Nat × Nat)) (i a : Nat) : Nat := if a ∈ (l.drop i).map (·.1) then S a else 0
def atL (l : List (Nat × Nat)) (i : Nat) : Nat × Nat := l.getD i (0, 0)
theorem drop_at {l : List (Nat × Nat)} {i : Nat} (h : i < l.length) : l.drop i = atL l i :: l.drop (i + 1) := by
  rw [List.drop_eq_getElem_cons h]
  simp [atL, List.getD_eq_getElem?_getD, h]
theorem mem_drop_at {l : List (Nat × Nat)} {i : Nat} (h : i < l.length) (a : Nat) : a ∈ (l.drop i).map (·.1) ↔ a = (atL l i).1 ∨ a ∈ (l.drop (i + 1)).map (·.1) := by
  rw [drop_at h, List.map_cons, List.mem_cons]
theorem endT_yes (S : Nat → Nat) {l : List (Nat × Nat)} {i a : Nat} (h : a ∈ (l.drop i).map (·.1)) : endT S l i a = S a := if_pos h
theorem endT_no (S : Nat → Nat) {l : List (Nat × Nat)} {i a : Nat} (h : a ∉ (l.drop i).map (·.1)) : endT S l i a = 0 := if_neg h
theorem endT_later (S : Nat → Nat) (l : List (Nat × Nat)) (i : Nat) (h : i < l.length) (hl : (atL l i).1 ∈ (l.drop (i + 1)).map (·.1)) : endT S l i = endT S l (i + 1) := by
  funext a
  by_cases hb : a ∈ (l.drop (i + 1)).map (·.1)
  · rw [endT_yes S hb, endT_yes S ((mem_drop_at h a).2 (.inr hb))]
  · rw [endT_no S hb, endT_no S (fun hh => ((mem_drop_at h a).1 hh).elim (fun e => hb (by rw [e]; exact hl)) hb)]
theorem storeAll_cons (S : Nat → Nat) (x : Nat × Nat) (l : List (Nat × Nat)) : storeAll S (x :: l) = storeAll (setW S x.1 x.2) l := rfl
theorem storeAll_not (l : List (Nat × Nat)) : ∀ (S : Nat → Nat) (a : Nat), a ∉ l.map (·.1) → storeAll S l a = S a := by
  induction l with
  | nil => intro S a _; rfl
  | cons x t ih =>
    intro S a h
    simp only [List.map_cons, List.mem_cons, not_or] at h
    rw [storeAll_cons, ih _ _ h.2]
    simp [setW, h.1]
/-- The word that was stored last. -/
theorem storeAll_last (S : Nat → Nat) (l : List (Nat × Nat)) (i : Nat) (h : i < l.length) (hl : (atL l i).1 ∉ (l.drop (i + 1)).map (·.1)) : storeAll S l (atL l i).1 = (atL l i).2 := by
  have e : l = l.take i ++ (atL l i :: l.drop (i + 1)) := by rw [← drop_at h, List.take_append_drop]
  have e2 : storeAll S l = storeAll (storeAll S (l.take i)) (atL l i :: l.drop (i + 1)) := by
    conv => lhs; rw [e]
    unfold storeAll
    rw [List.foldl_append]
  rw [e2, storeAll_cons, storeAll_not _ _ _ hl]
  simp [setW]
/-- What the inner loop has made of U behind the words es. -/
def innerU (U : Nat → Nat) (b s : Nat) (es : List (Nat × Nat)) : Nat → Nat := if b ∈ es.map (·.1) then setW U b s else U
theorem innerU_no (U : Nat → Nat) (b s : Nat) (es : List (Nat × Nat)) (x : Nat × Nat) (h : x.1 ≠ b) : innerU U b s (es ++ [x]) = innerU U b s es := by
  unfold innerU
  have : b ∈ (es ++ [x]).map (·.1) ↔ b ∈ es.map (·.1) := by
    rw [List.map_append, List.mem_append]
    simp [Ne.symm h]
  by_cases hb : b ∈ es.map (·.1)
  · rw [if_pos hb, if_pos (this.2 hb)]
  · rw [if_neg hb, if_neg (fun hh => hb (this.1 hh))]
theorem setW_twice (U : Nat → Nat) (b s t : Nat) : setW (setW U b s) b t = setW U b t := by
  funext x
  unfold setW
  split <;> rfl
theorem innerU_yes (U : Nat → Nat) (b s : Nat) (es : List (Nat × Nat)) (x : Nat × Nat) (h : x.1 = b) : innerU U b s (es ++ [x]) = setW (innerU U b s es) b s := by
  unfold innerU
  rw [if_pos (by rw [List.map_append]; simp [h])]
  by_cases hb : b ∈ es.map (·.1)
  · rw [if_pos hb, setW_twice]
  · rw [if_neg hb]
theorem take_drop_at {l : List (Nat × Nat)} {i k : Nat} (hk : k < l.length) (hi : i + 1 ≤ k) : (l.drop (i + 1)).take (k + 1 - (i + 1)) = (l.drop (i + 1)).take (k - (i + 1)) ++ [atL l k] := by
  obtain ⟨d, rfl⟩ : ∃ d, k = i + 1 + d := ⟨k - (i + 1), by omega⟩
  rw [show i + 1 + d + 1 - (i + 1) = d + 1 by omega, show i + 1 + d - (i + 1) = d by omega, List.take_add_one]
  have : (l.drop (i + 1))[d]? = some (atL l (i + 1 + d)) := by
    rw [List.getElem?_drop, List.getElem?_eq_getElem hk]
    simp [atL, List.getD_eq_getElem?_getD, hk]
  rw [this]; rfl
theorem xor5_ne (a : Nat) : a ^^^ 5 ≠ a := fun h => by
  have h1 : (a ^^^ 5) ^^^ a = a ^^^ a := by rw [h]
  rw [Nat.xor_self, Nat.xor_comm a 5, Nat.xor_assoc, Nat.xor_self] at h1
  simp at h1
/-- A round of the outer loop, whole. -/
theorem endT_step (S : Nat → Nat) (l : List (Nat × Nat)) (i : Nat) (h : i < l.length) (_hn : (atL l i).1 ∉ (l.drop (i + 1)).map (·.1)) (hS : S (atL l i).1 = (atL l i).2) :
    innerU (storeAll (endT S l (i + 1)) [((atL l i).1 ^^^ 5, 0), atL l i, ((atL l i).1, (atL l i).2)]) ((atL l i).1 ^^^ 5) (S ((atL l i).1 ^^^ 5)) (l.drop (i + 1)) = endT S l i := by
  have hx := xor5_ne (atL l i).1
  have hx' : ¬ (atL l i).1 = (atL l i).1 ^^^ 5 := fun e => hx e.symm
  funext a
  unfold innerU
  by_cases hm : (atL l i).1 ^^^ 5 ∈ (l.drop (i + 1)).map (·.1)
  · rw [if_pos hm]
    by_cases ha : a = (atL l i).1
    · rw [endT_yes S ((mem_drop_at h a).2 (.inl ha)), ha]
      simp [storeAll, setW, hS, hx']
    · by_cases hb : a = (atL l i).1 ^^^ 5
      · rw [endT_yes S ((mem_drop_at h a).2 (.inr (by rw [hb]; exact hm))), hb]
        simp [setW]
      · by_cases hc : a ∈ (l.drop (i + 1)).map (·.1)
        · rw [endT_yes S ((mem_drop_at h a).2 (.inr hc)), ← endT_yes S hc]
          simp [storeAll, setW, ha, hb]
        · rw [endT_no S (fun hh => ((mem_drop_at h a).1 hh).elim ha hc), ← endT_no S hc]
          simp [storeAll, setW, ha, hb]
  · rw [if_neg hm]
    by_cases ha : a = (atL l i).1
    · rw [endT_yes S ((mem_drop_at h a).2 (.inl ha)), ha]
      simp [storeAll, setW, hS]
    · by_cases hb : a = (atL l i).1 ^^^ 5
      · rw [endT_no S (fun hh => ((mem_drop_at h a).1 hh).elim ha (by rw [hb]; exact hm)), hb]
        simp [storeAll, setW, hx]
      · by_cases hc : a ∈ (l.drop (i + 1)).map (·.1)
        · rw [endT_yes S ((mem_drop_at h a).2 (.inr hc)), ← endT_yes S hc]
          simp [storeAll, setW, ha, hb]
        · rw [endT_no S (fun hh => ((mem_drop_at h a).1 hh).elim ha hc), ← endT_no S hc]
          simp [storeAll, setW, ha, hb]
theorem endT_all (l : List (Nat × Nat)) : endT (storeAll (fun _ => 0) l) l 0 = storeAll (fun _ => 0) l := by
  funext a
  unfold endT
  rw [List.drop_zero]
  split
  · rfl
  · rename_i h; rw [storeAll_not l _ a h]
theorem endT_none (S : Nat → Nat) (l : List (Nat × Nat)) : endT S l l.length = fun _ => 0 := by
  funext a
  unfold endT
  rw [List.drop_length]
  simp
end Go.Proofs.YtleihmmkonakhaaDoor
