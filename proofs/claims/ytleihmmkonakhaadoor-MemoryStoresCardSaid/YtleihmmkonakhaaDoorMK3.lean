/- The numbers of all pages, rising: cmp.Compare, slices.Collect, slices.SortedFunc and what calls them: their contracts. -/
import Derived.Test.YtleihmmkonakhaaDoorMShelf
import Derived.Test.YtleihmmkonakhaaDoorMK2
namespace Go.Proofs.YtleihmmkonakhaaDoor
open Go Go.RowKit Go.Shelf Go.Maps Go.Sort

def cfU (x y : Nat) : Int := if x < y then -1 else if y < x then 1 else 0
theorem ltU (x y : Nat) : ltOf cfU x y = decide (x < y) := by
  unfold ltOf cfU
  by_cases h1 : x < y
  · simp [h1]
  · by_cases h2 : y < x <;> simp [h1, h2]
theorem swoU : SWO (ltOf cfU) where
  irrefl x := by rw [ltU]; simp
  trans x y z h1 h2 := by rw [ltU] at *; simp at *; omega
  ntrans x y z h1 h2 := by rw [ltU] at *; simp at *; omega
theorem totU (x y : Nat) (h1 : ltOf cfU x y = false) (h2 : ltOf cfU y x = false) : x = y := by rw [ltU] at *; simp at *; omega
theorem geU : (fun x y : Nat => !ltOf cfU y x) = fun x y => decide (x ≤ y) := by
  funext x y
  rw [ltU]
  by_cases h : x ≤ y
  · have h' : ¬ y < x := by omega
    simp [h, h']
  · have h' : y < x := by omega
    simp [h, h']

theorem isNaN_any (x : Nat) (w : World) : Calls Tryd.prog 66 #[.int .u32 ((x : Nat) : Int)] w fun e w' => e = .returned (.bool false) ∧ w = w' := by
  go_enter Tryd.func66, Tryd.ntmps66
  go_wp2
  go_ret
  exact ⟨rfl, rfl⟩
theorem compareU_any (x y : Nat) (w : World) : Calls Tryd.prog 55 #[.int .u32 ((x : Nat) : Int), .int .u32 ((y : Nat) : Int)] w fun e w' => e = .returned (.int .i64 (cfU x y)) ∧ w = w' := by
  have HN := Lib.hid isNaN_any
  unfold cfU
  by_cases h1 : x < y
  · rw [if_pos h1]
    go_enter Tryd.func55, Tryd.ntmps55
    go_wp2_with (go_at_call 66; refine (HN.out _ _).mono ?_; rintro e w1 ⟨rfl, rfl⟩)
    go_ret
    exact ⟨rfl, rfl⟩
  · rw [if_neg h1]
    by_cases h2 : y < x
    · rw [if_pos h2]
      go_enter Tryd.func55, Tryd.ntmps55
      go_wp2_with (go_at_call 66; refine (HN.out _ _).mono ?_; rintro e w1 ⟨rfl, rfl⟩)
      go_ret
      exact ⟨rfl, rfl⟩
    · rw [if_neg h2]
      go_enter Tryd.func55, Tryd.ntmps55
      go_wp2_with (go_at_call 66; refine (HN.out _ _).mono ?_; rintro e w1 ⟨rfl, rfl⟩)
      go_ret
      exact ⟨rfl, rfl⟩
theorem numbers1_any (x y : Nat) (w : World) : Calls Tryd.prog 54 #[.int .u32 ((x : Nat) : Int), .int .u32 ((y : Nat) : Int)] w fun e w' => e = .returned (.int .i64 (cfU x y)) ∧ w = w' := by
  have HN := Lib.hid (compareU_any x y)
  generalize cfU x y = z at *
  go_enter Tryd.func54, Tryd.ntmps54
  go_wp2_with (go_at_call 55; refine (HN.out _).mono ?_; rintro e w1 ⟨rfl, rfl⟩)
  go_ret
  exact ⟨rfl, rfl⟩
theorem cmpU (blk off size : Nat) (w : World) : CmpLays1 Tryd.prog 54 #[] u32V cfU blk off size w := fun m os dk _ x y => by
  refine (numbers1_any x y _).mono ?_
  rintro e w' ⟨he, rfl⟩
  exact ⟨he, 0, #[], by rw [grow_empty]; rfl⟩

/-! ### The row behind the sort -/
theorem rowU_some {base : Nat} {w : World} {v : Value} {xs : List Nat} (h : RowU base w v xs) (hne : xs ≠ []) : ∃ g cap cur, v = .slice (some ⟨g, 0, none⟩) xs.length cap ∧ base ≤ g ∧ w.heap[g]? = some (.cells cur 29 (0, 0)) ∧
    xs.length ≤ cap ∧ cap ≤ maxLen ∧ cur.size = cap * 1 ∧ cur.toList.take (xs.length * 1) = xs.map u32V := by
  rcases h.1.2 with ⟨_, h0⟩ | h1
  · exact absurd (List.length_eq_zero_iff.1 h0) hne
  · exact h1
theorem rowU_holds {w : World} {g : Nat} {cur : Array Value} {xs : List Nat} (hb : w.heap[g]? = some (.cells cur 29 (0, 0))) (ht : cur.toList.take xs.length = xs.map u32V) : Holds u32V w g 0 xs.toArray := fun j hj => by
  have hj' : j < xs.length := by simpa using hj
  have h1 : cur.toList[j]? = some (u32V xs[j]) := by
    have h2 := congrArg (fun l => l[j]?) ht
    simp only [List.getElem?_take_of_lt hj', List.getElem?_map, List.getElem?_eq_getElem hj', Option.map_some] at h2
    exact h2
  constructor
  · rw [cell_of_row w g (0 + j) _ _ _ hb, Nat.zero_add, ← Array.getElem?_toList, h1]
    simp [hj']
  · simp [World.frozen?, hb]
theorem rowU_sorted {base : Nat} {w : World} {g cap n : Nat} {cur : Array Value} {xs ys : List Nat} {os : Array Obj} (hl : ys.length = xs.length) (hne : xs ≠ []) (hbase : base ≤ g) (hb : w.heap[g]? = some (.cells cur 29 (0, 0)))
    (h1 : xs.length ≤ cap) (h2 : cap ≤ maxLen) (h3 : cur.size = cap * 1) :
    RowU base (sortWorld u32V w g 0 n ys.toArray os) (.slice (some ⟨g, 0, none⟩) xs.length cap) ys ∧ w.grownBy (sortWorld u32V w g 0 n ys.toArray os) (some g) := by
  have hg : g < w.heap.size := (Array.getElem?_eq_some_iff.1 hb).1
  have hs : (sortWorld u32V w g 0 n ys.toArray os).heap[g]? = some (.cells (putCells u32V 0 ys.toArray cur) 29 (0, 0)) := by
    unfold sortWorld
    rw [heap_grow_old _ _ (by simpa using hg)]
    simp [putRow, mapBlock, Sort.ahead, Array.getElem?_modify, hb, onCells]
  refine ⟨⟨⟨by simp, .inr ⟨g, cap, _, by rw [hl], hbase, hs, by omega, h2, by simp [putCells, h3], ?_⟩⟩, ?_⟩, rfl, rfl, rfl, by unfold sortWorld; simp, fun k hk hk2 => ?_⟩
  · rw [Nat.mul_one]
    apply List.ext_getElem?
    intro j
    by_cases hj : j < ys.length
    · rw [List.getElem?_take_of_lt hj, Array.getElem?_toList]
      simp [putCells, hj, show j < cur.size by omega]
    · rw [List.getElem?_take_eq_none (by omega), List.getElem?_eq_none (by simp; omega)]
  · constructor
    · intro e; cases e
    · rintro rfl
      exact absurd (List.length_eq_zero_iff.1 hl.symm) hne
  · unfold sortWorld
    rw [heap_grow_old _ _ (by simpa using hk)]
    have : g ≠ k := fun e => hk2 (by rw [e])
    simp [putRow, mapBlock, Sort.ahead, Array.getElem?_modify, this]

def sortU (xs : List Nat) : List Nat := xs.mergeSort fun x y => decide (x ≤ y)
theorem sortU_length (xs : List Nat) : (sortU xs).length = xs.length := List.length_mergeSort _
theorem sortU_perm (xs : List Nat) : (sortU xs).Perm xs := List.mergeSort_perm _ _

/-- slices.SortFunc at a row of the call's own. -/
theorem sortF_any (base : Nat) (v : Value) (xs : List Nat) (w : World) (h : RowU base w v xs) (hx : xs.length ≤ 1048576) :
    Calls Tryd.prog 70 #[v, .func (.func 54) #[] #[]] w fun e w' => e = .returned (.tuple #[]) ∧ RowU base w' v (sortU xs) ∧ Below base w w' := by
  by_cases hne : xs = []
  · subst hne
    obtain rfl := h.2.2 rfl
    refine (AnyF.slices_SortFunc_none (P := Tryd.prog) (ρ := Tryd.laysSort_ren) { Tryd.laysSort with } none 0 (.func (.func 54) #[] #[]) w).mono ?_
    rintro e w' ⟨he, rfl⟩
    exact ⟨he, by simpa [sortU] using h, Below.refl _ _⟩
  · obtain ⟨g, cap, cur, rfl, h2, h3, h4, h5, h6, h7⟩ := rowU_some h hne
    rw [Nat.mul_one] at h7
    have hsz : xs.toArray.size = xs.length := by simp
    have hc := Any.slices_SortFunc_total Tryd.laysSort u32V (fun _ => rfl) cfU swoU 54 #[] g 0 cap xs.toArray w (enters_of Tryd.func54 (by kernel_rfl) rfl) (cmpU g 0 _ w) (rowU_holds h3 h7)
      (Array.getElem?_eq_some_iff.1 h3).1 (by rw [hsz]; omega) totU
    rw [geU, hsz] at hc
    refine Calls.mono hc ?_
    rintro e w' ⟨he, n, os, rfl⟩
    have hs := rowU_sorted (n := n) (os := os) (sortU_length xs) hne h2 h3 h4 h5 h6
    exact ⟨he, hs.1, (Below.refl base w).grown hs.2 (Nat.le_of_lt (Nat.lt_of_le_of_lt h2 (Array.getElem?_eq_some_iff.1 h3).1)) (fun k e => by cases e; exact h2)⟩

def NumsPost (L : List (Nat × Nat)) (w : World) (e : Ending) (w' : World) : Prop := ∃ v, e = .returned v ∧ RowU w.heap.size w' v (sortU (L.map (·.1))) ∧ Adds w w'
theorem sortU_eq {xs ys : List Nat} (h : xs.Perm ys) : sortU xs = sortU ys := by
  unfold sortU
  refine List.Perm.eq_of_pairwise (le := fun x y => decide (x ≤ y) = true) (fun a b _ _ h1 h2 => by simp at h1 h2; omega) ?_ ?_ (((List.mergeSort_perm xs _).trans h).trans (List.mergeSort_perm ys _).symm)
  · exact List.pairwise_mergeSort (by intro a b c; simp; omega) (by intro a b; simp; omega) xs
  · exact List.pairwise_mergeSort (by intro a b c; simp; omega) (by intro a b; simp; omega) ys
end Go.Proofs.YtleihmmkonakhaaDoor
