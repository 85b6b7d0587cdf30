/- The numbers of all pages, rising: cmp.Compare, slices.Collect, slices.SortedFunc and what calls them: their contracts. -/
import Derived.Test.YtdmbjonbcomphaaUShelf
import Derived.Test.YtdmbjonbcomphaaUK2
namespace Go.Proofs.Ytdmbjonbcomphaa
open Go Go.RowKit Go.Shelf Go.Maps Go.Sort

def cfI (x y : Int) : Int := if x < y then -1 else if y < x then 1 else 0
theorem ltU (x y : Int) : ltOf cfI x y = decide (x < y) := by
  unfold ltOf cfI
  by_cases h1 : x < y
  · simp [h1]
  · by_cases h2 : y < x <;> simp [h1, h2]
theorem swoU : SWO (ltOf cfI) where
  irrefl x := by rw [ltU]; simp
  trans x y z h1 h2 := by rw [ltU] at *; simp at *; omega
  ntrans x y z h1 h2 := by rw [ltU] at *; simp at *; omega
theorem totU (x y : Int) (h1 : ltOf cfI x y = false) (h2 : ltOf cfI y x = false) : x = y := by rw [ltU] at *; simp at *; omega
theorem geU : (fun x y : Int => !ltOf cfI y x) = fun x y => decide (x ≤ y) := by
  funext x y
  rw [ltU]
  by_cases h : x ≤ y
  · have h' : ¬ y < x := by omega
    simp [h, h']
  · have h' : y < x := by omega
    simp [h, h']

theorem isNaN_any (x : Int) (w : World) : Calls Try.prog 46 #[.int .i64 x] w fun e w' => e = .returned (.bool false) ∧ w = w' := by
  go_enter Try.func46, Try.ntmps46
  go_wp2
  go_ret
  exact ⟨rfl, rfl⟩
theorem compareU_any (x y : Int) (w : World) : Calls Try.prog 42 #[.int .i64 x, .int .i64 y] w fun e w' => e = .returned (.int .i64 (cfI x y)) ∧ w = w' := by
  have HN := Lib.hid isNaN_any
  unfold cfI
  by_cases h1 : x < y
  · rw [if_pos h1]
    go_enter Try.func42, Try.ntmps42
    go_wp2_with (go_at_call 46; refine (HN.out _ _).mono ?_; rintro e w1 ⟨rfl, rfl⟩)
    go_ret
    exact ⟨rfl, rfl⟩
  · rw [if_neg h1]
    by_cases h2 : y < x
    · rw [if_pos h2]
      go_enter Try.func42, Try.ntmps42
      go_wp2_with (go_at_call 46; refine (HN.out _ _).mono ?_; rintro e w1 ⟨rfl, rfl⟩)
      go_ret
      exact ⟨rfl, rfl⟩
    · rw [if_neg h2]
      go_enter Try.func42, Try.ntmps42
      go_wp2_with (go_at_call 46; refine (HN.out _ _).mono ?_; rintro e w1 ⟨rfl, rfl⟩)
      go_ret
      exact ⟨rfl, rfl⟩
theorem risingF_any (x y : Int) (w : World) : Calls Try.prog 41 #[.int .i64 x, .int .i64 y] w fun e w' => e = .returned (.int .i64 (cfI x y)) ∧ w = w' := by
  have HN := Lib.hid (compareU_any x y)
  generalize cfI x y = z at *
  go_enter Try.func41, Try.ntmps41
  go_wp2_with (go_at_call 42; refine (HN.out _).mono ?_; rintro e w1 ⟨rfl, rfl⟩)
  go_ret
  exact ⟨rfl, rfl⟩
theorem cmpU (blk off size : Nat) (w : World) : CmpLays1 Try.prog 41 #[] iV cfI blk off size w := fun m os dk _ x y => by
  refine (risingF_any x y _).mono ?_
  rintro e w' ⟨he, rfl⟩
  exact ⟨he, 0, #[], by rw [grow_empty]; rfl⟩

/-! ### The row behind the sort -/
theorem rowI_some {base : Nat} {w : World} {v : Value} {xs : List Int} (h : RowI base w v xs) (hne : xs ≠ []) : ∃ g cap cur, v = .slice (some ⟨g, 0, none⟩) xs.length cap ∧ base ≤ g ∧ w.heap[g]? = some (.cells cur 3 (0, 0)) ∧
    xs.length ≤ cap ∧ cap ≤ maxLen ∧ cur.size = cap * 1 ∧ cur.toList.take (xs.length * 1) = xs.map iV := by
  rcases h.1.2 with ⟨_, h0⟩ | h1
  · exact absurd (List.length_eq_zero_iff.1 h0) hne
  · exact h1
theorem rowI_holds {w : World} {g : Nat} {cur : Array Value} {xs : List Int} (hb : w.heap[g]? = some (.cells cur 3 (0, 0))) (ht : cur.toList.take xs.length = xs.map iV) : Holds iV w g 0 xs.toArray := fun j hj => by
  have hj' : j < xs.length := by simpa using hj
  have h1 : cur.toList[j]? = some (iV xs[j]) := by
    have h2 := congrArg (fun l => l[j]?) ht
    simp only [List.getElem?_take_of_lt hj', List.getElem?_map, List.getElem?_eq_getElem hj', Option.map_some] at h2
    exact h2
  constructor
  · rw [cell_of_row w g (0 + j) _ _ _ hb, Nat.zero_add, ← Array.getElem?_toList, h1]
    simp [hj']
  · simp [World.frozen?, hb]
theorem rowI_sorted {base : Nat} {w : World} {g cap n : Nat} {cur : Array Value} {xs ys : List Int} {os : Array Obj} (hl : ys.length = xs.length) (hne : xs ≠ []) (hbase : base ≤ g) (hb : w.heap[g]? = some (.cells cur 3 (0, 0)))
    (h1 : xs.length ≤ cap) (h2 : cap ≤ maxLen) (h3 : cur.size = cap * 1) :
    RowI base (sortWorld iV w g 0 n ys.toArray os) (.slice (some ⟨g, 0, none⟩) xs.length cap) ys ∧ w.grownBy (sortWorld iV w g 0 n ys.toArray os) (some g) := by
  have hg : g < w.heap.size := (Array.getElem?_eq_some_iff.1 hb).1
  have hs : (sortWorld iV w g 0 n ys.toArray os).heap[g]? = some (.cells (putCells iV 0 ys.toArray cur) 3 (0, 0)) := by
    unfold sortWorld
    rw [heap_grow_old _ _ (by simpa using hg)]
    simp [putRow, mapBlock, Sort.ahead, Array.getElem?_modify, hb, onCells]
  refine ⟨⟨⟨by simp, .inr ⟨g, cap, _, by rw [hl], hbase, hs, by omega, h2, by simp [putCells, h3], ?_⟩⟩, ?_⟩, rfl, rfl, rfl, by unfold sortWorld; simp, fun k hk hk2 => ?_⟩
  · rw [Nat.mul_one]
    apply List.ext_getElem?
    intro j
    by_cases hj : j < ys.length
    · rw [List.getElem?_take_of_lt hj, Array.getElem?_toList]
      simp [putCells, hj, show j < cur.size by omega]
    · rw [List.getElem?_take_eq_none (by omega), List.getElem?_eq_none (by simp; omega)]
  · constructor
    · intro e; cases e
    · rintro rfl
      exact absurd (List.length_eq_zero_iff.1 hl.symm) hne
  · unfold sortWorld
    rw [heap_grow_old _ _ (by simpa using hk)]
    have : g ≠ k := fun e => hk2 (by rw [e])
    simp [putRow, mapBlock, Sort.ahead, Array.getElem?_modify, this]

def sortI (xs : List Int) : List Int := xs.mergeSort fun x y => decide (x ≤ y)
theorem sortI_length (xs : List Int) : (sortI xs).length = xs.length := List.length_mergeSort _
theorem sortI_perm (xs : List Int) : (sortI xs).Perm xs := List.mergeSort_perm _ _

/-- slices.SortFunc at a row of the call's own. -/
theorem sortFI_any (base : Nat) (v : Value) (xs : List Int) (w : World) (h : RowI base w v xs) (hx : xs.length ≤ 1048576) :
    Calls Try.prog 48 #[v, .func (.func 41) #[] #[]] w fun e w' => e = .returned (.tuple #[]) ∧ RowI base w' v (sortI xs) ∧ Below base w w' := by
  by_cases hne : xs = []
  · subst hne
    obtain rfl := h.2.2 rfl
    refine (AnyF.slices_SortFunc_none (P := Try.prog) (ρ := Try.laysSort_ren) { Try.laysSort with } none 0 (.func (.func 41) #[] #[]) w).mono ?_
    rintro e w' ⟨he, rfl⟩
    exact ⟨he, by simpa [sortI] using h, Below.refl _ _⟩
  · obtain ⟨g, cap, cur, rfl, h2, h3, h4, h5, h6, h7⟩ := rowI_some h hne
    rw [Nat.mul_one] at h7
    have hsz : xs.toArray.size = xs.length := by simp
    have hc := Any.slices_SortFunc_total Try.laysSort iV (fun _ => rfl) cfI swoU 41 #[] g 0 cap xs.toArray w (enters_of Try.func41 (by kernel_rfl) rfl) (cmpU g 0 _ w) (rowI_holds h3 h7)
      (Array.getElem?_eq_some_iff.1 h3).1 (by rw [hsz]; omega) totU
    rw [geU, hsz] at hc
    refine Calls.mono hc ?_
    rintro e w' ⟨he, n, os, rfl⟩
    have hs := rowI_sorted (n := n) (os := os) (sortI_length xs) hne h2 h3 h4 h5 h6
    exact ⟨he, hs.1, (Below.refl base w).grown hs.2 (Nat.le_of_lt (Nat.lt_of_le_of_lt h2 (Array.getElem?_eq_some_iff.1 h3).1)) (fun k e => by cases e; exact h2)⟩

theorem sortI_eq {xs ys : List Int} (h : xs.Perm ys) : sortI xs = sortI ys := by
  unfold sortI
  refine List.Perm.eq_of_pairwise (le := fun x y => decide (x ≤ y) = true) (fun a b _ _ h1 h2 => by simp at h1 h2; omega) ?_ ?_ (((List.mergeSort_perm xs _).trans h).trans (List.mergeSort_perm ys _).symm)
  · exact List.pairwise_mergeSort (by intro a b c; simp; omega) (by intro a b; simp; omega) xs
  · exact List.pairwise_mergeSort (by intro a b c; simp; omega) (by intro a b; simp; omega) ys
end Go.Proofs.Ytdmbjonbcomphaa
