/- The numbers of those that are held, rising: slices.Collect, slices.SortedFunc, sorted: their contracts. -/
import Derived.Test.YtdmbjonbcomphaaUK3
namespace Go.Proofs.Ytdmbjonbcomphaa
open Go Go.RowKit Go.Shelf Go.Maps

/-- Those that are held, rising. -/
def heldN (l : List Int) : List Nat := (List.range l.length).filter fun n => decide (atL l (n : Int) ≠ 0)
def heldL (l : List Int) : List Int := (heldN l).map fun n : Nat => (n : Int)
theorem heldN_mem {l : List Int} {n : Nat} : n ∈ heldN l ↔ atL l (n : Int) ≠ 0 := by
  unfold heldN
  rw [List.mem_filter, List.mem_range]
  constructor
  · rintro ⟨_, h⟩; simpa using h
  · intro h
    have := atL_in h
    exact ⟨by omega, by simpa using h⟩
theorem heldN_lt {l : List Int} : (heldN l).Pairwise (· < ·) := List.pairwise_lt_range.filter _
theorem heldN_length (l : List Int) : (heldN l).length ≤ l.length := by
  have := List.length_filter_le (fun n : Nat => decide (atL l (n : Int) ≠ 0)) (List.range l.length)
  simpa [heldN] using this
theorem heldL_mem {l : List Int} {i : Int} : i ∈ heldL l ↔ atL l i ≠ 0 := by
  unfold heldL
  constructor
  · intro h
    obtain ⟨n, hn, rfl⟩ := List.mem_map.1 h
    exact heldN_mem.1 hn
  · intro h
    have h1 := atL_in h
    exact List.mem_map.2 ⟨i.toNat, heldN_mem.2 (by rw [show ((i.toNat : Nat) : Int) = i by omega]; exact h), by omega⟩
theorem heldL_lt {l : List Int} : (heldL l).Pairwise (· < ·) := by
  unfold heldL
  rw [List.pairwise_map]
  exact heldN_lt.imp fun h => by omega
theorem heldL_length (l : List Int) : (heldL l).length ≤ l.length := by unfold heldL; rw [List.length_map]; exact heldN_length l
theorem sort_held {L : List IP} {l : List Int} (hd : (L.map (·.1)).Nodup) (hL : ∀ i c, (i, c) ∈ L ↔ (atL l i ≠ 0 ∧ c = atL l i - 1)) : sortI (L.map (·.1)) = heldL l := by
  have hn : (heldL l).Nodup := heldL_lt.imp fun h => by omega
  have hp : (L.map (·.1)).Perm (heldL l) := (List.perm_ext_iff_of_nodup hd hn).2 fun i => by rw [HolF.key hL, heldL_mem]
  refine List.Perm.eq_of_pairwise (le := fun x y => decide (x ≤ y) = true) (fun a b _ _ h1 h2 => by simp at h1 h2; omega) ?_ ?_ ((sortI_perm _).trans hp)
  · exact List.pairwise_mergeSort (by intro a b c; simp; omega) (by intro a b; simp; omega) _
  · exact heldL_lt.imp fun h => by simp; omega

theorem collectKeysU_any (Bm b : Nat) (L : List IP) (w : World) (hm : w.cell? ⟨Bm, 0, none⟩ = some (.map (some b))) (hM : HolAt w b L) (hL : L.length ≤ 1048576) :
    Calls Try.prog 47 #[kfn (.pointer (some ⟨Bm, 0, none⟩))] w fun e w' => ∃ v xs, e = .returned v ∧ xs.Perm (L.map (·.1)) ∧ RowI w.heap.size w' v xs ∧ Adds w w' := by
  have HC := Lib.hid (appendKeys_any Bm b L w hm hM hL)
  clear hm hM hL
  go_enter Try.func47, Try.ntmps47
  go_wp2_with (go_at_call 49; refine HC.out.mono ?_; rintro e w1 ⟨v, xs, rfl, h1, h2, h3⟩; have H1 := Lib.hid h1; have H2 := Lib.hid h2; have H3 := Lib.hid h3; clear h1 h2 h3)
  go_ret
  exact ⟨v, xs, rfl, H1.out, H2.out, H3.out⟩
theorem sortedFU_any (Bm b : Nat) (l : List Int) (w : World) (hm : w.cell? ⟨Bm, 0, none⟩ = some (.map (some b))) (hM : HolF w b l) (hl : l.length ≤ 64) :
    Calls Try.prog 44 #[kfn (.pointer (some ⟨Bm, 0, none⟩)), .func (.func 41) #[] #[]] w fun e w' => ∃ v, e = .returned v ∧ RowI w.heap.size w' v (heldL l) ∧ Adds w w' := by
  obtain ⟨L, h1, h2⟩ := hM
  have hL := h1.many h2
  have HS := Lib.hid (sort_held h1.nodup h2)
  have HC := Lib.hid (collectKeysU_any Bm b L w hm h1 (by omega))
  have HL := Lib.hid (show L.length ≤ 64 by omega)
  clear hm h1 h2 hl hL
  go_enter Try.func44, Try.ntmps44
  go_wp2_with (first
    | (go_at_call 47; refine HC.out.mono ?_; rintro e w1 ⟨v, xs, rfl, h1, h2, h3⟩; have H1 := Lib.hid h1; have H2 := Lib.hid h2; have H3 := Lib.hid h3; clear h1 h2 h3)
    | (go_at_call 48; refine (sortFI_any w.heap.size v xs w1 H2.out (by have := H1.out.length_eq; simp at this; have := HL.out; omega)).mono ?_; rintro e w2 ⟨rfl, h4, h5⟩; have H4 := Lib.hid h4; have H5 := Lib.hid h5; clear h4 h5))
  go_ret
  exact ⟨v, rfl, by rw [← HS.out, ← sortI_eq H1.out]; exact H4.out, Below.trans H3.out H5.out⟩
theorem sortedU_any (Bm b : Nat) (l : List Int) (w : World) (hm : w.cell? ⟨Bm, 0, none⟩ = some (.map (some b))) (hM : HolF w b l) (hl : l.length ≤ 64) :
    Calls Try.prog 39 #[kfn (.pointer (some ⟨Bm, 0, none⟩)), .func (.func 41) #[] #[]] w fun e w' => ∃ v, e = .returned v ∧ RowI w.heap.size w' v (heldL l) ∧ Adds w w' := by
  have HC := Lib.hid (sortedFU_any Bm b l w hm hM hl)
  clear hm hM hl
  go_enter Try.func39, Try.ntmps39
  go_wp2_with (go_at_call 44; refine HC.out.mono ?_; rintro e w1 ⟨v, rfl, h1, h2⟩; have H1 := Lib.hid h1; have H2 := Lib.hid h2; clear h1 h2)
  go_ret
  exact ⟨v, rfl, H1.out, H2.out⟩
/-- A row of numbers that lies where M does not turn. -/
def RowK (M : Nat → Prop) (w : World) (u : Value) (L : List Int) : Prop :=
  ∃ ao cap, u = .slice ao L.length cap ∧ ∀ i, i < L.length → ∃ g, ao = some ⟨g, 0, none⟩ ∧ ¬ M g ∧ w.cell? ⟨g, i, none⟩ = some (.int .i64 (L.getD i 0))
theorem RowK.keepC {M : Nat → Prop} {w w' : World} {u : Value} {L : List Int} (h : RowK M w u L) (hk : KeepC M w w') : RowK M w' u L := by
  obtain ⟨ao, cap, rfl, h3⟩ := h
  exact ⟨ao, cap, rfl, fun i hi => by obtain ⟨g, e, hg, hc⟩ := h3 i hi; exact ⟨g, e, hg, hk.cell hg hc⟩⟩
theorem RowI.row {base : Nat} {w : World} {v : Value} {xs : List Int} (h : RowI base w v xs) {M : Nat → Prop} (hM : ∀ b, M b → b < base) : RowK M w v xs := by
  by_cases hne : xs = []
  · subst hne
    exact ⟨none, 0, h.2.2 rfl, fun i hi => by simp at hi⟩
  · obtain ⟨g, cap, cur, rfl, h2, h3, h4, h5, h6, h7⟩ := rowI_some h hne
    rw [Nat.mul_one] at h7
    refine ⟨_, cap, rfl, fun i hi => ⟨g, rfl, fun hm => by have := hM _ hm; omega, ?_⟩⟩
    have h8 := (rowI_holds h3 h7 i (by simpa using hi)).1
    rw [Nat.zero_add] at h8
    rw [h8]
    simp [iV, List.getD_eq_getElem?_getD, hi]
end Go.Proofs.Ytdmbjonbcomphaa
