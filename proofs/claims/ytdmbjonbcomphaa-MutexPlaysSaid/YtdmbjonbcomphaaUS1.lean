/- is: its contract. -/
import Derived.Test.YtdmbjonbcomphaaUFr
import Derived.Test.YtdmbjonbcomphaaUR3
import Derived.Test.YtdmbjonbcomphaaUF5
import Derived.Test.YtdmbjonbcomphaaUI0
namespace Go.Proofs.Ytdmbjonbcomphaa
open Go Go.RowKit Go.Shelf Go.Maps
attribute [local go_sem] Oper.semAt_some

/-- How many below i are held. -/
def cntA (l : List Int) (i : Int) : Nat := ((List.range i.toNat).filter fun n : Nat => decide (atL l (n : Int) ≠ 0)).length
theorem cntA_neg (l : List Int) : cntA l (-1) = 0 := rfl
theorem cntA_step (l : List Int) (i : Int) (h : -1 ≤ i) : cntA l (i + 1) = if atL l i = 0 then cntA l i else cntA l i + 1 := by
  by_cases h0 : i = -1
  · subst h0
    rw [if_pos (atL_neg (by decide))]
    rfl
  · obtain ⟨k, rfl⟩ : ∃ k : Nat, i = k := ⟨i.toNat, by omega⟩
    unfold cntA
    rw [show ((k : Int) + 1).toNat = k + 1 by omega, Int.toNat_natCast, List.range_succ, List.filter_append, List.length_append]
    by_cases e : atL l (k : Int) = 0
    · rw [if_pos e]; simp [e]
    · rw [if_neg e]; simp [e]
theorem cntA_end (l : List Int) (hl : l.length ≤ 64) : cntA l 65 = (heldL l).length := by
  unfold cntA heldL heldN
  rw [List.length_map, show (65 : Int).toNat = l.length + (65 - l.length) by omega, List.range_add, List.filter_append, List.length_append]
  have : ((List.map (l.length + ·) (List.range (65 - l.length))).filter fun n : Nat => decide (atL l (n : Int) ≠ 0)) = [] := by
    rw [List.filter_eq_nil_iff]
    intro n hn
    obtain ⟨k, _, rfl⟩ := List.mem_map.1 hn
    have e := atL_beyond (l := l) (i := (l.length : Int) + (k : Int)) (by omega)
    simp [e]
  rw [this]
  simp
theorem cntA_le (l : List Int) (i : Int) (h : i ≤ 65) : cntA l i ≤ 65 := by
  unfold cntA
  have := List.length_filter_le (fun n : Nat => decide (atL l (n : Int) ≠ 0)) (List.range i.toNat)
  rw [List.length_range] at this
  omega
theorem heA_lt {l : List Int} {x y : Nat} (h : x < y) (hy : y < (heldL l).length) : heA l x < heA l y := by
  unfold heA
  rw [List.getD_eq_getElem?_getD, List.getD_eq_getElem?_getD, List.getElem?_eq_getElem hy, List.getElem?_eq_getElem (by omega)]
  exact List.pairwise_iff_getElem.1 heldL_lt x y (by omega) hy h
theorem heA_at {l : List Int} {k : Nat} (h : k < (heldL l).length) : atL l (heA l k) ≠ 0 := held_at h
/-- The last one that was told. -/
def lastL (l : List Int) (j : Nat) : Int := if j = 0 then -1 else heA l (j - 1)
theorem lastL_lt {l : List Int} {j : Nat} (h : j < (heldL l).length) : lastL l j < heA l j := by
  unfold lastL
  split
  · have := (atL_in (heA_at h)).1; omega
  · exact heA_lt (by omega) h
/-- Two boxes are written to, and memory was made. -/
theorem two_set {k4 : Nat} {W W' : World} (h : Adds W W') (b : Nat) (hb : b < k4) (hk : k4 + 2 ≤ W.heap.size) (B : Nat) (hB : k4 + 2 ≤ B) (x y : Value) :
    Below k4 W ((W'.setCell ⟨k4 + 1, 0, none⟩ x).setCell ⟨k4, 0, none⟩ y) ∧ KpU (fun k => k = k4 ∨ k = k4 + 1) b W ((W'.setCell ⟨k4 + 1, 0, none⟩ x).setCell ⟨k4, 0, none⟩ y) ∧ KeepsFrom B W ((W'.setCell ⟨k4 + 1, 0, none⟩ x).setCell ⟨k4, 0, none⟩ y) := by
  have key : ∀ k, k < W.heap.size → k ≠ k4 → k ≠ k4 + 1 → ((W'.setCell ⟨k4 + 1, 0, none⟩ x).setCell ⟨k4, 0, none⟩ y).heap[k]? = W.heap[k]? := fun k h1 h2 h3 =>
    (Below.heap_setCell _ _ _ _ h2).trans ((Below.heap_setCell _ _ _ _ h3).trans (h.block k h1))
  have hs : W.heap.size ≤ ((W'.setCell ⟨k4 + 1, 0, none⟩ x).setCell ⟨k4, 0, none⟩ y).heap.size := by simpa [World.setCell] using h.size
  refine ⟨⟨h.os, h.tape, h.output, hs, fun k hk2 => key k (by omega) (by omega) (by omega)⟩, ⟨fun k c e f hm hc => ?_, key b (by omega) (by omega) (by omega)⟩, ⟨hs, fun k o h1 h2 h3 => ?_⟩⟩
  · exact (key k (Array.getElem?_eq_some_iff.1 hc).1 (fun e => hm (.inl e)) (fun e => hm (.inr e))).trans hc
  · exact (key k (Array.getElem?_eq_some_iff.1 h2).1 (by omega) (by omega)).trans h2
theorem seqI_not_nil (fn : Fn) (a b : Array Value) (W : World) : (binOp .eql 54 (.func fn a b) .nilFunc).run Try.prog W = .ok (.bool false) W := by kernel_rfl
set_option maxRecDepth 100000 in
set_option maxHeartbeats 16000000 in
theorem is_any (v u : Value) (bp b : Nat) (l : List Int) (many : Int) (hm : In64 many) (w : World) (hM : MutP w v bp b l) (hR : RefM w u l) :
    Calls Try.prog 12 #[v, u, .int .i64 many] w fun e w' => e = .returned (.bool true) ∧ Adds w w' := by
  obtain ⟨g, cap, rfl⟩ := hR.val
  obtain ⟨w1, hw1⟩ : ∃ w1, w.alloc (.cells #[.slice (some ⟨g, 0, none⟩) l.length cap] 30) = w1 := ⟨_, rfl⟩
  obtain ⟨w2, hw2⟩ : ∃ w2, w1.alloc (.cells #[.int .i64 many] 3) = w2 := ⟨_, rfl⟩
  obtain ⟨w3, hw3⟩ : ∃ w3, w2.alloc (.cells #[.bool false] 4) = w3 := ⟨_, rfl⟩
  have a1 : Adds w w1 := by rw [← hw1]; exact (Gr.new _ _).adds
  have a2 : Adds w1 w2 := by rw [← hw2]; exact (Gr.new _ _).adds
  have a3 : Adds w2 w3 := by rw [← hw3]; exact (Gr.new _ _).adds
  obtain ⟨n0, hn0⟩ : ∃ n0, w.heap.size = n0 := ⟨_, rfl⟩
  obtain ⟨n1, hn1⟩ : ∃ n1, w1.heap.size = n1 := ⟨_, rfl⟩
  obtain ⟨n2, hn2⟩ : ∃ n2, w2.heap.size = n2 := ⟨_, rfl⟩
  have HS := Lib.hid (show n0 = w.heap.size ∧ n1 = w.heap.size + 1 ∧ n2 = w.heap.size + 2 by rw [← hn0, ← hn1, ← hn2, ← hw2, ← hw1]; simp)
  have x0 : BkS 30 w3 n0 [.slice (some ⟨g, 0, none⟩) l.length cap] := by
    have h := BkS.new 30 w [.slice (some ⟨g, 0, none⟩) l.length cap]
    rw [hw1, hn0] at h
    exact (h.adds a2).adds a3
  have x1 : BkS 3 w3 n1 [.int .i64 many] := by
    have h := BkS.new 3 w1 [.int .i64 many]
    rw [hw2, hn1] at h
    exact h.adds a3
  have x2 : BkS 4 w3 n2 [.bool false] := by
    have h := BkS.new 4 w2 [.bool false]
    rw [hw3, hn2] at h
    exact h
  have HA := Lib.hid (Adds.trans a1 (Adds.trans a2 a3))
  have HM := Lib.hid (hM.adds HA.out)
  have HR := Lib.hid (hR.adds HA.out)
  have X0 := Lib.hid x0; have X1 := Lib.hid x1; have X2 := Lib.hid x2
  have HL := Lib.hid hM.len
  have HY := Lib.hid hM.may
  have hlI : (l.length : Int) ≤ 64 := by have := hM.len; omega
  clear a1 a2 a3 x0 x1 x2 hM hR
  refine (callsIn_wide (n := 8)).1 ?_
  refine callsIn_of_wp_marks Try.func12 rfl trivial ?_ rfl
  simp only [Try.ntmps12, List.size_toArray, List.length_cons, List.length_nil, Nat.reduceAdd, Nat.reduceSub, Array.replicate_succ, Array.replicate_zero, List.push_toArray, List.append_toArray, List.nil_append, List.cons_append]
  gi_wp2
  gi_loopw [7, 8] (fun iall ii wr => ∃ i : Int, ii = .int .i64 i ∧ iall = .int .i64 ((cntA l i : Nat) : Int) ∧ -1 ≤ i ∧ i ≤ 65 ∧ Adds w3 wr) (fun _ ii _ => 66 - (intOf ii + 1).toNat)
  case atStart => exact ⟨-1, rfl, by rw [cntA_neg]; rfl, by decide, by decide, Adds.refl _⟩
  case round =>
    obtain ⟨i, rfl, rfl, hi1, hi2, hA⟩ := hrel
    by_cases hlt : i ≤ 64
    · have hc := cntA_le l i hi2
      obtain ⟨q, hq⟩ : ∃ q, cntA l i = q := ⟨_, rfl⟩
      have HST := Lib.hid (cntA_step l i hi1)
      rw [hq] at hc HST ⊢
      have hqI : (q : Int) ≤ 65 := by omega
      have HU := Lib.hid (holderU_any v bp b l i wr (HM.out.adds hA) ⟨by omega, by omega⟩)
      have HF := Lib.hid (refHolder_any _ l HL.out HY.out i wr (HR.out.adds hA))
      have HAr := Lib.hid hA
      have HI := Lib.hid (And.intro hi1 hlt)
      have c0 : wr.cell? ⟨n0, 0, none⟩ = some (.slice (some ⟨g, 0, none⟩) l.length cap) := (X0.out.adds hA).cell 0
      generalize whoL l i = z at *
      clear hA hc hq hi2
      by_cases hy : atL l i = 0
      · have HST2 := Lib.hid (show cntA l (i + 1) = q by rw [HST.out, if_pos hy])
        rw [show decide (atL l i ≠ 0) = false by simp [hy]] at HU HF
        clear HST hy
        gi_wp2_with (first
          | (refine ⟨trivial, ?_⟩; gi_at_call 17; refine (callsIn_wide.2 HU.out).mono ?_; rintro e w4 ⟨rfl, rfl⟩)
          | (refine ⟨trivial, ?_⟩; gi_at_call 24; refine (callsIn_wide.2 HF.out).mono ?_; rintro e w5 ⟨rfl, h1⟩; have H1 := Lib.hid h1; clear h1))
        go_roundw
        case rel => exact ⟨i + 1, by go_num, by rw [HST2.out], by have := HI.out; omega, by have := HI.out; omega, Adds.trans HAr.out H1.out⟩
        case measure => have := HI.out; simp [intOf]; omega
      · have HST2 := Lib.hid (show cntA l (i + 1) = q + 1 by rw [HST.out, if_neg hy])
        rw [show decide (atL l i ≠ 0) = true by simp [hy]] at HU HF
        clear HST hy
        gi_wp2_with (first
          | (refine ⟨trivial, ?_⟩; gi_at_call 17; refine (callsIn_wide.2 HU.out).mono ?_; rintro e w4 ⟨rfl, rfl⟩)
          | (refine ⟨trivial, ?_⟩; gi_at_call 24; refine (callsIn_wide.2 HF.out).mono ?_; rintro e w5 ⟨rfl, h1⟩; have H1 := Lib.hid h1; clear h1))
        go_roundw
        case rel => exact ⟨i + 1, by go_num, by rw [HST2.out]; go_num, by have := HI.out; omega, by have := HI.out; omega, Adds.trans HAr.out H1.out⟩
        case measure => have := HI.out; simp [intOf]; omega
    · obtain rfl : i = 65 := by omega
      rw [cntA_end l HL.out]
      obtain ⟨N, hN⟩ : ∃ N, (heldL l).length = N := ⟨_, rfl⟩
      have HN := Lib.hid hN
      have HN64 := Lib.hid (show N ≤ 64 by have := heldL_length l; have := HL.out; omega)
      rw [hN]
      have HAr := Lib.hid hA
      have HH := Lib.hid (heldU_any v bp b l wr (HM.out.adds hA))
      clear hN hA hlt hi1 hi2
      gi_wp2_with (refine ⟨trivial, ?_⟩; gi_at_call 18; refine (callsIn_wide.2 HH.out).mono ?_; rintro e w4 ⟨b4, rfl, h1, h2, h3, h4⟩; have H1 := Lib.hid h1; have H2 := Lib.hid h2; have H3 := Lib.hid h3; have HA4 := Lib.hid (Adds.trans HAr.out h4); clear h1 h2 h3 h4)
      have HM4 := Lib.hid (fun (W : World) (hW : Adds w4.drew W) => lenU_any v bp b l W (HM.out.adds (Adds.trans HA4.out (Adds.trans (Adds.drew w4) hW))))
      have HC4 := Lib.hid (fun (W : World) (hW : Adds w4.drew W) => show W.cell? ⟨n0, 0, none⟩ = some (.slice (some ⟨g, 0, none⟩) l.length cap) from (X0.out.adds (Adds.trans HA4.out (Adds.trans (Adds.drew w4) hW))).cell 0)
      have hnn := seqI_not_nil
      obtain ⟨z, hz⟩ : ∃ z : Int, ((l.length : Nat) : Int) = z := ⟨_, rfl⟩
      have HZ := Lib.hid hz
      rw [hz] at HM4
      refine wpIn_wide.2 ?_
      refine wp_region_loose [] (fun _ _ _ => True) Adds (by kernel_rfl) (by kernel_rfl) (by simp) Adds.refl (fun _ _ _ h k => Adds.trans h k) (fun _ _ _ _ _ _ => trivial) ?_
      repeat (refine wpL_step (fun K hK => ?_); first
        | (refine stepL_ex (v := .bool false) rfl rfl rfl Adds.refl ?_ ?_; (· (intro w' hw'; clear hK; go_simp)); go_simp; refine hK _ ?_; clear hK K)
        | (refine stepL_ex rfl rfl rfl Adds.refl (fun w' hw' => rfl) ?_; go_simp; refine hK _ ?_; clear hK K)
        | (refine stepL_ex (v := .slice (some ⟨g, 0, none⟩) l.length cap) rfl rfl rfl Adds.refl ?_ ?_; (· (intro w' hw'; clear hK; have hc := HC4.out w' hw'; go_simp)); go_simp; refine hK _ ?_; clear hK K)
        | (refine stepL_ex (v := .int .i64 z) rfl rfl rfl Adds.refl ?_ ?_; (· (intro w' hw'; clear hK; go_simp)); go_simp; refine hK _ ?_; clear hK K)
        | (refine stepL_call (v := .int .i64 z) (f := 20) (args := #[v]) rfl rfl rfl ?_ (fun w' hw' => (HM4.out w' hw').mono fun e w2 ⟨he, hw2⟩ => ⟨he, hw2 ▸ Adds.refl _⟩) ?_; (· (intro w'; clear hK; go_simp)); go_simp; refine hK _ ?_; clear hK K))
      refine wpL_nil ?_
      intro w5 a5
      simp only [forL]
      have HA5 := Lib.hid (Adds.trans HA4.out (Adds.trans (Adds.drew w4) a5))
      have H15 := Lib.hid (Adds.cellAt (Adds.trans (Adds.drew w4) a5) H1.out)
      have H25 := Lib.hid (H2.out.adds (Adds.trans (Adds.drew w4) a5))
      clear HM4 HC4 a5 hnn hz
      gi_wp2
      obtain ⟨wb, hwb⟩ : ∃ wb, (w5.alloc (.cells #[.int .i64 0] 3)).alloc (.cells #[.int .i64 (-1)] 3) = wb := ⟨_, rfl⟩
      have ab : Adds w5 wb := by rw [← hwb]; exact Adds.trans (Gr.new _ _).adds (Gr.new _ _).adds
      have hsb : wb.heap.size = w5.heap.size + 2 := by rw [← hwb]; simp
      have x14 : BkS 3 wb w5.heap.size [.int .i64 0] := by rw [← hwb]; exact (BkS.new _ _ _).adds (Gr.new _ _).adds
      have x15 : BkS 3 wb (w5.heap.size + 1) [.int .i64 (-1)] := by
        rw [← hwb]
        have h := BkS.new 3 (w5.alloc (.cells #[.int .i64 0] 3)) [.int .i64 (-1)]
        rwa [show (w5.alloc (.cells #[.int .i64 0] 3)).heap.size = w5.heap.size + 1 by simp] at h
      rw [hwb]
      clear hwb
      have HAb := Lib.hid (Adds.trans HA5.out ab)
      have H1b := Lib.hid (Adds.cellAt ab H15.out)
      have H2b := Lib.hid (H25.out.adds ab)
      have Hb4 := Lib.hid H25.out.lt
      have HW3 := Lib.hid HA5.out.size
      have Hn := Lib.hid (show n2 < w5.heap.size by have := X2.out.lt; have := HA5.out.size; omega)
      clear ab
      obtain ⟨k4, hk4⟩ : ∃ k4, w5.heap.size = k4 := ⟨_, rfl⟩
      rw [hk4] at x14 x15 hsb Hb4 Hn HW3 ⊢
      have HX14 := Lib.hid x14; have HX15 := Lib.hid x15; have HSb := Lib.hid hsb
      clear hk4 x14 x15
      obtain ⟨nk, hnk⟩ : ∃ nk, wr.heap.size = nk := ⟨_, rfl⟩
      rw [hnk] at H1b ⊢
      clear hnk H1 H15
      have HMany := Lib.hid hm
      refine' rangeFunc_S rfl (by omega) (gf := 31) (lb := #[.pointer (some ⟨nk, 0, none⟩)]) rfl trivial (enters_of Try.func31 (by kernel_rfl) rfl)
        (held_seqS 7 (by omega) nk b4 (fun k => k = k4 ∨ k = k4 + 1) l N HN.out HL.out wb (fun k h => by omega) H1b.out H2b.out) KpU.trans (fun W l o o' hlt h hc _ => KpU.put W l o o' (by have := Hb4.out; omega) h hc) (Below.refl _ _) (fun _ => rfl)
        (fun pre W => BkS 3 W k4 [.int .i64 ((pre.length : Nat) : Int)] ∧ BkS 3 W (k4 + 1) [.int .i64 (lastL l pre.length)] ∧ Below k4 wb W ∧ (0 < pre.length → ((pre.length : Nat) : Int) < many) ∧ wb.heap.size ≤ W.heap.size)
        (fun cd pre W => cd = .exit 2 ∧ BkS 3 W k4 [.int .i64 ((pre.length : Nat) : Int)] ∧ Below k4 wb W ∧ 0 < pre.length ∧ (pre.length = 1 ∨ ((pre.length : Nat) : Int) - 1 < many) ∧ many ≤ ((pre.length : Nat) : Int) ∧ wb.heap.size ≤ W.heap.size) ?own ?ownx ?h0 _ ?assign ?body ?done ?stop
      case assign =>
        intro l2 x W2 K hK
        have HK := Lib.hid hK; clear hK
        gi_wp2
        exact HK.out
      case own => exact fun s W W' ⟨h1, h2, h3, h4, h5⟩ hb => ⟨(hb.block _ (by omega)).trans h1, (hb.block _ (by omega)).trans h2, h3.trans (Below.mono hb (by omega)), h4, Nat.le_trans h5 hb.size⟩
      case ownx => exact fun cd s W W' ⟨h1, h2, h3, h4, h5, h6, h7⟩ hb => ⟨h1, (hb.block _ (by omega)).trans h2, h3.trans (Below.mono hb (by omega)), h4, h5, h6, Nat.le_trans h7 hb.size⟩
      case h0 => exact ⟨HX14.out, HX15.out, Below.refl _ _, fun h => absurd h (by simp), Nat.le_refl _⟩
      case body =>
        rintro l2 pre x W2 ⟨h1, h2, h3, h4, h5⟩ ⟨hx, rfl⟩
        rw [List.length_range] at h1 h2 h4
        have hz2 : k4 + 2 ≤ W2.heap.size := by have := HSb.out; omega
        have c14 : W2.cell? ⟨k4, 0, none⟩ = some (.int .i64 (x : Int)) := h1.cell 0
        have c15 : W2.cell? ⟨k4 + 1, 0, none⟩ = some (.int .i64 (lastL l x)) := h2.cell 0
        have hA2 : ∀ (c : Nat) (t : TypeId) (cs : List Value), c < k4 → BkS t w3 c cs → BkS t W2 c cs := fun c t cs hc hb => (h3.block c hc).trans (hb.adds HAb.out)
        have hn := HS.out; have hn2 := Hn.out
        have c4 : W2.cell? ⟨n0, 0, none⟩ = some (.slice (some ⟨g, 0, none⟩) l.length cap) := (hA2 n0 _ _ (by omega) X0.out).cell 0
        have c5 : W2.cell? ⟨n1, 0, none⟩ = some (.int .i64 many) := (hA2 n1 _ _ (by omega) X1.out).cell 0
        have hR2 : RefM W2 (.agg #[.slice (some ⟨g, 0, none⟩) l.length cap]) l := HR.out.keep fun g' cur hg => by
          have h8 := (Array.getElem?_eq_some_iff.1 hg).1
          exact (h3.block g' (by have := HW3.out; omega)).trans (HAb.out.block g' h8)
        have HF2 := Lib.hid (refHolder_any _ l HL.out HY.out (heA l x) W2 hR2)
        have hlt := lastL_lt (l := l) (j := x) (by rw [HN.out]; exact hx)
        have hat := heA_at (l := l) (k := x) (by rw [HN.out]; exact hx)
        rw [show decide (atL l (heA l x) ≠ 0) = true by simp [hat]] at HF2
        have HNx := Lib.hid (show lastL l (x + 1) = heA l x by unfold lastL; rw [if_neg (by omega)]; rfl)
        have hxI : (x : Int) ≤ 64 := by have := HN64.out; omega
        generalize heA l x = y at *
        generalize whoL l y = z at *
        generalize lastL l x = la at *
        have hle : ¬ y ≤ la := by omega
        have H123 := Lib.hid (And.intro h3 (And.intro h4 h5))
        have hd1 : ¬ n1 = k4 := by omega
        have hd2 : ¬ n1 = k4 + 1 := by omega
        have hd3 : ¬ k4 = n1 := by omega
        have hd4 : ¬ k4 + 1 = n1 := by omega
        have HX := Lib.hid hx
        have HZ2 := Lib.hid hz2
        have X14 := Lib.hid h1; have X15 := Lib.hid h2
        clear h1 h2 h3 h4 h5 hx hA2 hR2 hlt hat hz2 hn hn2
        have h78 : 1 ≤ 8 - 1 - 1 := by decide
        by_cases hge : many ≤ (x : Int) + 1
        · gi_wp2_with (refine ⟨trivial, ?_⟩; gi_at_call 24; refine (CallsIn.inRound l2 (callsIn_wide.2 HF2.out)).mono ?_; rintro e w6 ⟨rfl, h6⟩; have x14 := X14.out.adds h6; have x15 := X15.out.adds h6; have d14 : w6.cell? ⟨k4, 0, none⟩ = some (.int .i64 (x : Int)) := x14.cell 0; have d15 : w6.cell? ⟨k4 + 1, 0, none⟩ = some (.int .i64 la) := x15.cell 0; have e14 := x14.free 0; have e15 := x15.free 0; have d5 : w6.cell? ⟨n1, 0, none⟩ = some (.int .i64 many) := Adds.cellAt h6 c5; have H6 := Lib.hid h6; have Y14 := Lib.hid x14; have Y15 := Lib.hid x15; clear h6 x14 x15)
          obtain ⟨q1, q2, q3⟩ := two_set H6.out b4 Hb4.out HZ2.out (k4 + 2) (Nat.le_refl _) (.int .i64 y) (.int .i64 ((x : Int) + 1))
          refine ⟨by rw [HSb.out]; exact q3, ?_⟩
          refine ⟨rfl, ?_, H123.out.1.trans q1, by simp, ?_, ?_, Nat.le_trans H123.out.2.2 q1.size⟩
          · rw [List.length_append, List.length_range]
            exact (Y14.out.other (by omega) _).set 0 _
          · rw [List.length_append, List.length_range]
            rcases Nat.eq_zero_or_pos x with h0 | h0
            · exact .inl (by simp [h0])
            · have := H123.out.2.1 h0
              exact .inr (by simp; omega)
          · rw [List.length_append, List.length_range]
            simp; omega
        · gi_wp2_with (refine ⟨trivial, ?_⟩; gi_at_call 24; refine (CallsIn.inRound l2 (callsIn_wide.2 HF2.out)).mono ?_; rintro e w6 ⟨rfl, h6⟩; have x14 := X14.out.adds h6; have x15 := X15.out.adds h6; have d14 : w6.cell? ⟨k4, 0, none⟩ = some (.int .i64 (x : Int)) := x14.cell 0; have d15 : w6.cell? ⟨k4 + 1, 0, none⟩ = some (.int .i64 la) := x15.cell 0; have e14 := x14.free 0; have e15 := x15.free 0; have d5 : w6.cell? ⟨n1, 0, none⟩ = some (.int .i64 many) := Adds.cellAt h6 c5; have H6 := Lib.hid h6; have Y14 := Lib.hid x14; have Y15 := Lib.hid x15; clear h6 x14 x15)
          obtain ⟨q1, q2, q3⟩ := two_set H6.out b4 Hb4.out HZ2.out (k4 + 2) (Nat.le_refl _) (.int .i64 y) (.int .i64 ((x : Int) + 1))
          refine ⟨by rw [HSb.out]; exact q3, q2, ?_, ?_, H123.out.1.trans q1, ?_, Nat.le_trans H123.out.2.2 q1.size⟩
          · rw [List.length_append, List.length_range]
            exact (Y14.out.other (by omega) _).set 0 _
          · rw [List.length_append, List.length_range]
            show BkS _ _ _ [.int .i64 (lastL l (x + 1))]
            rw [HNx.out]
            exact (Y15.out.set 0 _).other (by omega) _
          · rw [List.length_append, List.length_range]
            intro _
            simp; omega
      case done =>
        rintro D xs W hD rfl ⟨h1, h2, h3, h4, h5⟩ hK
        rw [List.length_range] at h1 h4
        have hA2 : ∀ (c : Nat) (t : TypeId) (cs : List Value), c < k4 → BkS t w3 c cs → BkS t W c cs := fun c t cs hc hb => (h3.block c hc).trans (hb.adds HAb.out)
        have c14 : W.cell? ⟨k4, 0, none⟩ = some (.int .i64 (N : Int)) := h1.cell 0
        have c5 : W.cell? ⟨n1, 0, none⟩ = some (.int .i64 many) := (hA2 n1 _ _ (by have := HS.out; have := Hn.out; omega) X1.out).cell 0
        have hx6 := hA2 n2 _ _ Hn.out X2.out
        have c6 : W.cell? ⟨n2, 0, none⟩ = some (.bool false) := hx6.cell 0
        have f6 := hx6.free 0
        have HX6 := Lib.hid hx6; have HKD := Lib.hid hK; have HD := Lib.hid hD; have H3 := Lib.hid (And.intro h3 (And.intro h4 h5))
        clear hx6 hA2 h1 h2 h3 h4 h5 hK hD
        gi_wp2
        show LeavesInM _ _ _ _ _ _ _ _ _
        have hlt := HX6.out.lt
        have hb9 := HX6.out.set 0 (.bool (((N : Nat) : Int) == min (N : Int) (max 1 many)))
        have hDW := (Array.getElem?_eq_some_iff.1 HKD.out).1
        have hs := HS.out; have hn9 := Hn.out; have hsb := HSb.out; have hD := HD.out
        have hne : D ≠ n2 := by omega
        refine marks_leave (B := wb.heap.size) (C := (W.setCell ⟨n2, 0, none⟩ (.bool (((N : Nat) : Int) == min (N : Int) (max 1 many)))).heap.size) _ _ ⟨D, rfl, HD.out, by simp [World.setCell]; exact hDW, (Below.heap_setCell W _ _ D hne).trans HKD.out, trivial⟩ fun W' hW' => ⟨.bool (((N : Nat) : Int) == min (N : Int) (max 1 many)), results_box rfl Try.underlying4 _ _ _ _ rfl ((show BkS 4 W' n2 _ from (hW'.block _ (by omega)).trans hb9).cell 0), ?_, ?_⟩
        · rw [show (((N : Nat) : Int) == min (N : Int) (max 1 many)) = true by rw [beq_iff_eq]; have := H3.out.2.1; omega]
        · have hw : Below w.heap.size w W := Below.trans (Adds.trans HA.out HAb.out) (Below.mono H3.out.1 (by omega))
          exact Below.trans (Below.setCell hw (p := ⟨n2, 0, none⟩) (by show w.heap.size ≤ n2; omega) _) (Below.mono hW' (by omega))
      case stop =>
        rintro D cd pre W hD ⟨j, hj, rfl⟩ ⟨rfl, h1, h3, h4, h5, h6, h7⟩ hK
        rw [List.length_range] at h1 h4 h5 h6
        have hA2 : ∀ (c : Nat) (t : TypeId) (cs : List Value), c < k4 → BkS t w3 c cs → BkS t W c cs := fun c t cs hc hb => (h3.block c hc).trans (hb.adds HAb.out)
        have c14 : W.cell? ⟨k4, 0, none⟩ = some (.int .i64 (j : Int)) := h1.cell 0
        have c5 : W.cell? ⟨n1, 0, none⟩ = some (.int .i64 many) := (hA2 n1 _ _ (by have := HS.out; have := Hn.out; omega) X1.out).cell 0
        have hx6 := hA2 n2 _ _ Hn.out X2.out
        have c6 : W.cell? ⟨n2, 0, none⟩ = some (.bool false) := hx6.cell 0
        have f6 := hx6.free 0
        have HX6 := Lib.hid hx6; have HKD := Lib.hid hK; have HD := Lib.hid hD; have H3 := Lib.hid (And.intro h3 (And.intro h4 (And.intro h5 (And.intro h6 hj))))
        clear hx6 hA2 h1 h3 h4 h5 h6 h7 hK hD hj
        gi_wp2
        show LeavesInM _ _ _ _ _ _ _ _ _
        have hlt := HX6.out.lt
        have hb9 := HX6.out.set 0 (.bool (((j : Nat) : Int) == min (N : Int) (max 1 many)))
        have hDW := (Array.getElem?_eq_some_iff.1 HKD.out).1
        have hs := HS.out; have hn9 := Hn.out; have hsb := HSb.out; have hD := HD.out
        have hne : D ≠ n2 := by omega
        refine marks_leave (B := wb.heap.size) (C := (W.setCell ⟨n2, 0, none⟩ (.bool (((j : Nat) : Int) == min (N : Int) (max 1 many)))).heap.size) _ _ ⟨D, rfl, HD.out, by simp [World.setCell]; exact hDW, (Below.heap_setCell W _ _ D hne).trans HKD.out, trivial⟩ fun W' hW' => ⟨.bool (((j : Nat) : Int) == min (N : Int) (max 1 many)), results_box rfl Try.underlying4 _ _ _ _ rfl ((show BkS 4 W' n2 _ from (hW'.block _ (by omega)).trans hb9).cell 0), ?_, ?_⟩
        · rw [show (((j : Nat) : Int) == min (N : Int) (max 1 many)) = true by rw [beq_iff_eq]; have := H3.out.2; omega]
        · have hw : Below w.heap.size w W := Below.trans (Adds.trans HA.out HAb.out) (Below.mono H3.out.1 (by omega))
          exact Below.trans (Below.setCell hw (p := ⟨n2, 0, none⟩) (by show w.heap.size ≤ n2; omega) _) (Below.mono hW' (by omega))
end Go.Proofs.Ytdmbjonbcomphaa
