/- is: its contract. -/
import Derived.Test.YtedllkahalfjgaaYR3
import Derived.Test.YtedllkahalfjgaaYR4
import Derived.Test.YtedllkahalfjgaaYI3
import Derived.Test.YtedllkahalfjgaaYF3
namespace Go.Proofs.Ytedllkahalfjgaa
open Go Go.RowKit Go.Shelf
attribute [local go_sem] Oper.semAt_some

/-- One box is written to, and memory was made. -/
theorem one_set {k4 : Nat} {W W' : World} (h : Adds W W') (hk : k4 + 1 ≤ W.heap.size) (B : Nat) (hB : k4 + 1 ≤ B) (x : Value) :
    Below k4 W (W'.setCell ⟨k4, 0, none⟩ x) ∧ KeepC (fun k => k = k4) W (W'.setCell ⟨k4, 0, none⟩ x) ∧ KeepsFrom B W (W'.setCell ⟨k4, 0, none⟩ x) := by
  have key : ∀ k, k < W.heap.size → k ≠ k4 → (W'.setCell ⟨k4, 0, none⟩ x).heap[k]? = W.heap[k]? := fun k h1 h2 => (Below.heap_setCell _ _ _ _ h2).trans (h.block k h1)
  have hs : W.heap.size ≤ (W'.setCell ⟨k4, 0, none⟩ x).heap.size := by simpa [World.setCell] using h.size
  refine ⟨⟨h.os, h.tape, h.output, hs, fun k hk2 => key k (by omega) (by omega)⟩, fun k c e f hm hc => ?_, ⟨hs, fun k o h1 h2 h3 => ?_⟩⟩
  · exact (key k (Array.getElem?_eq_some_iff.1 hc).1 hm).trans hc
  · exact (key k (Array.getElem?_eq_some_iff.1 h2).1 (by omega)).trans h2
theorem seqQ_not_nil (fn : Fn) (a b : Array Value) (W : World) : (binOp .eql 73 (.func fn a b) .nilFunc).run Try.prog W = .ok (.bool false) W := by kernel_rfl
set_option maxRecDepth 100000 in
set_option maxHeartbeats 16000000 in
theorem is_any {w : World} {v s : Value} {bc : Nat} {l : List Int} (many : Int) (hmany : -9223372036854775808 ≤ many ∧ many ≤ 9223372036854775807) (hM : HolG w v bc l) (hR : RefG w s l) :
    Calls Try.prog 24 #[v, s, .int .i64 many] w fun e w' => e = .returned (.bool true) ∧ Adds w w' := by
  have hf := hM.ok
  have hl := hM.len
  obtain ⟨g, cap, rfl⟩ := hR.val
  obtain ⟨w1, hw1⟩ : ∃ w1, w.alloc (.cells #[.slice (some ⟨g, 0, none⟩) l.length cap] 53) = w1 := ⟨_, rfl⟩
  obtain ⟨w2, hw2⟩ : ∃ w2, w1.alloc (.cells #[.int .i64 many] 3) = w2 := ⟨_, rfl⟩
  obtain ⟨w3, hw3⟩ : ∃ w3, w2.alloc (.cells #[.bool false] 4) = w3 := ⟨_, rfl⟩
  have a1 : Adds w w1 := by rw [← hw1]; exact (Gr.new _ _).adds
  have a2 : Adds w1 w2 := by rw [← hw2]; exact (Gr.new _ _).adds
  have a3 : Adds w2 w3 := by rw [← hw3]; exact (Gr.new _ _).adds
  obtain ⟨n0, hn0⟩ : ∃ n0, w.heap.size = n0 := ⟨_, rfl⟩
  obtain ⟨n1, hn1⟩ : ∃ n1, w1.heap.size = n1 := ⟨_, rfl⟩
  obtain ⟨n2, hn2⟩ : ∃ n2, w2.heap.size = n2 := ⟨_, rfl⟩
  have HS := Lib.hid (show n0 = w.heap.size ∧ n1 = w.heap.size + 1 ∧ n2 = w.heap.size + 2 by rw [← hn0, ← hn1, ← hn2, ← hw2, ← hw1]; simp)
  have x0 : BkS 53 w3 n0 [.slice (some ⟨g, 0, none⟩) l.length cap] := by
    have h := BkS.new 53 w [.slice (some ⟨g, 0, none⟩) l.length cap]
    rw [hw1, hn0] at h
    exact (h.adds a2).adds a3
  have x1 : BkS 3 w3 n1 [.int .i64 many] := by
    have h := BkS.new 3 w1 [.int .i64 many]
    rw [hw2, hn1] at h
    exact h.adds a3
  have x2 : BkS 4 w3 n2 [.bool false] := by
    have h := BkS.new 4 w2 [.bool false]
    rw [hw3, hn2] at h
    exact h
  have HA := Lib.hid (Adds.trans a1 (Adds.trans a2 a3))
  have HM := Lib.hid (hM.adds HA.out)
  have HR := Lib.hid (hR.adds HA.out)
  have X0 := Lib.hid x0; have X1 := Lib.hid x1; have X2 := Lib.hid x2
  have HL := Lib.hid hl
  have HF := Lib.hid hf
  have hlI : (l.length : Int) ≤ 64 := by omega
  clear a1 a2 a3 x0 x1 x2 hM hR hf hl
  refine (callsIn_wide (n := 8)).1 ?_
  refine callsIn_of_wp_marks Try.func24 rfl trivial ?_ rfl
  simp only [Try.ntmps24, List.size_toArray, List.length_cons, List.length_nil, Nat.reduceAdd, Nat.reduceSub, Array.replicate_succ, Array.replicate_zero, List.push_toArray, List.append_toArray, List.nil_append, List.cons_append]
  gi_wp2
  gi_loopw [7] (fun ii wr => ∃ i : Int, ii = .int .i64 i ∧ -1 ≤ i ∧ i ≤ 65 ∧ Adds w3 wr) (fun ii _ => 66 - (intOf ii + 1).toNat)
  case atStart => exact ⟨-1, rfl, by decide, by decide, Adds.refl _⟩
  case round =>
    obtain ⟨i, rfl, hi1, hi2, hA⟩ := hrel
    by_cases hlt : i ≤ 64
    · have HU := Lib.hid (fun W (ha : Adds w3 W) => countG_any (HM.out.adds ha) i)
      have HD := Lib.hid (fun W (ha : Adds w3 W) => refCount_any _ l HL.out i W (HR.out.adds ha))
      have HK := Lib.hid (fun W (ha : Adds w3 W) => doneG_any (HM.out.adds ha) i)
      have HE := Lib.hid (fun W (ha : Adds w3 W) => refDone_any _ l HL.out i W (HR.out.adds ha))
      have HAr := Lib.hid hA
      have HB := Lib.hid (And.intro hi1 hlt)
      have HC := Lib.hid (fun W (ha : Adds w3 W) => show W.cell? ⟨n0, 0, none⟩ = some (.slice (some ⟨g, 0, none⟩) l.length cap) from (X0.out.adds ha).cell 0)
      generalize atQ l i = z at *
      generalize doneQ l i = q at *
      have hzz : (z != z) = false := by simp
      have hqq : (q != q) = false := by simp
      clear hA hi2
      gi_wp2
      refine wpIn_wide.2 ?_
      refine wp_region_loose [] (fun _ _ _ => True) Adds (by kernel_rfl) (by kernel_rfl) (by simp) Adds.refl (fun _ _ _ h k => Adds.trans h k) (fun _ _ _ _ _ _ => trivial) ?_
      repeat (refine wpL_step (fun K hK => ?_); first
        | (refine stepL_ex (v := .bool false) rfl rfl rfl Adds.refl ?_ ?_; (· (intro w' hw'; clear hK; go_simp)); go_simp; refine hK _ ?_; clear hK K)
        | (refine stepL_ex (v := .bool true) rfl rfl rfl Adds.refl ?_ ?_; (· (intro w' hw'; clear hK; go_simp)); go_simp; refine hK _ ?_; clear hK K)
        | (refine stepL_ex rfl rfl rfl Adds.refl (fun w' hw' => rfl) ?_; go_simp; refine hK _ ?_; clear hK K)
        | (refine stepL_ex (v := .agg #[.slice (some ⟨g, 0, none⟩) l.length cap]) rfl rfl rfl Adds.refl ?_ ?_; (· (intro w' hw'; clear hK; have hc := HC.out w' (Adds.trans HAr.out (Adds.trans (Adds.drew _) hw')); go_simp)); go_simp; refine hK _ ?_; clear hK K)
        | (refine stepL_call (v := .int .i64 z) (f := 30) (args := #[v, .int .i64 i]) rfl rfl rfl ?_ (fun w' hw' => (HU.out w' (Adds.trans HAr.out (Adds.trans (Adds.drew _) hw'))).mono fun e w2 ⟨he, hw2⟩ => ⟨he, hw2 ▸ Adds.refl _⟩) ?_; (· (intro w'; clear hK; go_simp)); go_simp; refine hK _ ?_; clear hK K)
        | (refine stepL_call (v := .int .i64 z) (f := 56) (args := #[.agg #[.slice (some ⟨g, 0, none⟩) l.length cap], .int .i64 i]) rfl rfl rfl ?_ (fun w' hw' => HD.out w' (Adds.trans HAr.out (Adds.trans (Adds.drew _) hw'))) ?_; (· (intro w'; clear hK; go_simp)); go_simp; refine hK _ ?_; clear hK K)
        | (refine stepL_call (v := .bool q) (f := 31) (args := #[v, .int .i64 i]) rfl rfl rfl ?_ (fun w' hw' => (HK.out w' (Adds.trans HAr.out (Adds.trans (Adds.drew _) hw'))).mono fun e w2 ⟨he, hw2⟩ => ⟨he, hw2 ▸ Adds.refl _⟩) ?_; (· (intro w'; clear hK; go_simp)); go_simp; refine hK _ ?_; clear hK K)
        | (refine stepL_call (v := .bool q) (f := 57) (args := #[.agg #[.slice (some ⟨g, 0, none⟩) l.length cap], .int .i64 i]) rfl rfl rfl ?_ (fun w' hw' => HE.out w' (Adds.trans HAr.out (Adds.trans (Adds.drew _) hw'))) ?_; (· (intro w'; clear hK; go_simp)); go_simp; refine hK _ ?_; clear hK K))
      refine wpL_nil ?_
      intro w6 a6
      simp only [forL]
      have A6 := Lib.hid (Adds.trans HAr.out (Adds.trans (Adds.drew _) a6))
      clear a6
      have hb1 := HB.out.1
      have hb2 := HB.out.2
      gi_wp2
      go_roundw
      case rel => exact ⟨i + 1, by go_num, by have := HB.out; omega, by have := HB.out; omega, A6.out⟩
      case measure => have := HB.out; simp [intOf]; omega
    · obtain rfl : i = 65 := by omega
      obtain ⟨N, hN⟩ : ∃ N, (openL l).length = N := ⟨_, rfl⟩
      have HN := Lib.hid hN
      have HN64 := Lib.hid (show N ≤ 64 by have := openL_len l; have := HL.out; omega)
      have HAr := Lib.hid hA
      have HC := Lib.hid (fun W (ha : Adds w3 W) => show W.cell? ⟨n0, 0, none⟩ = some (.slice (some ⟨g, 0, none⟩) l.length cap) from (X0.out.adds ha).cell 0)
      have hc0 := HC.out wr hA
      have HT := Lib.hid (refOpen_any _ l HL.out HF.out wr (HR.out.adds hA))
      have HP := Lib.hid (fun W (ha : Adds w3 W) => openQ_any (HM.out.adds ha))
      have hNI : (N : Int) ≤ 64 := by have := HN64.out; omega
      have hxl : (natsQ (openL l)).length = N := by unfold natsQ; rw [List.length_map, hN]
      have HXl := Lib.hid hxl
      clear hN hA hlt hi1 hi2 hxl
      gi_wp2_with (first
        | (refine ⟨trivial, ?_⟩; gi_at_call 58; refine (callsIn_wide.2 HT.out).mono ?_; clear HT; rintro e w4 ⟨v4, rfl, h1, h2⟩; obtain ⟨ao4, cp4, rfl, _, _⟩ := h1.form; rw [HXl.out] at h1 ⊢; obtain ⟨w5, hw5⟩ : ∃ w5, w4.alloc (.cells #[.slice ao4 N cp4] 41) = w5 := ⟨_, rfl⟩; have h5 : Adds w4 w5 := (by rw [← hw5]; exact (Gr.new _ _).adds); have x5 : BkS 41 w5 w4.heap.size [.slice ao4 N cp4] := (by rw [← hw5]; exact BkS.new _ _ _); obtain ⟨n12, hn12⟩ : ∃ n12, w4.heap.size = n12 := ⟨_, rfl⟩; rw [hn12] at x5; have X12 := Lib.hid x5; have H12 := Lib.hid (show w3.heap.size ≤ n12 by rw [← hn12]; exact Nat.le_trans HAr.out.size h2.size); have A5 := Lib.hid (Adds.trans HAr.out (Adds.trans h2 h5)); have I5 := Lib.hid (h1.adds h5); clear h1 h2 h5 x5)
        | (refine ⟨trivial, ?_⟩; gi_at_call 29; refine (callsIn_wide.2 (HP.out w5 A5.out)).mono ?_; clear HP; rintro e w6 ⟨rfl, h1, h2⟩; have K6 := Lib.hid h1; have A56 := Lib.hid h2; have A6 := Lib.hid (Adds.trans A5.out h2); clear h1 h2))
      have HLn := Lib.hid (fun W (ha : Adds w3 W) => len_hol (HM.out.adds ha))
      have HA6 := Lib.hid (fun (W : World) (hW : Adds w6.drew W) => (Adds.trans A6.out (Adds.trans (Adds.drew w6) hW) : Adds w3 W))
      have hnn := seqQ_not_nil
      obtain ⟨z, hz⟩ : ∃ z : Int, ((l.length : Nat) : Int) = z := ⟨_, rfl⟩
      have HZ := Lib.hid hz
      rw [hz] at HLn
      refine wpIn_wide.2 ?_
      refine wp_region_loose [] (fun _ _ _ => True) Adds (by kernel_rfl) (by kernel_rfl) (by simp) Adds.refl (fun _ _ _ h k => Adds.trans h k) (fun _ _ _ _ _ _ => trivial) ?_
      repeat (refine wpL_step (fun K hK => ?_); first
        | (refine stepL_ex (v := .bool false) rfl rfl rfl Adds.refl ?_ ?_; (· (intro w' hw'; clear hK; go_simp)); go_simp; refine hK _ ?_; clear hK K)
        | (refine stepL_ex rfl rfl rfl Adds.refl (fun w' hw' => rfl) ?_; go_simp; refine hK _ ?_; clear hK K)
        | (refine stepL_ex (v := .slice (some ⟨g, 0, none⟩) l.length cap) rfl rfl rfl Adds.refl ?_ ?_; (· (intro w' hw'; clear hK; have hc := HC.out w' (HA6.out _ hw'); go_simp)); go_simp; refine hK _ ?_; clear hK K)
        | (refine stepL_ex (v := .int .i64 z) rfl rfl rfl Adds.refl ?_ ?_; (· (intro w' hw'; clear hK; go_simp)); go_simp; refine hK _ ?_; clear hK K)
        | (refine stepL_call (v := .int .i64 z) (f := 32) (args := #[v]) rfl rfl rfl ?_ (fun w' hw' => (HLn.out w' (HA6.out _ hw')).mono fun e w2 ⟨he, hw2⟩ => ⟨he, hw2 ▸ Adds.refl _⟩) ?_; (· (intro w'; clear hK; go_simp)); go_simp; refine hK _ ?_; clear hK K))
      refine wpL_nil ?_
      intro w7 a7
      simp only [forL]
      have A67 := Lib.hid (Adds.trans (Adds.drew w6) a7)
      have A7 := Lib.hid (HA6.out _ a7)
      clear HLn HA6 HC a7 hnn hz
      gi_wp2
      obtain ⟨wb, hwb⟩ : ∃ wb, w7.alloc (.cells #[.int .i64 0] 3) = wb := ⟨_, rfl⟩
      have ab : Adds w7 wb := by rw [← hwb]; exact (Gr.new _ _).adds
      have hsb : wb.heap.size = w7.heap.size + 1 := by rw [← hwb]; simp
      have x14 : BkS 3 wb w7.heap.size [.int .i64 0] := by rw [← hwb]; exact BkS.new _ _ _
      rw [hwb]
      clear hwb
      obtain ⟨nk, hnk⟩ : ∃ nk, w5.heap.size = nk := ⟨_, rfl⟩
      rw [hnk] at K6 ⊢
      obtain ⟨k4, hk4⟩ : ∃ k4, w7.heap.size = k4 := ⟨_, rfl⟩
      rw [hk4] at x14 hsb ⊢
      have HAb := Lib.hid (Adds.trans A7.out ab)
      have Ab5 := Lib.hid (Adds.trans A56.out (Adds.trans A67.out ab))
      have HX14 := Lib.hid x14; have HSb := Lib.hid hsb
      have p1 := K6.out
      have HLv := Lib.hid (p1.adds (Adds.trans A67.out ab))
      have Hnk := Lib.hid (show nk < k4 by rw [← hk4]; exact Nat.lt_of_lt_of_le p1.lt A67.out.size)
      have Hn12 := Lib.hid (show n12 < k4 by rw [← hk4]; exact Nat.lt_of_lt_of_le X12.out.lt (Nat.le_trans A56.out.size A67.out.size))
      have Hn2 := Lib.hid (show n2 < k4 by rw [← hk4]; exact Nat.lt_of_lt_of_le X2.out.lt A7.out.size)
      have HW3 := Lib.hid (show w3.heap.size ≤ k4 by rw [← hk4]; exact A7.out.size)
      have HW5 := Lib.hid (show w5.heap.size ≤ k4 by rw [← hk4]; exact Nat.le_trans A56.out.size A67.out.size)
      clear ab hk4 hnk x14 hsb p1
      have HMany := Lib.hid hmany
      refine' rangeFunc_S rfl (by omega) (gf := 65) (lb := #[.pointer (some ⟨nk, 0, none⟩)]) rfl trivial (enters_of Try.func65 (by kernel_rfl) rfl)
        (open_seqS 7 (by omega) nk (fun k => k = k4) l HL.out N HN.out wb (fun k h => by have := HSb.out; omega) (fun h => by have := Hnk.out; omega) HLv.out) KeepC.trans (fun W l o o' hlt h hc _ => KeepC.put W l o o' h hc) (Below.refl _ _) (fun _ => rfl)
        (fun pre W => BkS 3 W k4 [.int .i64 ((pre.length : Nat) : Int)] ∧ Below k4 wb W ∧ (0 < pre.length → ((pre.length : Nat) : Int) < many) ∧ wb.heap.size ≤ W.heap.size)
        (fun cd pre W => cd = .exit 2 ∧ BkS 3 W k4 [.int .i64 ((pre.length : Nat) : Int)] ∧ Below k4 wb W ∧ 0 < pre.length ∧ (pre.length = 1 ∨ ((pre.length : Nat) : Int) - 1 < many) ∧ many ≤ ((pre.length : Nat) : Int) ∧ wb.heap.size ≤ W.heap.size) ?own ?ownx ?h0 _ ?assign ?body ?done ?stop
      case assign =>
        intro l2 x W2 K hK
        have HK := Lib.hid hK; clear hK
        gi_wp2
        exact HK.out
      case own => exact fun s W W' ⟨h1, h3, h4, h5⟩ hb => ⟨(hb.block _ (by have := HSb.out; omega)).trans h1, h3.trans (Below.mono hb (by have := HSb.out; omega)), h4, Nat.le_trans h5 hb.size⟩
      case ownx => exact fun cd s W W' ⟨h1, h2, h3, h4, h5, h6, h7⟩ hb => ⟨h1, (hb.block _ (by have := HSb.out; omega)).trans h2, h3.trans (Below.mono hb (by have := HSb.out; omega)), h4, h5, h6, Nat.le_trans h7 hb.size⟩
      case h0 => exact ⟨HX14.out, Below.refl _ _, fun h => absurd h (by simp), Nat.le_refl _⟩
      case body =>
        rintro l2 pre x W2 ⟨h1, h3, h4, h5⟩ ⟨hx, rfl⟩
        rw [List.length_range] at h1 h4
        have hz2 : k4 + 1 ≤ W2.heap.size := by have := HSb.out; omega
        have c14 : W2.cell? ⟨k4, 0, none⟩ = some (.int .i64 (x : Int)) := h1.cell 0
        have f14 := h1.free 0
        have hA2 : ∀ (c : Nat) (t : TypeId) (cs : List Value), c < k4 → BkS t wb c cs → BkS t W2 c cs := fun c t cs hc hb => (h3.block c hc).trans hb
        have hs := HS.out; have hn2 := Hn2.out
        have c4 : W2.cell? ⟨n0, 0, none⟩ = some (.slice (some ⟨g, 0, none⟩) l.length cap) := (hA2 n0 _ _ (by omega) (X0.out.adds HAb.out)).cell 0
        have c5 : W2.cell? ⟨n1, 0, none⟩ = some (.int .i64 many) := (hA2 n1 _ _ (by omega) (X1.out.adds HAb.out)).cell 0
        have c12 : W2.cell? ⟨n12, 0, none⟩ = some (.slice ao4 N cp4) := (hA2 n12 _ _ Hn12.out (X12.out.adds Ab5.out)).cell 0
        have hx9 : x < (openL l).length := by rw [HN.out]; exact hx
        have e9 := natsQ_at hx9
        obtain ⟨g', rfl, _, hg9, hc9⟩ := (I5.out.adds Ab5.out).cell e9
        have hg5 : g' < k4 := by
          obtain ⟨g8, e8, _, hg8, _⟩ := I5.out.cell e9
          simp only [Option.some.injEq, Addr.mk.injEq, and_true] at e8
          have := HW5.out
          omega
        have c9 : W2.cell? ⟨g', x, none⟩ = some (.int .i64 ((opA l x : Nat) : Int)) := hc9 W2 (h3.block g' hg5)
        obtain ⟨hk, hw⟩ := opA_at hx9
        have hR2 : RefG W2 (.agg #[.slice (some ⟨g, 0, none⟩) l.length cap]) l := HR.out.keep fun g8 cur hg8 => (h3.block g8 (by have := (Array.getElem?_eq_some_iff.1 hg8).1; have := HW3.out; omega)).trans (HAb.out.block g8 (Array.getElem?_eq_some_iff.1 hg8).1)
        have c8 : W2.cell? ⟨g, opA l x, none⟩ = some (.int .i64 (gQ l (opA l x))) := hR2.cells.2 _ hk
        have H123 := Lib.hid (And.intro h3 (And.intro h4 h5))
        have HX := Lib.hid hx
        have hxN : (x : Int) < (N : Int) := by omega
        have hx64 : (x : Int) ≤ 64 := by have := HN64.out; omega
        have hakI : ((opA l x : Nat) : Int) < (l.length : Int) := by omega
        try dsimp only [opV]
        generalize gQ l (opA l x) = r at *
        generalize opA l x = a at *
        have hd1 : ¬ n1 = k4 := by omega
        have hd3 : ¬ k4 = n1 := by omega
        have HZ2 := Lib.hid hz2
        have X14 := Lib.hid h1
        have hlen : l.length ≤ 64 := HL.out
        clear h1 h3 h4 h5 hx hA2 hz2 hs hn2 hx9 e9 hk hw hR2 hc9 hg9 hg5
        have h78 : 1 ≤ 8 - 1 - 1 := by decide
        by_cases hge : many ≤ (x : Int) + 1
        · gi_wp2
          obtain ⟨q1, q2, q3⟩ := one_set (Adds.refl W2) HZ2.out (k4 + 1) (Nat.le_refl _) (.int .i64 ((x : Int) + 1))
          refine ⟨by rw [HSb.out]; exact q3, ?_⟩
          refine ⟨rfl, ?_, H123.out.1.trans q1, by simp, ?_, ?_, Nat.le_trans H123.out.2.2 q1.size⟩
          · rw [List.length_append, List.length_range]
            exact X14.out.set 0 _
          · rw [List.length_append, List.length_range]
            rcases Nat.eq_zero_or_pos x with h0 | h0
            · exact .inl (by simp [h0])
            · have := H123.out.2.1 h0
              exact .inr (by simp; omega)
          · rw [List.length_append, List.length_range]
            simp; omega
        · gi_wp2
          obtain ⟨q1, q2, q3⟩ := one_set (Adds.refl W2) HZ2.out (k4 + 1) (Nat.le_refl _) (.int .i64 ((x : Int) + 1))
          refine ⟨by rw [HSb.out]; exact q3, q2, ?_, H123.out.1.trans q1, ?_, Nat.le_trans H123.out.2.2 q1.size⟩
          · rw [List.length_append, List.length_range]
            exact X14.out.set 0 _
          · rw [List.length_append, List.length_range]
            intro _
            simp; omega
      case done =>
        rintro D xs W hD rfl ⟨h1, h3, h4, h5⟩ hK
        rw [List.length_range] at h1 h4
        have hA2 : ∀ (c : Nat) (t : TypeId) (cs : List Value), c < k4 → BkS t wb c cs → BkS t W c cs := fun c t cs hc hb => (h3.block c hc).trans hb
        have hs := HS.out; have hn9 := Hn2.out
        have c14 : W.cell? ⟨k4, 0, none⟩ = some (.int .i64 (N : Int)) := h1.cell 0
        have c5 : W.cell? ⟨n1, 0, none⟩ = some (.int .i64 many) := (hA2 n1 _ _ (by omega) (X1.out.adds HAb.out)).cell 0
        have c12 : W.cell? ⟨n12, 0, none⟩ = some (.slice ao4 N cp4) := (hA2 n12 _ _ Hn12.out (X12.out.adds Ab5.out)).cell 0
        have hx6 := hA2 n2 _ _ hn9 (X2.out.adds HAb.out)
        have c6 : W.cell? ⟨n2, 0, none⟩ = some (.bool false) := hx6.cell 0
        have f6 := hx6.free 0
        have HX6 := Lib.hid hx6; have HKD := Lib.hid hK; have HD := Lib.hid hD; have H3 := Lib.hid (And.intro h3 (And.intro h4 h5))
        clear hx6 hA2 h1 h3 h4 h5 hK hD hs hn9
        gi_wp2
        all_goals first
          | (exfalso; have := H3.out.2.1; omega)
          | (show LeavesInM _ _ _ _ _ _ _ _ _; have hlt := HX6.out.lt; have hb9 := HX6.out.set 0 (.bool true); have hDW := (Array.getElem?_eq_some_iff.1 HKD.out).1; have hs := HS.out; have hn9 := Hn2.out; have hsb := HSb.out; have hD := HD.out; have hne : D ≠ n2 := (by omega); refine marks_leave (B := wb.heap.size) (C := (W.setCell ⟨n2, 0, none⟩ (.bool true)).heap.size) _ _ ⟨D, rfl, HD.out, by simp [World.setCell]; exact hDW, (Below.heap_setCell W _ _ D hne).trans HKD.out, trivial⟩ fun W' hW' => ⟨.bool true, results_box rfl Try.underlying4 _ _ _ _ rfl ((show BkS 4 W' n2 _ from (hW'.block _ (by omega)).trans hb9).cell 0), rfl, ?_⟩; have hw : Below w.heap.size w W := Below.trans (Adds.trans HA.out HAb.out) (Below.mono H3.out.1 (by omega)); exact Below.trans (Below.setCell hw (p := ⟨n2, 0, none⟩) (by show w.heap.size ≤ n2; omega) _) (Below.mono hW' (by omega)))
          | (show LeavesInM _ _ _ _ _ _ _ _ _; have hlt := HX6.out.lt; have hb9 := HX6.out.set 0 (.bool (((N : Nat) : Int) == many)); have hDW := (Array.getElem?_eq_some_iff.1 HKD.out).1; have hs := HS.out; have hn9 := Hn2.out; have hsb := HSb.out; have hD := HD.out; have hne : D ≠ n2 := (by omega); refine marks_leave (B := wb.heap.size) (C := (W.setCell ⟨n2, 0, none⟩ (.bool (((N : Nat) : Int) == many))).heap.size) _ _ ⟨D, rfl, HD.out, by simp [World.setCell]; exact hDW, (Below.heap_setCell W _ _ D hne).trans HKD.out, trivial⟩ fun W' hW' => ⟨.bool (((N : Nat) : Int) == many), results_box rfl Try.underlying4 _ _ _ _ rfl ((show BkS 4 W' n2 _ from (hW'.block _ (by omega)).trans hb9).cell 0), (by rw [show (((N : Nat) : Int) == many) = true by rw [beq_iff_eq]; have := H3.out.2.1; omega]), ?_⟩; have hw : Below w.heap.size w W := Below.trans (Adds.trans HA.out HAb.out) (Below.mono H3.out.1 (by omega)); exact Below.trans (Below.setCell hw (p := ⟨n2, 0, none⟩) (by show w.heap.size ≤ n2; omega) _) (Below.mono hW' (by omega)))
          | (show LeavesInM _ _ _ _ _ _ _ _ _; have hlt := HX6.out.lt; have hb9 := HX6.out.set 0 (.bool (((N : Nat) : Int) == min (N : Int) (max 1 many))); have hDW := (Array.getElem?_eq_some_iff.1 HKD.out).1; have hs := HS.out; have hn9 := Hn2.out; have hsb := HSb.out; have hD := HD.out; have hne : D ≠ n2 := (by omega); refine marks_leave (B := wb.heap.size) (C := (W.setCell ⟨n2, 0, none⟩ (.bool (((N : Nat) : Int) == min (N : Int) (max 1 many)))).heap.size) _ _ ⟨D, rfl, HD.out, by simp [World.setCell]; exact hDW, (Below.heap_setCell W _ _ D hne).trans HKD.out, trivial⟩ fun W' hW' => ⟨.bool (((N : Nat) : Int) == min (N : Int) (max 1 many)), results_box rfl Try.underlying4 _ _ _ _ rfl ((show BkS 4 W' n2 _ from (hW'.block _ (by omega)).trans hb9).cell 0), (by rw [show (((N : Nat) : Int) == min (N : Int) (max 1 many)) = true by rw [beq_iff_eq]; have := H3.out.2.1; omega]), ?_⟩; have hw : Below w.heap.size w W := Below.trans (Adds.trans HA.out HAb.out) (Below.mono H3.out.1 (by omega)); exact Below.trans (Below.setCell hw (p := ⟨n2, 0, none⟩) (by show w.heap.size ≤ n2; omega) _) (Below.mono hW' (by omega)))
          | (show LeavesInM _ _ _ _ _ _ _ _ _; have hlt := HX6.out.lt; have hb9 := HX6.out.set 0 (.bool (((N : Nat) : Int) == 1)); have hDW := (Array.getElem?_eq_some_iff.1 HKD.out).1; have hs := HS.out; have hn9 := Hn2.out; have hsb := HSb.out; have hD := HD.out; have hne : D ≠ n2 := (by omega); refine marks_leave (B := wb.heap.size) (C := (W.setCell ⟨n2, 0, none⟩ (.bool (((N : Nat) : Int) == 1))).heap.size) _ _ ⟨D, rfl, HD.out, by simp [World.setCell]; exact hDW, (Below.heap_setCell W _ _ D hne).trans HKD.out, trivial⟩ fun W' hW' => ⟨.bool (((N : Nat) : Int) == 1), results_box rfl Try.underlying4 _ _ _ _ rfl ((show BkS 4 W' n2 _ from (hW'.block _ (by omega)).trans hb9).cell 0), (by rw [show (((N : Nat) : Int) == 1) = true by rw [beq_iff_eq]; have := H3.out.2.1; omega]), ?_⟩; have hw : Below w.heap.size w W := Below.trans (Adds.trans HA.out HAb.out) (Below.mono H3.out.1 (by omega)); exact Below.trans (Below.setCell hw (p := ⟨n2, 0, none⟩) (by show w.heap.size ≤ n2; omega) _) (Below.mono hW' (by omega)))
      case stop =>
        rintro D cd pre W hD ⟨j, hj, rfl⟩ ⟨rfl, h1, h3, h4, h5, h6, h7⟩ hK
        rw [List.length_range] at h1 h4 h5 h6
        have hA2 : ∀ (c : Nat) (t : TypeId) (cs : List Value), c < k4 → BkS t wb c cs → BkS t W c cs := fun c t cs hc hb => (h3.block c hc).trans hb
        have hs := HS.out; have hn9 := Hn2.out
        have c14 : W.cell? ⟨k4, 0, none⟩ = some (.int .i64 (j : Int)) := h1.cell 0
        have c5 : W.cell? ⟨n1, 0, none⟩ = some (.int .i64 many) := (hA2 n1 _ _ (by omega) (X1.out.adds HAb.out)).cell 0
        have c12 : W.cell? ⟨n12, 0, none⟩ = some (.slice ao4 N cp4) := (hA2 n12 _ _ Hn12.out (X12.out.adds Ab5.out)).cell 0
        have hx6 := hA2 n2 _ _ hn9 (X2.out.adds HAb.out)
        have c6 : W.cell? ⟨n2, 0, none⟩ = some (.bool false) := hx6.cell 0
        have f6 := hx6.free 0
        have HX6 := Lib.hid hx6; have HKD := Lib.hid hK; have HD := Lib.hid hD; have H3 := Lib.hid (And.intro h3 (And.intro h4 (And.intro h5 (And.intro h6 hj))))
        clear hx6 hA2 h1 h3 h4 h5 h6 h7 hK hD hj hs hn9
        gi_wp2
        all_goals first
          | (exfalso; have := H3.out.2; omega)
          | (show LeavesInM _ _ _ _ _ _ _ _ _; have hlt := HX6.out.lt; have hb9 := HX6.out.set 0 (.bool true); have hDW := (Array.getElem?_eq_some_iff.1 HKD.out).1; have hs := HS.out; have hn9 := Hn2.out; have hsb := HSb.out; have hD := HD.out; have hne : D ≠ n2 := (by omega); refine marks_leave (B := wb.heap.size) (C := (W.setCell ⟨n2, 0, none⟩ (.bool true)).heap.size) _ _ ⟨D, rfl, HD.out, by simp [World.setCell]; exact hDW, (Below.heap_setCell W _ _ D hne).trans HKD.out, trivial⟩ fun W' hW' => ⟨.bool true, results_box rfl Try.underlying4 _ _ _ _ rfl ((show BkS 4 W' n2 _ from (hW'.block _ (by omega)).trans hb9).cell 0), rfl, ?_⟩; have hw : Below w.heap.size w W := Below.trans (Adds.trans HA.out HAb.out) (Below.mono H3.out.1 (by omega)); exact Below.trans (Below.setCell hw (p := ⟨n2, 0, none⟩) (by show w.heap.size ≤ n2; omega) _) (Below.mono hW' (by omega)))
          | (show LeavesInM _ _ _ _ _ _ _ _ _; have hlt := HX6.out.lt; have hb9 := HX6.out.set 0 (.bool (((j : Nat) : Int) == many)); have hDW := (Array.getElem?_eq_some_iff.1 HKD.out).1; have hs := HS.out; have hn9 := Hn2.out; have hsb := HSb.out; have hD := HD.out; have hne : D ≠ n2 := (by omega); refine marks_leave (B := wb.heap.size) (C := (W.setCell ⟨n2, 0, none⟩ (.bool (((j : Nat) : Int) == many))).heap.size) _ _ ⟨D, rfl, HD.out, by simp [World.setCell]; exact hDW, (Below.heap_setCell W _ _ D hne).trans HKD.out, trivial⟩ fun W' hW' => ⟨.bool (((j : Nat) : Int) == many), results_box rfl Try.underlying4 _ _ _ _ rfl ((show BkS 4 W' n2 _ from (hW'.block _ (by omega)).trans hb9).cell 0), (by rw [show (((j : Nat) : Int) == many) = true by rw [beq_iff_eq]; have := H3.out.2; omega]), ?_⟩; have hw : Below w.heap.size w W := Below.trans (Adds.trans HA.out HAb.out) (Below.mono H3.out.1 (by omega)); exact Below.trans (Below.setCell hw (p := ⟨n2, 0, none⟩) (by show w.heap.size ≤ n2; omega) _) (Below.mono hW' (by omega)))
          | (show LeavesInM _ _ _ _ _ _ _ _ _; have hlt := HX6.out.lt; have hb9 := HX6.out.set 0 (.bool (((j : Nat) : Int) == min (N : Int) (max 1 many))); have hDW := (Array.getElem?_eq_some_iff.1 HKD.out).1; have hs := HS.out; have hn9 := Hn2.out; have hsb := HSb.out; have hD := HD.out; have hne : D ≠ n2 := (by omega); refine marks_leave (B := wb.heap.size) (C := (W.setCell ⟨n2, 0, none⟩ (.bool (((j : Nat) : Int) == min (N : Int) (max 1 many)))).heap.size) _ _ ⟨D, rfl, HD.out, by simp [World.setCell]; exact hDW, (Below.heap_setCell W _ _ D hne).trans HKD.out, trivial⟩ fun W' hW' => ⟨.bool (((j : Nat) : Int) == min (N : Int) (max 1 many)), results_box rfl Try.underlying4 _ _ _ _ rfl ((show BkS 4 W' n2 _ from (hW'.block _ (by omega)).trans hb9).cell 0), (by rw [show (((j : Nat) : Int) == min (N : Int) (max 1 many)) = true by rw [beq_iff_eq]; have := H3.out.2; omega]), ?_⟩; have hw : Below w.heap.size w W := Below.trans (Adds.trans HA.out HAb.out) (Below.mono H3.out.1 (by omega)); exact Below.trans (Below.setCell hw (p := ⟨n2, 0, none⟩) (by show w.heap.size ≤ n2; omega) _) (Below.mono hW' (by omega)))
          | (show LeavesInM _ _ _ _ _ _ _ _ _; have hlt := HX6.out.lt; have hb9 := HX6.out.set 0 (.bool (((j : Nat) : Int) == (N : Int))); have hDW := (Array.getElem?_eq_some_iff.1 HKD.out).1; have hs := HS.out; have hn9 := Hn2.out; have hsb := HSb.out; have hD := HD.out; have hne : D ≠ n2 := (by omega); refine marks_leave (B := wb.heap.size) (C := (W.setCell ⟨n2, 0, none⟩ (.bool (((j : Nat) : Int) == (N : Int)))).heap.size) _ _ ⟨D, rfl, HD.out, by simp [World.setCell]; exact hDW, (Below.heap_setCell W _ _ D hne).trans HKD.out, trivial⟩ fun W' hW' => ⟨.bool (((j : Nat) : Int) == (N : Int)), results_box rfl Try.underlying4 _ _ _ _ rfl ((show BkS 4 W' n2 _ from (hW'.block _ (by omega)).trans hb9).cell 0), (by rw [show (((j : Nat) : Int) == (N : Int)) = true by rw [beq_iff_eq]; have := H3.out.2; omega]), ?_⟩; have hw : Below w.heap.size w W := Below.trans (Adds.trans HA.out HAb.out) (Below.mono H3.out.1 (by omega)); exact Below.trans (Below.setCell hw (p := ⟨n2, 0, none⟩) (by show w.heap.size ≤ n2; omega) _) (Below.mono hW' (by omega)))
          | (show LeavesInM _ _ _ _ _ _ _ _ _; have hlt := HX6.out.lt; have hb9 := HX6.out.set 0 (.bool (((j : Nat) : Int) == 1)); have hDW := (Array.getElem?_eq_some_iff.1 HKD.out).1; have hs := HS.out; have hn9 := Hn2.out; have hsb := HSb.out; have hD := HD.out; have hne : D ≠ n2 := (by omega); refine marks_leave (B := wb.heap.size) (C := (W.setCell ⟨n2, 0, none⟩ (.bool (((j : Nat) : Int) == 1))).heap.size) _ _ ⟨D, rfl, HD.out, by simp [World.setCell]; exact hDW, (Below.heap_setCell W _ _ D hne).trans HKD.out, trivial⟩ fun W' hW' => ⟨.bool (((j : Nat) : Int) == 1), results_box rfl Try.underlying4 _ _ _ _ rfl ((show BkS 4 W' n2 _ from (hW'.block _ (by omega)).trans hb9).cell 0), (by rw [show (((j : Nat) : Int) == 1) = true by rw [beq_iff_eq]; have := H3.out.2; omega]), ?_⟩; have hw : Below w.heap.size w W := Below.trans (Adds.trans HA.out HAb.out) (Below.mono H3.out.1 (by omega)); exact Below.trans (Below.setCell hw (p := ⟨n2, 0, none⟩) (by show w.heap.size ≤ n2; omega) _) (Below.mono hW' (by omega)))
end Go.Proofs.Ytedllkahalfjgaa
