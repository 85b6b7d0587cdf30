/- The law GroupPlays, walked. -/
import Derived.Test.YtedllkahalfjgaaYA
import Derived.Test.YtedllkahalfjgaaYS1
import Derived.Test.YtedllkahalfjgaaYRow
namespace Go.Proofs.Ytedllkahalfjgaa
open Go Go.RowKit

theorem tmod_in (k : Nat) : In64 (Int.tmod (k : Int) 4) := by
  rw [Int.tmod_eq_emod_of_nonneg (by omega)]
  exact ⟨by omega, by omega⟩
theorem refNew_yes (n : Nat) (h : n ≤ 64) (w : World) : Calls Try.prog 21 #[.int .i64 ((n : Nat) : Int)] w fun e w' => ∃ u, e = .returned (.tuple #[u, .int .i64 0]) ∧ RefG w' u (List.replicate n 0) ∧ Adds w w' :=
  (refNew_any (n : Int) w).mono fun e w' ⟨h1, h2⟩ => by
    unfold NewR at h1
    rw [if_pos (by omega), Int.toNat_natCast] at h1
    obtain ⟨u, e, hr⟩ := h1
    exact ⟨u, e, hr, h2⟩
theorem refNew_no (many : Int) (h : ¬ (0 ≤ many ∧ many ≤ 64)) (w : World) : Calls Try.prog 21 #[.int .i64 many] w fun e w' => e = .returned (.tuple #[.agg #[.slice none 0 0], .int .i64 2]) ∧ Adds w w' :=
  (refNew_any many w).mono fun e w' ⟨h1, h2⟩ => by
    unfold NewR at h1
    rw [if_neg h] at h1
    exact ⟨h1, h2⟩
theorem ActsW.at3 {N : Nat} {w w' : World} {v : Value} {l : List A3} (h : ActsW N w v l) (_hN : N ≤ w.heap.size) (ha : Adds w w') {k : Nat} (hk : k < l.length) : ∃ g off cap, v = .slice (some ⟨g, off, none⟩) l.length cap ∧ At3 w' g (off + k * 3) (l.getD k zA) := by
  obtain ⟨ao, cap, rfl, _, hc⟩ := h
  obtain ⟨g, off, rfl, hg, hc⟩ := hc (by rintro rfl; simp at hk)
  obtain ⟨h0, h1, h2⟩ := hc k hk
  exact ⟨g, off, cap, rfl, Adds.cellAt ha h0, Adds.cellAt ha h1, Adds.cellAt ha h2⟩
theorem okA_at {l : List A3} (h : ∀ y ∈ l, okA y) {k : Nat} (hk : k < l.length) : okA (l.getD k zA) := by
  rw [List.getD_eq_getElem?_getD, List.getElem?_eq_getElem hk]
  exact h _ (List.getElem_mem hk)
/-- A law under way: the groups, the document's in a box. -/
structure PlayG (w0 w : World) (v : Value) (B : Nat) (l : List Int) : Prop where
  ref : ∃ bc g cap, HolG w v bc l ∧ w0.heap.size ≤ bc ∧ RefG w (.agg #[.slice (some ⟨g, 0, none⟩) l.length cap]) l ∧ BkS 53 w B [.slice (some ⟨g, 0, none⟩) l.length cap]
  adds : Adds w0 w
theorem PlayG.more {w0 w w' : World} {v : Value} {B : Nat} {l : List Int} (h : PlayG w0 w v B l) (ha : Adds w w') : PlayG w0 w' v B l :=
  let ⟨⟨bc, g, cap, h1, h2, h3, h4⟩, h5⟩ := h; ⟨⟨bc, g, cap, h1.adds ha, h2, h3.adds ha, h4.adds ha⟩, Adds.trans h5 ha⟩
theorem HolG.ptrs {w : World} {v : Value} {bc : Nat} {l : List Int} (h : HolG w v bc l) : ∃ bp, v = .pointer (some ⟨bp, 0, none⟩) := let ⟨bp, e, _⟩ := h.blk; ⟨bp, e⟩
/-- A box of the document's is written to. -/
theorem play_set {W : World} {v s : Value} {bc : Nat} {l : List Int} {b : Nat} {cs : List Value} (hM : HolG W v bc l) (hR : RefG W s l) (hb : BkS 53 W b cs) (i : Nat) (u : Value) :
    HolG (W.setCell ⟨b, i, none⟩ u) v bc l ∧ RefG (W.setCell ⟨b, i, none⟩ u) s l := ⟨hM.far hb (by decide) (by decide) i u, hR.far hb i u⟩
/-- Behind a call of both: its results, one of them in a box of its own. -/
structure Play15 (w0 W : World) (v : Value) (bc : Nat) (B b : Nat) (s5 old : Value) (l : List Int) : Prop where
  bm : BkS 53 W b [s5]
  bB : BkS 53 W B [old]
  mx : HolG W v bc l
  own : w0.heap.size ≤ bc
  ref : RefG W (.agg #[s5]) l
  adds : Adds w0 W
  ne : ¬ b = B
set_option maxRecDepth 100000 in
set_option maxHeartbeats 16000000 in
theorem law_plays15 (many : Int) (va : Value) (acts : List A3) (w : World) (ha : ActsW w.heap.size w va acts) (hk : ∀ y ∈ acts, okA y) :
    Calls Try.prog 5 #[.int .i64 many, va] w fun e W' => e = .returned (.bool true) ∧ Adds w W' := by
  have HW := Lib.hid works_any
  have HNum := Lib.hid num_any
  have ha0 := ha
  obtain ⟨ao, cap, rfl, hmx, _⟩ := ha
  by_cases h60 : acts.length ≤ 60
  · have h60I : ¬ 60 < (acts.length : Int) := by omega
    by_cases hg : 0 ≤ many ∧ many ≤ 64
    · obtain ⟨n, rfl⟩ : ∃ n : Nat, many = n := ⟨many.toNat, by omega⟩
      have HNew := Lib.hid (newQ_yes n (by omega) w)
      have HRef := Lib.hid (fun W => refNew_yes n (by omega) W)
      have HV := Lib.hid ha0; have HKo := Lib.hid hk
      have h5 : (acts.length : Int) ≤ 60 := by omega
      clear ha0 hg hmx h60
      go_enter Try.func5, Try.ntmps5
      go_wp2_with (first
        | (go_at_call 20; refine HNew.out.mono ?_; rintro e w1 ⟨v, O, rfl, h1, h2, h3⟩; obtain ⟨bp, rfl⟩ := h1.ptrs; have M1 := Lib.hid h1; have A1 := Lib.hid h3; have B1 := Lib.hid h2; clear h1 h2 h3 HNew)
        | (go_at_call 21; refine (HRef.out w1).mono ?_; rintro e w2 ⟨u, rfl, h1, h2⟩; obtain ⟨g, cp, rfl⟩ := h1.val; have R2 := Lib.hid h1; have A2 := Lib.hid h2; clear h1 h2 HRef)
        | (go_at_call 22; refine (HNum.out _ _).mono ?_; rintro e w' ⟨rfl, rfl⟩))
      obtain ⟨wb, hwb⟩ : ∃ wb, w2.alloc (.cells #[.slice (some ⟨g, 0, none⟩) (List.replicate n (0 : Int)).length cp] 53) = wb := ⟨_, rfl⟩
      have hab : Adds w2 wb := by rw [← hwb]; exact (Gr.new _ _).adds
      have HP0 := Lib.hid (show PlayG w wb (.pointer (some ⟨bp, 0, none⟩)) w2.heap.size (List.replicate n (0 : Int)) from
        ⟨⟨O, g, cp, (M1.out.adds A2.out).adds hab, B1.out, R2.out.adds hab, by rw [← hwb]; exact BkS.new _ _ _⟩, Adds.trans A1.out (Adds.trans A2.out hab)⟩)
      obtain ⟨B, hB⟩ : ∃ B, w2.heap.size = B := ⟨_, rfl⟩
      have HBn := Lib.hid (show w.heap.size ≤ B by rw [← hB]; exact Nat.le_trans A1.out.size A2.out.size)
      try simp only [List.length_replicate] at hwb
      try rw [hwb]
      rw [hB] at HP0 ⊢
      clear hwb hab hB
      go_loopw [5, 9] (fun mv iv wr => ∃ (k : Nat) (l' : List Int), iv = .int .i64 k ∧ k ≤ acts.length ∧ PlayG w wr mv B l') (fun _ iv _ => acts.length + 1 - (intOf iv).toNat)
      case atStart => exact ⟨0, _, rfl, Nat.zero_le _, HP0.out⟩
      case round =>
        obtain ⟨k, l', rfl, hk, hP⟩ := hrel
        obtain ⟨⟨O', g', cp', hM, hO, hR, hBk⟩, hA⟩ := hP
        by_cases hlt : k < acts.length
        · obtain ⟨ga, off, cap', e, c0, c1, c2⟩ := HV.out.at3 (Nat.le_refl _) hA hlt
          simp only [Value.slice.injEq] at e
          obtain ⟨rfl, e0, rfl⟩ := e
          clear e0
          obtain ⟨⟨a, i, cc⟩, hx⟩ : ∃ x, acts.getD k zA = x := ⟨_, rfl⟩
          have hok := okA_at HKo.out hlt
          rw [hx] at c0 c1 c2 hok
          simp only at c0 c1 c2
          have hcc : In64 cc := hok.2.2
          have hltI : (k : Int) < (acts.length : Int) := by omega
          have HK := Lib.hid (show k + 1 ≤ acts.length from hlt)
          have HM := Lib.hid hM; have HR := Lib.hid hR; have HBk := Lib.hid hBk; have HAr := Lib.hid hA; have HO' := Lib.hid hO
          have HAct := Lib.hid (fun (W : World) (hW : Adds wr W) => act_any a i cc hcc (hM.adds hW) (hR.adds hW))
          have cB : wr.cell? ⟨B, 0, none⟩ = some (.slice (some ⟨g', 0, none⟩) l'.length cp') := hBk.cell 0
          have HBlt := Lib.hid hBk.lt
          have hBne : ¬ wr.heap.size = B := by have := hBk.lt; omega
          have hBne' : ¬ B = wr.heap.size := by have := hBk.lt; omega
          obtain ⟨L', hL'⟩ : ∃ L', stepQ l' a i cc = L' := ⟨_, rfl⟩
          rw [hL'] at HAct
          clear hk hM hR hBk hA hlt hx hL' hO hok hcc
          go_wp2
          have s0 : wr.drew.cell? ⟨ga, off + k * 3, none⟩ = some (.int .i64 a) := c0
          have s1 : wr.drew.cell? ⟨ga, off + k * 3 + 1, none⟩ = some (.int .i64 i) := c1
          have s2 : wr.drew.cell? ⟨ga, off + k * 3 + 2, none⟩ = some (.int .i64 cc) := c2
          have s3 : wr.drew.cell? ⟨B, 0, none⟩ = some (.slice (some ⟨g', 0, none⟩) l'.length cp') := cB
          have q0 : (wr.alloc (.cells #[.slice none 0 0] 53)).drew.cell? ⟨ga, off + k * 3, none⟩ = some (.int .i64 a) := Adds.cellAt (Adds.trans (Gr.new _ _).adds (Adds.drew _)) c0
          have q1 : (wr.alloc (.cells #[.slice none 0 0] 53)).drew.cell? ⟨ga, off + k * 3 + 1, none⟩ = some (.int .i64 i) := Adds.cellAt (Adds.trans (Gr.new _ _).adds (Adds.drew _)) c1
          have q2 : (wr.alloc (.cells #[.slice none 0 0] 53)).drew.cell? ⟨ga, off + k * 3 + 2, none⟩ = some (.int .i64 cc) := Adds.cellAt (Adds.trans (Gr.new _ _).adds (Adds.drew _)) c2
          have q3 : (wr.alloc (.cells #[.slice none 0 0] 53)).drew.cell? ⟨B, 0, none⟩ = some (.slice (some ⟨g', 0, none⟩) l'.length cp') := Adds.cellAt (Adds.trans (Gr.new _ _).adds (Adds.drew _)) cB
          go_region_with (go_at_call 23; refine (HAct.out _ (by first | exact Adds.drew _ | exact Adds.trans (Gr.new _ _).adds (Adds.drew _))).mono ?_; rintro e w5 ⟨v5, s5, O5, rfl, h1, h2, h3, h4⟩; obtain ⟨g5, cp5, rfl⟩ := h2.val; have M5 := Lib.hid h1; have R5 := Lib.hid h2; have B5 := Lib.hid (show w.heap.size ≤ O5 from h4.elim (fun e => by rw [e]; exact HO'.out) (fun h => Nat.le_trans (Nat.le_trans HAr.out.size (Below.size (show Adds wr _ by first | exact Adds.drew wr | exact Adds.trans (Gr.new wr _).adds (Adds.drew _)))) h)); have T5 := Lib.hid (show TnS O' wr w5 from (TnS.of_adds O' (by first | exact Adds.drew _ | exact Adds.trans (Gr.new _ _).adds (Adds.drew _))).trans h3); have hbk5 := HBk.out.turnG HM.out.cnt (by decide) T5.out; have d3 : w5.cell? ⟨B, 0, none⟩ = some (.slice (some ⟨g', 0, none⟩) l'.length cp') := hbk5.cell 0; have f3 := hbk5.free 0; have HBk5 := Lib.hid hbk5; (try (have hz5 := ((BkS.new 53 wr [.slice none 0 0]).adds (Adds.drew _)).turnG (HM.out.cnt.adds (Adds.trans (Gr.new _ _).adds (Adds.drew _))) (by decide) h3; have y5 : w5.cell? ⟨wr.heap.size, 0, none⟩ = some (.slice none 0 0) := hz5.cell 0; have z5 : w5.frozen? ⟨wr.heap.size, 0, none⟩ = false := hz5.free 0; have HZ5 := Lib.hid hz5; clear hz5)); clear h1 h2 h3 h4 hbk5)
          all_goals
            simp only [Exit.then]
            go_simp
            go_wp2_with fail
            first
              | (obtain ⟨W, hW⟩ : ∃ W, w5.alloc (.cells #[(.slice (some ⟨g5, 0, none⟩) L'.length cp5)] 53) = W := ⟨_, rfl⟩; rw [hW]; have hF : Play15 w W v5 O5 B w5.heap.size (.slice (some ⟨g5, 0, none⟩) L'.length cp5) (.slice (some ⟨g', 0, none⟩) l'.length cp') L' := (by rw [← hW]; exact ⟨BkS.new _ _ _, HBk5.out.adds (Gr.new _ _).adds, M5.out.adds (Gr.new _ _).adds, B5.out, R5.out.adds (Gr.new _ _).adds, Adds.trans (TnS.own HAr.out HO'.out T5.out) (Gr.new _ _).adds, (by have := HBlt.out; have := T5.out.size; omega)⟩); clear hW; obtain ⟨m, hm⟩ : ∃ m, w5.heap.size = m := ⟨_, rfl⟩; rw [hm] at hF ⊢; clear hm)
              | (obtain ⟨W, hW⟩ : ∃ W, w5.setCell ⟨wr.heap.size, 0, none⟩ (.slice (some ⟨g5, 0, none⟩) L'.length cp5) = W := ⟨_, rfl⟩; rw [hW]; have hF : Play15 w W v5 O5 B wr.heap.size (.slice (some ⟨g5, 0, none⟩) L'.length cp5) (.slice (some ⟨g', 0, none⟩) l'.length cp') L' := (by rw [← hW]; obtain ⟨p1, p2⟩ := play_set M5.out R5.out HZ5.out 0 (.slice (some ⟨g5, 0, none⟩) L'.length cp5); exact ⟨HZ5.out.set 0 _, HBk5.out.other (by have := HBlt.out; omega) _, p1, B5.out, p2, Adds.set (TnS.own HAr.out HO'.out T5.out) HAr.out.size 0 _, (by have := HBlt.out; omega)⟩); clear hW; obtain ⟨m, hm⟩ : ∃ m, wr.heap.size = m := ⟨_, rfl⟩; rw [hm] at hF ⊢; clear hm)
            obtain ⟨f1, f2, f3, f4, f5, f6, f7⟩ := hF
            have hm0 : W.cell? ⟨m, 0, none⟩ = some (.slice (some ⟨g5, 0, none⟩) L'.length cp5) := f1.cell 0
            have hm1 : W.drew.cell? ⟨m, 0, none⟩ = some (.slice (some ⟨g5, 0, none⟩) L'.length cp5) := f1.cell 0
            have hB0 : W.drew.cell? ⟨B, 0, none⟩ = some (.slice (some ⟨g', 0, none⟩) l'.length cp') := f2.cell 0
            have hB1 : W.drew.frozen? ⟨B, 0, none⟩ = false := f2.free 0
            have HPl := Lib.hid (show PlayG w (W.setCell ⟨B, 0, none⟩ (.slice (some ⟨g5, 0, none⟩) L'.length cp5)).drew v5 B L' from by
              obtain ⟨p1, p2⟩ := play_set f3 f5 f2 0 (.slice (some ⟨g5, 0, none⟩) L'.length cp5)
              exact ⟨⟨O5, g5, cp5, p1.adds (Adds.drew _), f4, p2.adds (Adds.drew _), (f2.set 0 _).adds (Adds.drew _)⟩, Adds.trans (Adds.set f6 HBn.out 0 _) (Adds.drew _)⟩)
            have f7' : ¬ B = m := fun e => f7 e.symm
            clear f1 f2 f3 f4 f5 f6
            go_region
            all_goals
              simp only [Exit.then]
              go_simp
              obtain ⟨V, hV⟩ : ∃ V, (W.setCell ⟨B, 0, none⟩ (.slice (some ⟨g5, 0, none⟩) L'.length cp5)).drew = V := ⟨_, rfl⟩
              rw [hV] at HPl ⊢
              clear hV
              obtain ⟨⟨O9, g9, c9, p1, p2, p3, p4⟩, p5⟩ := HPl.out
              have cV : V.cell? ⟨B, 0, none⟩ = some (.slice (some ⟨g9, 0, none⟩) L'.length c9) := p4.cell 0
              have HIs := Lib.hid (is_any (Int.tmod (k : Int) 4) (tmod_in k) p1 p3)
              have HQ := Lib.hid (show PlayG w V v5 B L' from ⟨⟨O9, g9, c9, p1, p2, p3, p4⟩, p5⟩)
              clear p1 p2 p3 p4 p5 HPl
              go_wp2_with (go_at_call 24; refine HIs.out.mono ?_; rintro e w8 ⟨rfl, h8⟩; have H8 := Lib.hid h8; clear h8 HIs)
              go_roundw
              case rel => exact ⟨k + 1, L', by go_num, HK.out, HQ.out.more H8.out⟩
              case measure => simp [intOf]; have := HK.out; omega
        · have hltI : ¬ (k : Int) < (acts.length : Int) := by omega
          have cB : wr.cell? ⟨B, 0, none⟩ = some (.slice (some ⟨g', 0, none⟩) l'.length cp') := hBk.cell 0
          have HIs := Lib.hid (is_any 99 ⟨by decide, by decide⟩ hM hR)
          have HAr := Lib.hid hA
          clear hk hM hR hBk hA hlt hO
          go_wp2_with (first
            | (go_at_call 24; refine HIs.out.mono ?_; rintro e w7 ⟨rfl, h8⟩; have H7 := Lib.hid h8; clear h8 HIs)
            | (go_at_call 19; refine (HW.out _).mono ?_; rintro e w8 ⟨rfl, q8⟩; have H8 := Lib.hid q8; clear q8))
          go_ret
          exact ⟨rfl, Adds.trans HAr.out (Adds.trans H7.out H8.out)⟩
    · have HNew := Lib.hid (newQ_no many hg w)
      have HRef := Lib.hid (fun W => refNew_no many hg W)
      clear ha0 hg hmx h60
      go_enter Try.func5, Try.ntmps5
      go_wp2_with (first
        | (go_at_call 20; refine HNew.out.mono ?_; rintro e w1 ⟨rfl, h4⟩; have A1 := Lib.hid (show Adds w w1 by rw [← h4]; exact Adds.refl _); clear h4 HNew)
        | (go_at_call 21; refine (HRef.out w1).mono ?_; rintro e w2 ⟨rfl, h2⟩; have A2 := Lib.hid h2; clear h2 HRef)
        | (go_at_call 22; refine (HNum.out _ _).mono ?_; rintro e w' ⟨rfl, rfl⟩)
        | (go_at_call 19; refine (HW.out _).mono ?_; rintro e w8 ⟨rfl, q8⟩; have H8 := Lib.hid q8; clear q8))
      go_ret
      exact ⟨rfl, Adds.trans A1.out (Adds.trans A2.out (Adds.trans (Gr.new _ _).adds H8.out))⟩
  · have h60I : 60 < (acts.length : Int) := by omega
    go_enter Try.func5, Try.ntmps5
    go_wp2_with (go_at_call 19; refine (HW.out _).mono ?_; rintro e w8 ⟨rfl, q8⟩; have H8 := Lib.hid q8; clear q8)
    go_ret
    exact ⟨rfl, H8.out⟩
end Go.Proofs.Ytedllkahalfjgaa
