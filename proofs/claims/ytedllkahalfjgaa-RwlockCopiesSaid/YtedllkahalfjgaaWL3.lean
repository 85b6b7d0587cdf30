/- The law RwlockPlays, walked. -/
import Derived.Test.YtedllkahalfjgaaWAA
import Derived.Test.YtedllkahalfjgaaWS1
import Derived.Test.YtedllkahalfjgaaWR9
import Derived.Test.YtedllkahalfjgaaWRow
namespace Go.Proofs.Ytedllkahalfjgaa
open Go Go.RowKit

theorem tmod_in (k : Nat) : In64 (Int.tmod (k : Int) 4) := by
  rw [Int.tmod_eq_emod_of_nonneg (by omega)]
  exact ⟨by omega, by omega⟩
/-- A law under way: the locks, the document's in a box. -/
structure PlayW (m : Nat) (w0 w : World) (v : Value) (B : Nat) (ls : List Lk) : Prop where
  ref : ∃ O g cap, HasL m w v O ls ∧ (∀ k, O k → w0.heap.size ≤ k) ∧ RefW (fun k => ¬ O k) w (.slice (some ⟨g, 0, none⟩) ls.length cap) ls ∧ BkS 30 w B [.slice (some ⟨g, 0, none⟩) ls.length cap]
  adds : Adds w0 w
theorem PlayW.more {m : Nat} {w0 w w' : World} {v : Value} {B : Nat} {ls : List Lk} (h : PlayW m w0 w v B ls) (ha : Adds w w') : PlayW m w0 w' v B ls :=
  let ⟨⟨O, g, cap, h1, h2, h3, h4⟩, h5⟩ := h; ⟨⟨O, g, cap, h1.adds ha, h2, h3.adds ha, h4.adds ha⟩, Adds.trans h5 ha⟩
theorem HasL.ptrs {m : Nat} {w : World} {v : Value} {O : Nat → Prop} {ls : List Lk} (h : HasL m w v O ls) : ∃ bp, v = .pointer (some ⟨bp, 0, none⟩) := let ⟨bp, _, _, hp, _, _⟩ := h; ⟨bp, hp.ptr⟩
/-- A box of the document's is written to. -/
theorem play_set {m : Nat} {W : World} {v s : Value} {O R : Nat → Prop} {ls : List Lk} {b : Nat} {cs : List Value} (hM : HasL m W v O ls) (hR : RefW R W s ls) (hb : BkS 30 W b cs) (i : Nat) (u : Value) :
    HasL m (W.setCell ⟨b, i, none⟩ u) v O ls ∧ RefW R (W.setCell ⟨b, i, none⟩ u) s ls :=
  ⟨hM.kept (fun k hk => Below.heap_setCell _ _ _ _ (fun e => hM.notO hb (by decide) (by decide) (by decide) (by have e' : k = b := e; rw [← e']; exact hk))), hR.far hb (by decide) (by decide) i u⟩
/-- Behind a call of both: its results, one of them in a box of its own. -/
structure Play14 (m : Nat) (w0 W : World) (v : Value) (O : Nat → Prop) (B b : Nat) (s5 old : Value) (ls : List Lk) : Prop where
  bm : BkS 30 W b [s5]
  bB : BkS 30 W B [old]
  mx : HasL m W v O ls
  own : ∀ k, O k → w0.heap.size ≤ k
  ref : RefW (fun k => ¬ O k) W s5 ls
  adds : Adds w0 W
  ne : ¬ b = B
set_option maxRecDepth 100000 in
set_option maxHeartbeats 16000000 in
theorem law_plays14 (many : Int) (va : Value) (acts : List A3) (w : World) (ha : ActsW w.heap.size w va acts) (_hk : ∀ y ∈ acts, okA y) :
    Calls Try.prog 3 #[.int .i64 many, va] w fun e W' => e = .returned (.bool true) ∧ Adds w W' := by
  have HW := Lib.hid works_any
  have HNum := Lib.hid num_any
  have ha0 := ha
  obtain ⟨ao, cap, rfl, hmx, _⟩ := ha
  by_cases h60 : acts.length ≤ 60
  · have h60I : ¬ 60 < (acts.length : Int) := by omega
    by_cases hg : 0 ≤ many ∧ many ≤ 64
    · obtain ⟨n, rfl⟩ : ∃ n : Nat, many = n := ⟨many.toNat, by omega⟩
      have HNew := Lib.hid (new_live n (by omega) w)
      have HRef := Lib.hid (fun W => refNew_yes n (by omega) W)
      have HV := Lib.hid ha0
      have h5 : (acts.length : Int) ≤ 60 := by omega
      have H60 := Lib.hid h60
      clear ha0 hg hmx h60
      go_enter Try.func3, Try.ntmps3
      go_wp2_with (first
        | (go_at_call 10; refine HNew.out.mono ?_; rintro e w1 ⟨v, rfl, O, h1, h2, h3⟩; obtain ⟨bp, rfl⟩ := h1.ptrs; have M1 := Lib.hid h1; have A1 := Lib.hid h3; have B1 := Lib.hid h2; clear h1 h2 h3 HNew)
        | (go_at_call 11; refine (HRef.out w1).mono ?_; rintro e w2 ⟨u, rfl, h1, h2⟩; obtain ⟨g, cp, rfl, _, _⟩ := h1.form; have R2 := Lib.hid h1; have A2 := Lib.hid h2; clear h1 h2 HRef)
        | (go_at_call 12; refine (HNum.out _ _).mono ?_; rintro e w' ⟨rfl, rfl⟩))
      obtain ⟨wb, hwb⟩ : ∃ wb, w2.alloc (.cells #[.slice (some ⟨g, 0, none⟩) (List.replicate n lk0).length cp] 30) = wb := ⟨_, rfl⟩
      have hab : Adds w2 wb := by rw [← hwb]; exact (Gr.new _ _).adds
      have HP0 := Lib.hid (show PlayW 0 w wb (.pointer (some ⟨bp, 0, none⟩)) w2.heap.size (List.replicate n lk0) from
        ⟨⟨O, g, cp, (M1.out.adds A2.out).adds hab, B1.out, (R2.out.adds hab).wide (fun k hk ho => by have := M1.out.lt k ho; omega), by rw [← hwb]; exact BkS.new _ _ _⟩, Adds.trans A1.out (Adds.trans A2.out hab)⟩)
      obtain ⟨B, hB⟩ : ∃ B, w2.heap.size = B := ⟨_, rfl⟩
      have HBn := Lib.hid (show w.heap.size ≤ B by rw [← hB]; exact Nat.le_trans A1.out.size A2.out.size)
      try simp only [List.length_replicate] at hwb
      try rw [hwb]
      rw [hB] at HP0 ⊢
      clear hwb hab hB
      go_loopw [5, 9] (fun mv iv wr => ∃ (k : Nat) (l' : List Lk), iv = .int .i64 k ∧ k ≤ acts.length ∧ PlayW k w wr mv B l') (fun _ iv _ => acts.length + 1 - (intOf iv).toNat)
      case atStart => exact ⟨0, _, rfl, Nat.zero_le _, HP0.out⟩
      case round =>
        obtain ⟨k, l', rfl, hk, hP⟩ := hrel
        obtain ⟨⟨O', g', cp', hM, hO, hR, hBk⟩, hA⟩ := hP
        have hk6 : k + 1 ≤ 1000000 := by have := H60.out; omega
        by_cases hlt : k < acts.length
        · obtain ⟨ga, off, cap', e, c0, c1, c2⟩ := HV.out.at3 (Nat.le_refl _) hA hlt
          simp only [Value.slice.injEq] at e
          obtain ⟨rfl, e0, rfl⟩ := e
          clear e0
          obtain ⟨⟨a, i, cc⟩, hx⟩ : ∃ x, acts.getD k zA = x := ⟨_, rfl⟩
          rw [hx] at c0 c1 c2
          simp only at c0 c1 c2
          have hltI : (k : Int) < (acts.length : Int) := by omega
          have HK := Lib.hid (show k + 1 ≤ acts.length from hlt)
          have HK6 := Lib.hid hk6
          have HM := Lib.hid hM; have HR := Lib.hid hR; have HBk := Lib.hid hBk; have HAr := Lib.hid hA; have HO' := Lib.hid hO
          have HAct := Lib.hid (fun (W : World) (hW : Adds wr W) => act_any a i cc (by omega) (hM.adds hW) (fun _ h => h) (hR.adds hW))
          have HNB := Lib.hid (hM.notO hBk (by decide) (by decide) (by decide))
          have cB : wr.cell? ⟨B, 0, none⟩ = some (.slice (some ⟨g', 0, none⟩) l'.length cp') := hBk.cell 0
          have HBlt := Lib.hid hBk.lt
          have hBne : ¬ wr.heap.size = B := by have := hBk.lt; omega
          have hBne' : ¬ B = wr.heap.size := by have := hBk.lt; omega
          obtain ⟨L', hL'⟩ : ∃ L', stepW l' a i cc = L' := ⟨_, rfl⟩
          rw [hL'] at HAct
          clear hk hM hR hBk hA hlt hx hL' hO hk6
          go_wp2
          have s0 : wr.drew.cell? ⟨ga, off + k * 3, none⟩ = some (.int .i64 a) := c0
          have s1 : wr.drew.cell? ⟨ga, off + k * 3 + 1, none⟩ = some (.int .i64 i) := c1
          have s2 : wr.drew.cell? ⟨ga, off + k * 3 + 2, none⟩ = some (.int .i64 cc) := c2
          have s3 : wr.drew.cell? ⟨B, 0, none⟩ = some (.slice (some ⟨g', 0, none⟩) l'.length cp') := cB
          have q0 : (wr.alloc (.cells #[.slice none 0 0] 30)).drew.cell? ⟨ga, off + k * 3, none⟩ = some (.int .i64 a) := Adds.cellAt (Adds.trans (Gr.new _ _).adds (Adds.drew _)) c0
          have q1 : (wr.alloc (.cells #[.slice none 0 0] 30)).drew.cell? ⟨ga, off + k * 3 + 1, none⟩ = some (.int .i64 i) := Adds.cellAt (Adds.trans (Gr.new _ _).adds (Adds.drew _)) c1
          have q2 : (wr.alloc (.cells #[.slice none 0 0] 30)).drew.cell? ⟨ga, off + k * 3 + 2, none⟩ = some (.int .i64 cc) := Adds.cellAt (Adds.trans (Gr.new _ _).adds (Adds.drew _)) c2
          have q3 : (wr.alloc (.cells #[.slice none 0 0] 30)).drew.cell? ⟨B, 0, none⟩ = some (.slice (some ⟨g', 0, none⟩) l'.length cp') := Adds.cellAt (Adds.trans (Gr.new _ _).adds (Adds.drew _)) cB
          go_region_with (go_at_call 13; refine (HAct.out _ (by first | exact Adds.drew _ | exact Adds.trans (Gr.new _ _).adds (Adds.drew _))).mono ?_; rintro e w5 ⟨v5, s5, O5, rfl, h1, h2, h3, h4⟩; obtain ⟨g5, cp5, rfl, _, _⟩ := h2.form; have M5 := Lib.hid h1; have R5 := Lib.hid (h2.wide (fun k hk => hk.1)); have B5 := Lib.hid (show ∀ k, O5 k → w.heap.size ≤ k from fun k hk => (h4 k hk).elim (HO'.out k) (fun h => Nat.le_trans (Nat.le_trans HAr.out.size (Below.size (show Adds wr _ by first | exact Adds.drew wr | exact Adds.trans (Gr.new wr _).adds (Adds.drew _)))) h)); have T5 := Lib.hid (show TnO O' wr w5 from (TnO.of_adds O' (by first | exact Adds.drew _ | exact Adds.trans (Gr.new _ _).adds (Adds.drew _))).trans h3); have hbk5 := T5.out.bk HBk.out HNB.out; have d3 : w5.cell? ⟨B, 0, none⟩ = some (.slice (some ⟨g', 0, none⟩) l'.length cp') := hbk5.cell 0; have f3 := hbk5.free 0; have HBk5 := Lib.hid hbk5; (try (have hz5 := h3.bk ((BkS.new 30 wr [.slice none 0 0]).adds (Adds.drew _)) (fun ho => absurd (HM.out.lt _ ho) (Nat.lt_irrefl _)); have y5 : w5.cell? ⟨wr.heap.size, 0, none⟩ = some (.slice none 0 0) := hz5.cell 0; have z5 : w5.frozen? ⟨wr.heap.size, 0, none⟩ = false := hz5.free 0; have HZ5 := Lib.hid hz5; clear hz5)); clear h1 h2 h3 h4 hbk5)
          all_goals
            simp only [Exit.then]
            go_simp
            go_wp2_with fail
            first
              | (obtain ⟨W, hW⟩ : ∃ W, w5.alloc (.cells #[(.slice (some ⟨g5, 0, none⟩) L'.length cp5)] 30) = W := ⟨_, rfl⟩; rw [hW]; have hF : Play14 (k + 1) w W v5 O5 B w5.heap.size (.slice (some ⟨g5, 0, none⟩) L'.length cp5) (.slice (some ⟨g', 0, none⟩) l'.length cp') L' := (by rw [← hW]; exact ⟨BkS.new _ _ _, HBk5.out.adds (Gr.new _ _).adds, M5.out.adds (Gr.new _ _).adds, B5.out, R5.out.adds (Gr.new _ _).adds, Adds.trans (TnO.own HAr.out HO'.out T5.out) (Gr.new _ _).adds, (by have := HBlt.out; have := T5.out.size; omega)⟩); clear hW; obtain ⟨m, hm⟩ : ∃ m, w5.heap.size = m := ⟨_, rfl⟩; rw [hm] at hF ⊢; clear hm)
              | (obtain ⟨W, hW⟩ : ∃ W, w5.setCell ⟨wr.heap.size, 0, none⟩ (.slice (some ⟨g5, 0, none⟩) L'.length cp5) = W := ⟨_, rfl⟩; rw [hW]; have hF : Play14 (k + 1) w W v5 O5 B wr.heap.size (.slice (some ⟨g5, 0, none⟩) L'.length cp5) (.slice (some ⟨g', 0, none⟩) l'.length cp') L' := (by rw [← hW]; obtain ⟨p1, p2⟩ := play_set M5.out R5.out HZ5.out 0 (.slice (some ⟨g5, 0, none⟩) L'.length cp5); exact ⟨HZ5.out.set 0 _, HBk5.out.other (by have := HBlt.out; omega) _, p1, B5.out, p2, Adds.set (TnO.own HAr.out HO'.out T5.out) HAr.out.size 0 _, (by have := HBlt.out; omega)⟩); clear hW; obtain ⟨m, hm⟩ : ∃ m, wr.heap.size = m := ⟨_, rfl⟩; rw [hm] at hF ⊢; clear hm)
            obtain ⟨f1, f2, f3, f4, f5, f6, f7⟩ := hF
            have hm0 : W.cell? ⟨m, 0, none⟩ = some (.slice (some ⟨g5, 0, none⟩) L'.length cp5) := f1.cell 0
            have hm1 : W.drew.cell? ⟨m, 0, none⟩ = some (.slice (some ⟨g5, 0, none⟩) L'.length cp5) := f1.cell 0
            have hB0 : W.drew.cell? ⟨B, 0, none⟩ = some (.slice (some ⟨g', 0, none⟩) l'.length cp') := f2.cell 0
            have hB1 : W.drew.frozen? ⟨B, 0, none⟩ = false := f2.free 0
            have HPl := Lib.hid (show PlayW (k + 1) w (W.setCell ⟨B, 0, none⟩ (.slice (some ⟨g5, 0, none⟩) L'.length cp5)).drew v5 B L' from by
              obtain ⟨p1, p2⟩ := play_set f3 f5 f2 0 (.slice (some ⟨g5, 0, none⟩) L'.length cp5)
              exact ⟨⟨O5, g5, cp5, p1.adds (Adds.drew _), f4, p2.adds (Adds.drew _), (f2.set 0 _).adds (Adds.drew _)⟩, Adds.trans (Adds.set f6 HBn.out 0 _) (Adds.drew _)⟩)
            have f7' : ¬ B = m := fun e => f7 e.symm
            clear f1 f2 f3 f4 f5 f6
            go_region
            all_goals
              simp only [Exit.then]
              go_simp
              obtain ⟨V, hV⟩ : ∃ V, (W.setCell ⟨B, 0, none⟩ (.slice (some ⟨g5, 0, none⟩) L'.length cp5)).drew = V := ⟨_, rfl⟩
              rw [hV] at HPl ⊢
              clear hV
              obtain ⟨⟨O9, g9, c9, p1, p2, p3, p4⟩, p5⟩ := HPl.out
              have cV : V.cell? ⟨B, 0, none⟩ = some (.slice (some ⟨g9, 0, none⟩) L'.length c9) := p4.cell 0
              have HIs := Lib.hid (is_any (Int.tmod (k : Int) 4) (tmod_in k) HK6.out p1 p3)
              have HQ := Lib.hid (show PlayW (k + 1) w V v5 B L' from ⟨⟨O9, g9, c9, p1, p2, p3, p4⟩, p5⟩)
              clear p1 p2 p3 p4 p5 HPl
              go_wp2_with (go_at_call 14; refine HIs.out.mono ?_; rintro e w8 ⟨rfl, h8⟩; have H8 := Lib.hid h8; clear h8 HIs)
              go_roundw
              case rel => exact ⟨k + 1, L', by go_num, HK.out, HQ.out.more H8.out⟩
              case measure => simp [intOf]; have := HK.out; omega
        · have hltI : ¬ (k : Int) < (acts.length : Int) := by omega
          have cB : wr.cell? ⟨B, 0, none⟩ = some (.slice (some ⟨g', 0, none⟩) l'.length cp') := hBk.cell 0
          have HIs := Lib.hid (is_any 99 ⟨by decide, by decide⟩ (by omega) hM hR)
          have HAr := Lib.hid hA
          clear hk hM hR hBk hA hlt hO hk6
          go_wp2_with (first
            | (go_at_call 14; refine HIs.out.mono ?_; rintro e w7 ⟨rfl, h8⟩; have H7 := Lib.hid h8; clear h8 HIs)
            | (go_at_call 9; refine (HW.out _).mono ?_; rintro e w8 ⟨rfl, q8⟩; have H8 := Lib.hid q8; clear q8))
          go_ret
          exact ⟨rfl, Adds.trans HAr.out (Adds.trans H7.out H8.out)⟩
    · have HNew := Lib.hid (newW_no many hg w)
      have HRef := Lib.hid (fun W => refNew_no many hg W)
      clear ha0 hg hmx h60
      go_enter Try.func3, Try.ntmps3
      go_wp2_with (first
        | (go_at_call 10; refine HNew.out.mono ?_; rintro e w1 ⟨rfl, h4⟩; have A1 := Lib.hid h4; clear h4 HNew)
        | (go_at_call 11; refine (HRef.out w1).mono ?_; rintro e w2 ⟨rfl, h2⟩; have A2 := Lib.hid h2; clear h2 HRef)
        | (go_at_call 12; refine (HNum.out _ _).mono ?_; rintro e w' ⟨rfl, rfl⟩)
        | (go_at_call 9; refine (HW.out _).mono ?_; rintro e w8 ⟨rfl, q8⟩; have H8 := Lib.hid q8; clear q8))
      go_ret
      exact ⟨rfl, Adds.trans A1.out (Adds.trans A2.out (Adds.trans (Gr.new _ _).adds H8.out))⟩
  · have h60I : 60 < (acts.length : Int) := by omega
    go_enter Try.func3, Try.ntmps3
    go_wp2_with (go_at_call 9; refine (HW.out _).mono ?_; rintro e w8 ⟨rfl, q8⟩; have H8 := Lib.hid q8; clear q8)
    go_ret
    exact ⟨rfl, H8.out⟩
end Go.Proofs.Ytedllkahalfjgaa
