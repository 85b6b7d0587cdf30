/- The law MutexPlays, walked. -/
import Derived.Test.YtdmbjonbcomphaaUAct
import Derived.Test.YtdmbjonbcomphaaUS1
namespace Go.Proofs.Ytdmbjonbcomphaa
open Go Go.RowKit Go.Maps

theorem tmod_in (k : Nat) : In64 (Int.tmod (k : Int) 4) := by
  rw [Int.tmod_eq_emod_of_nonneg (by omega)]
  exact ⟨by omega, by omega⟩
theorem refNew_yes (n : Nat) (h : n ≤ 64) (w : World) : Calls Try.prog 9 #[.int .i64 ((n : Nat) : Int)] w fun e w' => ∃ u, e = .returned (.tuple #[u, .int .i64 0]) ∧ RefM w' u (List.replicate n 0) ∧ Adds w w' :=
  (refNew_any (n : Int) w).mono fun e w' ⟨h1, h2⟩ => by
    unfold NewR at h1
    rw [if_pos (by omega), Int.toNat_natCast] at h1
    obtain ⟨u, e, hr⟩ := h1
    exact ⟨u, e, hr, h2⟩
theorem refNew_no (many : Int) (h : ¬ (0 ≤ many ∧ many ≤ 64)) (w : World) : Calls Try.prog 9 #[.int .i64 many] w fun e w' => e = .returned (.tuple #[.agg #[.slice none 0 0], .int .i64 2]) ∧ Adds w w' :=
  (refNew_any many w).mono fun e w' ⟨h1, h2⟩ => by
    unfold NewR at h1
    rw [if_neg h] at h1
    exact ⟨h1, h2⟩
/-- A law under way: the mutexes, the document's in a box. -/
structure PlayU (w0 w : World) (v : Value) (B : Nat) (l : List Int) : Prop where
  mx : ∃ bp b, MutP w v bp b l ∧ w0.heap.size ≤ b
  ref : ∃ g cap, RefM w (.agg #[.slice (some ⟨g, 0, none⟩) l.length cap]) l ∧ BkS 30 w B [.slice (some ⟨g, 0, none⟩) l.length cap]
  adds : Adds w0 w
/-- Behind a call of both: its results, one of them in a box of its own. -/
structure Play12 (w0 W : World) (v : Value) (b B m : Nat) (s5 old : Value) (l : List Int) : Prop where
  bm : BkS 30 W m [s5]
  bB : BkS 30 W B [old]
  mx : ∃ bp, MutP W v bp b l
  ref : RefM W (.agg #[s5]) l
  adds : Adds w0 W
  hb : w0.heap.size ≤ b
  ne : ¬ m = B
set_option maxRecDepth 100000 in
set_option maxHeartbeats 16000000 in
theorem law_plays13 (many : Int) (va : Value) (acts : List A3) (w : World) (ha : ActsW w.heap.size w va acts) (hk : ∀ y ∈ acts, okA y) :
    Calls Try.prog 3 #[.int .i64 many, va] w fun e W' => e = .returned (.bool true) ∧ Adds w W' := by
  have HW := Lib.hid works_any
  have HNum := Lib.hid num_any
  have ha0 := ha
  obtain ⟨ao, cap, rfl, hmx, _⟩ := ha
  by_cases h60 : acts.length ≤ 60
  · have h60I : ¬ 60 < (acts.length : Int) := by omega
    by_cases hg : 0 ≤ many ∧ many ≤ 64
    · obtain ⟨n, rfl⟩ : ∃ n : Nat, many = n := ⟨many.toNat, by omega⟩
      have HNew := Lib.hid (newU_yes n (by omega) w)
      have HRef := Lib.hid (fun W => refNew_yes n (by omega) W)
      have HV := Lib.hid ha0; have HKo := Lib.hid hk
      have h5 : (acts.length : Int) ≤ 60 := by omega
      clear ha0 hk hg hmx h60
      go_enter Try.func3, Try.ntmps3
      go_wp2_with (first
        | (go_at_call 8; refine HNew.out.mono ?_; rintro e w1 ⟨v, bp, b, rfl, h1, h2, h3, h4⟩; obtain rfl := h1.ptr; have M1 := Lib.hid h1; have A1 := Lib.hid h4; have B1 := Lib.hid h3; clear h1 h2 h3 h4 HNew)
        | (go_at_call 9; refine (HRef.out w1).mono ?_; rintro e w2 ⟨u, rfl, h1, h2⟩; obtain ⟨g, cp, rfl⟩ := h1.val; have R2 := Lib.hid h1; have A2 := Lib.hid h2; clear h1 h2 HRef)
        | (go_at_call 10; refine (HNum.out _ _).mono ?_; rintro e w' ⟨rfl, rfl⟩))
      obtain ⟨wb, hwb⟩ : ∃ wb, w2.alloc (.cells #[.slice (some ⟨g, 0, none⟩) (List.replicate n (0 : Int)).length cp] 30) = wb := ⟨_, rfl⟩
      have hab : Adds w2 wb := by rw [← hwb]; exact (Gr.new _ _).adds
      have HP0 := Lib.hid (show PlayU w wb (.pointer (some ⟨bp, 0, none⟩)) w2.heap.size (List.replicate n 0) from
        ⟨⟨bp, b, (M1.out.adds A2.out).adds hab, B1.out⟩, ⟨g, cp, R2.out.adds hab, by rw [← hwb]; exact BkS.new _ _ _⟩, Adds.trans A1.out (Adds.trans A2.out hab)⟩)
      obtain ⟨B, hB⟩ : ∃ B, w2.heap.size = B := ⟨_, rfl⟩
      have HBn := Lib.hid (show w.heap.size ≤ B by rw [← hB]; exact Nat.le_trans A1.out.size A2.out.size)
      try simp only [List.length_replicate] at hwb
      try rw [hwb]
      rw [hB] at HP0 ⊢
      clear hwb hab hB
      go_loopw [5, 9] (fun mv iv wr => ∃ (k : Nat) (l' : List Int), iv = .int .i64 k ∧ k ≤ acts.length ∧ PlayU w wr mv B l') (fun _ iv _ => acts.length + 1 - (intOf iv).toNat)
      case atStart => exact ⟨0, _, rfl, Nat.zero_le _, HP0.out⟩
      case round =>
        obtain ⟨k, l', rfl, hk, hP⟩ := hrel
        obtain ⟨⟨bp', b', hM, hb'⟩, ⟨g', cp', hR, hBk⟩, hA⟩ := hP
        obtain rfl := hM.ptr
        by_cases hlt : k < acts.length
        · obtain ⟨ga, off, cap', e, c0, c1, c2⟩ := HV.out.at3 (Nat.le_refl _) hA hlt
          simp only [Value.slice.injEq] at e
          obtain ⟨rfl, e0, rfl⟩ := e
          clear e0
          obtain ⟨x, hx⟩ : ∃ x, acts.getD k zA = x := ⟨_, rfl⟩
          have hok := okA_at HKo.out hlt
          rw [hx] at c0 c1 c2 hok
          have hltI : (k : Int) < (acts.length : Int) := by omega
          have HK := Lib.hid (show k + 1 ≤ acts.length from hlt)
          have HM := Lib.hid hM; have HR := Lib.hid hR; have HBk := Lib.hid hBk; have HAr := Lib.hid hA; have HB' := Lib.hid hb'
          have HAct := Lib.hid (fun (W : World) (hW : Adds wr W) => act_any _ _ bp' b' l' x hok W (hM.adds hW) (hR.adds hW))
          have cB : wr.cell? ⟨B, 0, none⟩ = some (.slice (some ⟨g', 0, none⟩) l'.length cp') := hBk.cell 0
          have HBlt := Lib.hid hBk.lt
          have hBne : ¬ wr.heap.size = B := by have := hBk.lt; omega
          have hBne' : ¬ B = wr.heap.size := by have := hBk.lt; omega
          obtain ⟨L', hL'⟩ : ∃ L', stepA l' x = L' := ⟨_, rfl⟩
          rw [hL'] at HAct
          have HLn := Lib.hid (show L'.length = l'.length by rw [← hL', stepA_length])
          obtain ⟨⟨a, i, cc⟩, hxx⟩ : ∃ y, x = y := ⟨_, rfl⟩
          subst hxx
          simp only at c0 c1 c2 HAct
          clear hk hM hR hBk hA hb' hlt hx hok hL'
          go_wp2
          have s0 : wr.drew.cell? ⟨ga, off + k * 3, none⟩ = some (.int .i64 a) := c0
          have s1 : wr.drew.cell? ⟨ga, off + k * 3 + 1, none⟩ = some (.int .i64 i) := c1
          have s2 : wr.drew.cell? ⟨ga, off + k * 3 + 2, none⟩ = some (.int .i64 cc) := c2
          have s3 : wr.drew.cell? ⟨B, 0, none⟩ = some (.slice (some ⟨g', 0, none⟩) l'.length cp') := cB
          have q0 : (wr.alloc (.cells #[.slice none 0 0] 30)).drew.cell? ⟨ga, off + k * 3, none⟩ = some (.int .i64 a) := Adds.cellAt (Adds.trans (Gr.new _ _).adds (Adds.drew _)) c0
          have q1 : (wr.alloc (.cells #[.slice none 0 0] 30)).drew.cell? ⟨ga, off + k * 3 + 1, none⟩ = some (.int .i64 i) := Adds.cellAt (Adds.trans (Gr.new _ _).adds (Adds.drew _)) c1
          have q2 : (wr.alloc (.cells #[.slice none 0 0] 30)).drew.cell? ⟨ga, off + k * 3 + 2, none⟩ = some (.int .i64 cc) := Adds.cellAt (Adds.trans (Gr.new _ _).adds (Adds.drew _)) c2
          have q3 : (wr.alloc (.cells #[.slice none 0 0] 30)).drew.cell? ⟨B, 0, none⟩ = some (.slice (some ⟨g', 0, none⟩) l'.length cp') := Adds.cellAt (Adds.trans (Gr.new _ _).adds (Adds.drew _)) cB
          go_region_with (go_at_call 11; refine (HAct.out _ (by first | exact Adds.drew _ | exact Adds.trans (Gr.new _ _).adds (Adds.drew _))).mono ?_; rintro e w5 ⟨v5, bp5, b5, u5, rfl, h1, h2, h3, h4⟩; obtain ⟨g5, cp5, rfl⟩ := h2.val; have M5 := Lib.hid h1; have R5 := Lib.hid h2; have B5 := Lib.hid (show w.heap.size ≤ b5 from h4.elim (fun e => by rw [e]; exact HB'.out) (fun h => Nat.le_trans (Nat.le_trans HAr.out.size (Below.size (show Adds wr _ by first | exact Adds.drew wr | exact Adds.trans (Gr.new wr _).adds (Adds.drew _)))) h)); have T5 := Lib.hid (show TnS b' wr w5 from (TnS.of_adds b' (by first | exact Adds.drew _ | exact Adds.trans (Gr.new _ _).adds (Adds.drew _))).trans h3); have hbk5 := HBk.out.turn HM.out.map T5.out; have d3 : w5.cell? ⟨B, 0, none⟩ = some (.slice (some ⟨g', 0, none⟩) l'.length cp') := hbk5.cell 0; have f3 := hbk5.free 0; have HBk5 := Lib.hid hbk5; (try (have hz5 := ((BkS.new 30 wr [.slice none 0 0]).adds (Adds.drew _)).turn (HM.out.map.adds (Adds.trans (Gr.new _ _).adds (Adds.drew _))) h3; have y5 : w5.cell? ⟨wr.heap.size, 0, none⟩ = some (.slice none 0 0) := hz5.cell 0; have z5 : w5.frozen? ⟨wr.heap.size, 0, none⟩ = false := hz5.free 0; have HZ5 := Lib.hid hz5; clear hz5)); clear h1 h2 h3 h4 hbk5)
          all_goals
            simp only [Exit.then]
            go_simp
            go_wp2_with fail
            first
              | (obtain ⟨W, hW⟩ : ∃ W, w5.alloc (.cells #[(.slice (some ⟨g5, 0, none⟩) L'.length cp5)] 30) = W := ⟨_, rfl⟩; rw [hW]; have hF : Play12 w W v5 b5 B w5.heap.size (.slice (some ⟨g5, 0, none⟩) L'.length cp5) (.slice (some ⟨g', 0, none⟩) l'.length cp') L' := (by rw [← hW]; exact ⟨BkS.new _ _ _, HBk5.out.adds (Gr.new _ _).adds, ⟨bp5, M5.out.adds (Gr.new _ _).adds⟩, R5.out.adds (Gr.new _ _).adds, Adds.trans (TnS.own HAr.out HB'.out T5.out) (Gr.new _ _).adds, B5.out, (by have := HBlt.out; have := T5.out.size; omega)⟩); clear hW; obtain ⟨m, hm⟩ : ∃ m, w5.heap.size = m := ⟨_, rfl⟩; rw [hm] at hF ⊢; clear hm)
              | (obtain ⟨W, hW⟩ : ∃ W, w5.setCell ⟨wr.heap.size, 0, none⟩ (.slice (some ⟨g5, 0, none⟩) L'.length cp5) = W := ⟨_, rfl⟩; rw [hW]; have hF : Play12 w W v5 b5 B wr.heap.size (.slice (some ⟨g5, 0, none⟩) L'.length cp5) (.slice (some ⟨g', 0, none⟩) l'.length cp') L' := (by rw [← hW]; exact ⟨HZ5.out.set 0 _, HBk5.out.other (by have := HBlt.out; omega) _, ⟨bp5, M5.out.far HZ5.out (by decide) 0 _⟩, R5.out.far HZ5.out 0 _, Adds.set (TnS.own HAr.out HB'.out T5.out) HAr.out.size 0 _, B5.out, (by have := HBlt.out; omega)⟩); clear hW; obtain ⟨m, hm⟩ : ∃ m, wr.heap.size = m := ⟨_, rfl⟩; rw [hm] at hF ⊢; clear hm)
            obtain ⟨f1, f2, ⟨bp6, f3⟩, f4, f5, f6, f7⟩ := hF
            have hm0 : W.cell? ⟨m, 0, none⟩ = some (.slice (some ⟨g5, 0, none⟩) L'.length cp5) := f1.cell 0
            have hm1 : W.drew.cell? ⟨m, 0, none⟩ = some (.slice (some ⟨g5, 0, none⟩) L'.length cp5) := f1.cell 0
            have hB0 : W.drew.cell? ⟨B, 0, none⟩ = some (.slice (some ⟨g', 0, none⟩) l'.length cp') := f2.cell 0
            have hB1 : W.drew.frozen? ⟨B, 0, none⟩ = false := f2.free 0
            have HPl := Lib.hid (show PlayU w (W.setCell ⟨B, 0, none⟩ (.slice (some ⟨g5, 0, none⟩) L'.length cp5)).drew v5 B L' from
              ⟨⟨bp6, b5, (f3.far f2 (by decide) 0 _).adds (Adds.drew _), f6⟩, ⟨g5, cp5, (f4.far f2 0 _).adds (Adds.drew _), (f2.set 0 _).adds (Adds.drew _)⟩, Adds.trans (Adds.set f5 HBn.out 0 _) (Adds.drew _)⟩)
            have f7' : ¬ B = m := fun e => f7 e.symm
            clear f1 f2 f3 f4 f5 f6
            go_region
            all_goals
              simp only [Exit.then]
              go_simp
              obtain ⟨V, hV⟩ : ∃ V, (W.setCell ⟨B, 0, none⟩ (.slice (some ⟨g5, 0, none⟩) L'.length cp5)).drew = V := ⟨_, rfl⟩
              rw [hV] at HPl ⊢
              clear hV
              obtain ⟨⟨bq, bb, p1, p2⟩, ⟨gq, cq, p3, p4⟩, p5⟩ := HPl.out
              have cV : V.cell? ⟨B, 0, none⟩ = some (.slice (some ⟨gq, 0, none⟩) L'.length cq) := p4.cell 0
              have HIs := Lib.hid (is_any v5 _ bq bb L' (Int.tmod (k : Int) 4) (tmod_in k) V p1 p3)
              have HQ := Lib.hid (And.intro (And.intro p1 p2) (And.intro p3 (And.intro p4 p5)))
              clear p1 p2 p3 p4 p5 HPl
              go_wp2_with (go_at_call 12; refine HIs.out.mono ?_; rintro e w8 ⟨rfl, h8⟩; have H8 := Lib.hid h8; clear h8 HIs)
              go_roundw
              case rel => exact ⟨k + 1, L', by go_num, HK.out, ⟨_, _, HQ.out.1.1.adds H8.out, HQ.out.1.2⟩, ⟨_, _, HQ.out.2.1.adds H8.out, HQ.out.2.2.1.adds H8.out⟩, Adds.trans HQ.out.2.2.2 H8.out⟩
              case measure => simp [intOf]; have := HK.out; omega
        · have hltI : ¬ (k : Int) < (acts.length : Int) := by omega
          have cB : wr.cell? ⟨B, 0, none⟩ = some (.slice (some ⟨g', 0, none⟩) l'.length cp') := hBk.cell 0
          have HIs := Lib.hid (is_any _ _ bp' b' l' 99 ⟨by decide, by decide⟩ wr hM hR)
          have HAr := Lib.hid hA
          clear hk hM hR hBk hA hb' hlt
          go_wp2_with (first
            | (go_at_call 12; refine HIs.out.mono ?_; rintro e w7 ⟨rfl, h8⟩; have H7 := Lib.hid h8; clear h8 HIs)
            | (go_at_call 7; refine (HW.out _).mono ?_; rintro e w8 ⟨rfl, q8⟩; have H8 := Lib.hid q8; clear q8))
          go_ret
          exact ⟨rfl, Adds.trans HAr.out (Adds.trans H7.out H8.out)⟩
    · have HNew := Lib.hid (newU_no many hg w)
      have HRef := Lib.hid (fun W => refNew_no many hg W)
      clear ha0 hk hg hmx h60
      go_enter Try.func3, Try.ntmps3
      go_wp2_with (first
        | (go_at_call 8; refine HNew.out.mono ?_; rintro e w1 ⟨rfl, h4⟩; have A1 := Lib.hid h4; clear h4 HNew)
        | (go_at_call 9; refine (HRef.out w1).mono ?_; rintro e w2 ⟨rfl, h2⟩; have A2 := Lib.hid h2; clear h2 HRef)
        | (go_at_call 10; refine (HNum.out _ _).mono ?_; rintro e w' ⟨rfl, rfl⟩)
        | (go_at_call 7; refine (HW.out _).mono ?_; rintro e w8 ⟨rfl, q8⟩; have H8 := Lib.hid q8; clear q8))
      go_ret
      exact ⟨rfl, Adds.trans A1.out (Adds.trans A2.out (Adds.trans (Gr.new _ _).adds H8.out))⟩
  · have h60I : 60 < (acts.length : Int) := by omega
    go_enter Try.func3, Try.ntmps3
    go_wp2_with (go_at_call 7; refine (HW.out _).mono ?_; rintro e w8 ⟨rfl, q8⟩; have H8 := Lib.hid q8; clear q8)
    go_ret
    exact ⟨rfl, H8.out⟩
end Go.Proofs.Ytdmbjonbcomphaa
