/- The contract of the law's 'works': the chapter's rows. -/
import Derived.Test.YtoeoeeomnbggkaaGreatDoorSF7
import Derived.Test.YtoeoeeomnbggkaaGreatDoorSF10
import Derived.Test.YtoeoeeomnbggkaaGreatDoorSNM
import Derived.Test.YtoeoeeomnbggkaaGreatDoorSEq
namespace Go.Proofs.YtoeoeeomnbggkaaGreatDoor
open Go Go.RowKit Go.Shelf

theorem dec_1 : Lib.decDigits 1 = [49] := by rw [dec_lo (by decide)]; rfl
theorem dec_2 : Lib.decDigits 2 = [50] := by rw [dec_lo (by decide)]; rfl
theorem dec_12 : Lib.decDigits 12 = [49, 50] := by rw [dec_hi (by decide)]; show Lib.decDigits 1 ++ _ = _; rw [dec_1]; rfl
theorem txt_w1 : txtS (1, 12) = [102, 49, 58, 49, 50] := by
  unfold txtS
  show 102 :: (Lib.decDigits 1 ++ 58 :: Lib.decDigits 12) = _
  rw [dec_1, dec_12]; rfl
theorem txt_w2 : txtS (1, 2) = [102, 49, 58, 50] := by
  unfold txtS
  show 102 :: (Lib.decDigits 1 ++ 58 :: Lib.decDigits 2) = _
  rw [dec_1, dec_2]; rfl
theorem read_w2 : readT [102, 48, 49, 58, 50] = some (1, 2) := by decide +kernel
theorem parse_w1 : parseT [102, 49, 58, 49, 50] = some (1, 12) := parseT_iff.2 ⟨by decide, txt_w1⟩
theorem parse_w2 : parseT [102, 48, 49, 58, 50] = none := parse_1 read_w2 (by rw [txt_w2]; decide)
theorem w_text (w : World) (hv : SVars w) : Calls Tryz.prog 14 #[.agg #[.int .i64 1, .int .i64 12]] w fun e w' => e = .returned (.tuple #[.string ⟨#[102, 49, 58, 49, 50]⟩, .int .i64 0]) ∧ Adds w w' := by
  have h := siteText_any (1, 12) w hv
  have e : textA (1, 12) = [102, 49, 58, 49, 50] := by unfold textA; rw [if_pos (by decide)]; exact txt_w1
  rw [e] at h
  exact h.mono fun e w' ⟨h1, h2⟩ => ⟨h1, h2.adds⟩
theorem w_parse1 (w : World) (hv : SVars w) : Calls Tryz.prog 15 #[.string ⟨#[102, 49, 58, 49, 50]⟩] w fun e w' => e = .returned (.tuple #[.agg #[.int .i64 1, .int .i64 12], .int .i64 0]) ∧ Adds w w' := by
  have h := siteParse_any [102, 49, 58, 49, 50] (by decide) w hv
  rw [parse_w1] at h
  exact h
theorem w_parse2 (w : World) (hv : SVars w) : Calls Tryz.prog 15 #[.string ⟨#[102, 48, 49, 58, 50]⟩] w fun e w' => e = .returned (.tuple #[.agg #[.int .i64 0, .int .i64 0], .int .i64 170]) ∧ Adds w w' := by
  have h := siteParse_any [102, 48, 49, 58, 50] (by decide) w hv
  rw [parse_w2] at h
  exact h
theorem w_bytes (w : World) (hv : Widths w) : Calls Tryz.prog 16 #[.agg #[.int .i64 1, .int .i64 258]] w fun e w' => ∃ v, e = .returned (.tuple #[v, .int .i64 0]) ∧ OwnB w' w.heap.size v [1, 2, 1] ∧ Adds w w' :=
  siteBytes_yes 1 258 (by decide) (by decide) w hv
theorem w_of (w : World) : Calls Tryz.prog 17 #[.agg #[.int .i64 2, .int .i64 0], .agg #[.int .i64 1, .int .i64 5]] w fun e w' => e = .returned (.tuple #[.agg #[.int .i64 1, .int .i64 5, .int .i64 2, .int .i64 0], .int .i64 0]) ∧ Adds w w' :=
  of_any (2, 0) (1, 5) w
def px : Pr := ((1, 5), (2, 0))
theorem px_ok : okPr px := by unfold okPr okI; decide
theorem w_new (w : World) : Calls Tryz.prog 5 #[.slice none 0 0] w fun e w' => ∃ bp b, e = .returned (.tuple #[.pointer (some ⟨bp, 0, none⟩), .int .i64 0]) ∧ SetP w' (.pointer (some ⟨bp, 0, none⟩)) bp b [] ∧ w.heap.size ≤ bp ∧ w.heap.size ≤ b ∧ Adds w w' :=
  (new_any (n := 0) _ [] (by simp) (fun _ h => by simp at h) w (Nat.zero_le _) (PairsW.nil 0 w)).mono fun e w' h => by
    rcases h with ⟨_, bp, b, L, h1, h2, _, h4, h5, h6, h7⟩ | ⟨h, _⟩
    · obtain rfl : L = [] := List.eq_nil_of_length_eq_zero (by simpa using h4)
      exact ⟨bp, b, h1, h2, h5, h6, h7⟩
    · exact absurd (fun _ h => by simp at h) h
theorem w_add1 (bp b : Nat) (w : World) (h : SetP w (.pointer (some ⟨bp, 0, none⟩)) bp b []) :
    Calls Tryz.prog 7 #[.pointer (some ⟨bp, 0, none⟩), .agg #[.int .i64 1, .int .i64 5, .int .i64 2, .int .i64 0]] w fun e w' => e = .returned (.tuple #[.bool true, .int .i64 0]) ∧ SetP w' (.pointer (some ⟨bp, 0, none⟩)) bp b [px] ∧ TnS b w w' :=
  add_yes bp b _ [] px px_ok (by decide) (by decide) w h
theorem w_add2 (bp b : Nat) (w : World) (h : SetP w (.pointer (some ⟨bp, 0, none⟩)) bp b [px]) :
    Calls Tryz.prog 7 #[.pointer (some ⟨bp, 0, none⟩), .agg #[.int .i64 1, .int .i64 5, .int .i64 2, .int .i64 0]] w fun e w' => e = .returned (.tuple #[.bool false, .int .i64 0]) ∧ SetP w' (.pointer (some ⟨bp, 0, none⟩)) bp b [px] ∧ TnS b w w' := by
  have h2 := add_yes bp b _ [px] px px_ok (by decide) (by decide) w h
  rw [if_pos (by simp), show decide (px ∉ [px]) = false by decide] at h2
  exact h2
theorem w_len (bp b : Nat) (w : World) (h : SetP w (.pointer (some ⟨bp, 0, none⟩)) bp b [px]) :
    Calls Tryz.prog 12 #[.pointer (some ⟨bp, 0, none⟩)] w fun e w' => e = .returned (.int .i64 1) ∧ w = w' := len_some bp b _ [px] w h
theorem TnS.below7 {b n : Nat} {v w : World} (h : TnS b v w) (hb : n ≤ b) (hn : n ≤ v.heap.size) : Below n v w := ⟨h.os, h.tape, h.output, h.size, fun i hi => h.block i (by omega) (fun e => by cases e; omega)⟩
/-- A box of known cells, kept. -/
theorem box_kept {t : TypeId} {w w' : World} {l : List Value} (h : Adds (w.alloc (.cells l.toArray t)) w') : BkS t w' w.heap.size l := (BkS.new t w l).adds h

set_option maxRecDepth 100000 in
set_option maxHeartbeats 4000000 in
theorem works_any (w : World) (hv : SVars w) : Calls Tryz.prog 4 #[] w (TrueAdds w) := by
  have HV := Lib.hid hv; clear hv
  have hn := num_site
  go_enter Tryz.func4, Tryz.ntmps4
  have q1 := site_eql 1 12 1 12
  rw [show eqS (1, 12) (1, 12) = true by decide] at q1
  have q2 := pair_eql 1 5 2 0 1 5 2 0
  rw [show eqP ((1, 5), (2, 0)) ((1, 5), (2, 0)) = true by decide] at q2
  have HQ1 := Lib.hid q1
  have HQ2 := Lib.hid q2
  clear q1 q2
  go_wp2_with (first
    | (go_at_call 14; refine (w_text _ HV.out).mono ?_; rintro e w1 ⟨rfl, a1⟩; have A1 := Lib.hid a1; clear a1)
    | (go_at_call 15; refine (w_parse1 _ (HV.out.below A1.out)).mono ?_; rintro e w2 ⟨rfl, a2⟩; have A2 := Lib.hid (Adds.trans A1.out a2); clear a2 A1)
    | (go_at_call 15; refine (w_parse2 _ (HV.out.below (Adds.trans A2.out (Gr.new w2 _).adds))).mono ?_; rintro e w4 ⟨rfl, a4⟩; obtain ⟨k3, hk3⟩ : ∃ k3, w2.heap.size = k3 := ⟨_, rfl⟩; have B3 := Lib.hid (show BkS 30 w4 k3 [.int .i64 1, .int .i64 12] by rw [← hk3]; exact (BkS.new _ _ _).adds a4); have A4 := Lib.hid (Adds.trans A2.out (Adds.trans (Gr.new w2 _).adds a4)); rw [hk3]; clear a4 A2 hk3)
    | (go_at_call 16; refine (w_bytes _ ((HV.out.below (Adds.trans A4.out (Gr.new w4 _).adds)).wid)).mono ?_; rintro e w5 ⟨v, rfl, o5, a5⟩; have O5 := Lib.hid o5.bytes; have C3 := Lib.hid ((B3.out.adds (Gr.new w4 _).adds).adds a5); have A5 := Lib.hid (Adds.trans A4.out (Adds.trans (Gr.new w4 _).adds a5)); clear a5 o5 A4 B3)
    | (go_at_call 17; refine (w_of _).mono ?_; rintro e w6 ⟨rfl, a6⟩; have O6 := Lib.hid (O5.out.below a6); have D3 := Lib.hid (C3.out.adds a6); have A6 := Lib.hid (Adds.trans A5.out a6); have HZ6 := Lib.hid a6.size; clear a6 A5 C3 O5)
    | (go_at_call 5; refine (w_new _).mono ?_; rintro e w7 ⟨bp, b, rfl, s7, l7, m7, a7⟩; obtain ⟨k9, hk9⟩ : ∃ k9, w6.heap.size = k9 := ⟨_, rfl⟩; have b9 : BkS 32 w7 k9 [.int .i64 1, .int .i64 5, .int .i64 2, .int .i64 0] := (by rw [← hk9]; exact (BkS.new _ _ _).adds a7); have c0 : w7.cell? ⟨k9, 0, none⟩ = some (.int .i64 1) := b9.cell 0; have c1 : w7.cell? ⟨k9, 1, none⟩ = some (.int .i64 5) := b9.cell 1; have c2 : w7.cell? ⟨k9, 2, none⟩ = some (.int .i64 2) := b9.cell 2; have c3 : w7.cell? ⟨k9, 3, none⟩ = some (.int .i64 0) := b9.cell 3; have B9 := Lib.hid b9; have S7 := Lib.hid s7; have O7 := Lib.hid (O6.out.below ((Adds.trans (Gr.new w6 _).adds a7).mono HZ6.out)); have E3 := Lib.hid ((D3.out.adds (Gr.new w6 _).adds).adds a7); have A7 := Lib.hid (Adds.trans A6.out (Adds.trans (Gr.new w6 _).adds a7)); have M7 := Lib.hid (show k9 < b by rw [World.size_alloc] at m7; omega); have N7 := Lib.hid (show k3 < k9 by rw [← hk9]; exact D3.out.lt); have P7 := Lib.hid (show w5.heap.size ≤ k9 by rw [← hk9]; exact HZ6.out); have Q7 := Lib.hid (show w.heap.size ≤ b by rw [World.size_alloc] at m7; have := A6.out.size; omega); rw [hk9]; clear b9 s7 l7 m7 a7 D3 O6 A6 hk9 HZ6)
    | (go_at_call 7; refine (w_add1 bp b _ S7.out).mono ?_; rintro e w8 ⟨rfl, s8, t8⟩; have b9 : BkS 32 w8 k9 [.int .i64 1, .int .i64 5, .int .i64 2, .int .i64 0] := (t8.block k9 B9.out.lt (fun e => by cases e; have := M7.out; omega)).trans B9.out; have F3 := Lib.hid (show BkS 30 w8 k3 [.int .i64 1, .int .i64 12] from (t8.block k3 E3.out.lt (fun e => by cases e; have := M7.out; have := N7.out; omega)).trans E3.out); have O8 := Lib.hid (O7.out.below (TnS.below7 t8 (by have := M7.out; have := P7.out; omega) (by have := B9.out.lt; have := P7.out; omega))); have A8 := Lib.hid (TnS.own A7.out Q7.out t8); clear c0 c1 c2 c3; have c0 : w8.cell? ⟨k9, 0, none⟩ = some (.int .i64 1) := b9.cell 0; have c1 : w8.cell? ⟨k9, 1, none⟩ = some (.int .i64 5) := b9.cell 1; have c2 : w8.cell? ⟨k9, 2, none⟩ = some (.int .i64 2) := b9.cell 2; have c3 : w8.cell? ⟨k9, 3, none⟩ = some (.int .i64 0) := b9.cell 3; have B98 := Lib.hid b9; have S8 := Lib.hid s8; clear s8 t8 b9 S7 B9 E3 O7 A7)
    | (go_at_call 7; refine (w_add2 bp b _ S8.out).mono ?_; rintro e w9 ⟨rfl, s9, t9⟩; have b9 : BkS 32 w9 k9 [.int .i64 1, .int .i64 5, .int .i64 2, .int .i64 0] := (t9.block k9 B98.out.lt (fun e => by cases e; have := M7.out; omega)).trans B98.out; have b3 : BkS 30 w9 k3 [.int .i64 1, .int .i64 12] := (t9.block k3 F3.out.lt (fun e => by cases e; have := M7.out; have := N7.out; omega)).trans F3.out; have o9 := O8.out.below (TnS.below7 t9 (by have := M7.out; have := P7.out; omega) (by have := B98.out.lt; have := P7.out; omega)); have hcv : (convert 47 9 v).run Tryz.prog w9 = .ok (.string ⟨#[1, 2, 1]⟩) w9 := strAt o9.here; have A9 := Lib.hid (TnS.own A8.out Q7.out t9); clear c0 c1 c2 c3; have c0 : w9.cell? ⟨k9, 0, none⟩ = some (.int .i64 1) := b9.cell 0; have c1 : w9.cell? ⟨k9, 1, none⟩ = some (.int .i64 5) := b9.cell 1; have c2 : w9.cell? ⟨k9, 2, none⟩ = some (.int .i64 2) := b9.cell 2; have c3 : w9.cell? ⟨k9, 3, none⟩ = some (.int .i64 0) := b9.cell 3; have e0 : w9.cell? ⟨k3, 0, none⟩ = some (.int .i64 1) := b3.cell 0; have e1 : w9.cell? ⟨k3, 1, none⟩ = some (.int .i64 12) := b3.cell 1; have S9 := Lib.hid s9; have q1 := HQ1.out; have q2 := HQ2.out; clear s9 t9 b9 b3 o9 S8 B98 F3 O8 A8)
    | (go_at_call 9; refine (hn _ _).mono ?_; rintro e w10 ⟨rfl, rfl⟩)
    | (go_at_call 12; refine (w_len bp b _ S9.out).mono ?_; rintro e w10 ⟨rfl, rfl⟩))
  go_ret
  exact ⟨rfl, A9.out⟩
end Go.Proofs.YtoeoeeomnbggkaaGreatDoor
