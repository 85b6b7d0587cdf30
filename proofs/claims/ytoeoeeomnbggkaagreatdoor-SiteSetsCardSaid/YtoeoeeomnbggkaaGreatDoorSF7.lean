/- Parse of a text: its contract. -/
import Derived.Test.YtoeoeeomnbggkaaGreatDoorSF4
import Derived.Test.YtoeoeeomnbggkaaGreatDoorSF6
namespace Go.Proofs.YtoeoeeomnbggkaaGreatDoor
open Go Go.RowKit Go.Shelf Go.Sort

theorem beqS_yes (s : ByteArray) : (s.toList == s.toList) = true := by simp
theorem beqS_no {x l : List UInt8} (h : x ≠ l) : ((str x).toList == (str l).toList) = false := by
  rw [Bool.eq_false_iff]
  intro e
  apply h
  have := beq_iff_eq.1 e
  rw [Lib.toList_data, Lib.toList_data] at this
  exact this
theorem parse_0 {l : List UInt8} (h : readT l = none) : parseT l = none := by unfold parseT; rw [h]
theorem parse_1 {l : List UInt8} {s : Si} (h : readT l = some s) (h2 : txtS s ≠ l) : parseT l = none := by unfold parseT; rw [h]; simp only; rw [if_neg h2]
theorem parse_2 {l : List UInt8} {s : Si} (h : readT l = some s) (h2 : txtS s = l) : parseT l = some s := by unfold parseT; rw [h]; simp only; rw [if_pos h2]

set_option maxRecDepth 100000 in
set_option maxHeartbeats 4000000 in
theorem siteParse_no (l : List UInt8) (hl : l.length ≤ 1000000) (h : readT l = none) (w : World) (hv : SVars w) :
    Calls Tryz.prog 15 #[.string (str l)] w fun e w' => e = .returned (.tuple #[siV (0, 0), .int .i64 170]) ∧ Adds w w' := by
  have HR := Lib.hid (fun (W : World) (hA : Adds w W) => h ▸ readS_any l hl W (hv.below hA))
  clear hv h hl
  go_enter Tryz.func15, Tryz.ntmps15
  go_wp2_with fail
  refine wp_scope_fwd 0 rfl ?_
  go_wp2_with (go_at_call 30; refine (HR.out _ (Gr.new w _).adds).mono ?_; rintro e w2 ⟨rfl, h1⟩; have hb2 : BkS 30 w2 w.heap.size [.int .i64 0, .int .i64 0] := (BkS.new _ _ _).adds h1; have c20 : w2.cell? ⟨w.heap.size, 0, none⟩ = some (.int .i64 0) := hb2.cell 0; have c21 : w2.cell? ⟨w.heap.size, 1, none⟩ = some (.int .i64 0) := hb2.cell 1; have f20 := hb2.free 0; have f21 := hb2.free 1; have hlt := hb2.lt; have HB2 := Lib.hid hb2; have H1 := Lib.hid (Adds.trans (Gr.new w _).adds h1); clear h1 hb2; (try dsimp only [rdV]))
  go_step3
  refine ⟨rfl, ?_⟩
  go_wp2_with fail
  rw [Exit.noGoto_ret]
  refine bodyPost_ret (res_box2 rfl _ _ _ _ _ _ _ rfl (((HB2.out.set 0 (.int .i64 0)).set 1 (.int .i64 0)).adds (Gr.new _ _).adds) Tryz.underlying30 rfl (by kernel_rfl)) rfl ?_
  exact ⟨rfl, Adds.trans (Adds.set (Adds.set H1.out (Nat.le_refl _) 0 _) (Nat.le_refl _) 1 _) (Gr.new _ _).adds⟩
set_option maxRecDepth 100000 in
set_option maxHeartbeats 4000000 in
theorem siteParse_bad (l : List UInt8) (hl : l.length ≤ 1000000) (s : Si) (h : readT l = some s) (hne : txtS s ≠ l) (w : World) (hv : SVars w) :
    Calls Tryz.prog 15 #[.string (str l)] w fun e w' => e = .returned (.tuple #[siV (0, 0), .int .i64 170]) ∧ Adds w w' := by
  have HR := Lib.hid (fun (W : World) (hA : Adds w W) => h ▸ readS_any l hl W (hv.below hA))
  have hT := fun (W : World) (hA : Adds w W) => siteText_any s W (hv.below hA)
  have hr := readT_right h
  unfold textA chkE at hT
  rw [if_pos hr, if_pos hr] at hT
  have hq := beqS_no hne
  obtain ⟨t, ht⟩ : ∃ t, str (txtS s) = t := ⟨_, rfl⟩
  rw [ht] at hT hq
  have HT := Lib.hid hT
  obtain ⟨f, p⟩ := s
  clear hv h hl hT ht hne hr
  go_enter Tryz.func15, Tryz.ntmps15
  go_wp2_with fail
  refine wp_scope_fwd 0 rfl ?_
  go_wp2_with (first
    | (go_at_call 30; refine (HR.out _ (Gr.new w _).adds).mono ?_; rintro e w2 ⟨rfl, h1⟩; have hb2 : BkS 30 w2 w.heap.size [.int .i64 0, .int .i64 0] := (BkS.new _ _ _).adds h1; have c20 : w2.cell? ⟨w.heap.size, 0, none⟩ = some (.int .i64 0) := hb2.cell 0; have c21 : w2.cell? ⟨w.heap.size, 1, none⟩ = some (.int .i64 0) := hb2.cell 1; have f20 := hb2.free 0; have f21 := hb2.free 1; have hlt := hb2.lt; have HB2 := Lib.hid hb2; have H1 := Lib.hid (Adds.trans (Gr.new w _).adds h1); clear h1 hb2; (try dsimp only [rdV]))
    | (go_at_call 14; refine (HT.out _ (Adds.trans H1.out (Gr.new w2 _).adds)).mono ?_; rintro e w3 ⟨rfl, h2⟩; have hb3 := HB2.out.adds (Adds.trans (Gr.new w2 _).adds h2.adds); have c30 : w3.cell? ⟨w.heap.size, 0, none⟩ = some (.int .i64 0) := hb3.cell 0; have c31 : w3.cell? ⟨w.heap.size, 1, none⟩ = some (.int .i64 0) := hb3.cell 1; have f30 := hb3.free 0; have f31 := hb3.free 1; have hs3 : BkS 30 w3 w2.heap.size [.int .i64 f, .int .i64 p] := (BkS.new _ _ _).adds h2.adds; have s30 : w3.cell? ⟨w2.heap.size, 0, none⟩ = some (.int .i64 f) := hs3.cell 0; have s31 : w3.cell? ⟨w2.heap.size, 1, none⟩ = some (.int .i64 p) := hs3.cell 1; have HB3 := Lib.hid hb3; have H3 := Lib.hid (Adds.trans H1.out (Adds.trans (Gr.new w2 _).adds h2.adds)); clear h2 hb3 hs3 c20 c21 f20 f21))
  go_step3
  refine ⟨rfl, ?_⟩
  go_wp2_with fail
  rw [Exit.noGoto_ret]
  refine bodyPost_ret (res_box2 rfl _ _ _ _ _ _ _ rfl ((HB3.out.set 0 (.int .i64 0)).set 1 (.int .i64 0)) Tryz.underlying30 rfl (by kernel_rfl)) rfl ?_
  exact ⟨rfl, Adds.set (Adds.set H3.out (Nat.le_refl _) 0 _) (Nat.le_refl _) 1 _⟩
set_option maxRecDepth 100000 in
set_option maxHeartbeats 4000000 in
theorem siteParse_yes (l : List UInt8) (hl : l.length ≤ 1000000) (s : Si) (h : readT l = some s) (he : txtS s = l) (w : World) (hv : SVars w) :
    Calls Tryz.prog 15 #[.string (str l)] w fun e w' => e = .returned (.tuple #[siV s, .int .i64 0]) ∧ Adds w w' := by
  have HR := Lib.hid (fun (W : World) (hA : Adds w W) => h ▸ readS_any l hl W (hv.below hA))
  have hT := fun (W : World) (hA : Adds w W) => siteText_any s W (hv.below hA)
  have hr := readT_right h
  unfold textA chkE at hT
  rw [if_pos hr, if_pos hr] at hT
  obtain ⟨t, ht⟩ : ∃ t, str l = t := ⟨_, rfl⟩
  have hq := beqS_yes t
  rw [he, ht] at hT
  rw [ht] at HR ⊢
  have HT := Lib.hid hT
  obtain ⟨f, p⟩ := s
  clear hv h hl hT ht he hr
  go_enter Tryz.func15, Tryz.ntmps15
  go_wp2_with fail
  refine wp_scope_fwd 0 rfl ?_
  go_wp2_with (first
    | (go_at_call 30; refine (HR.out _ (Gr.new w _).adds).mono ?_; rintro e w2 ⟨rfl, h1⟩; have hb2 : BkS 30 w2 w.heap.size [.int .i64 0, .int .i64 0] := (BkS.new _ _ _).adds h1; have c20 : w2.cell? ⟨w.heap.size, 0, none⟩ = some (.int .i64 0) := hb2.cell 0; have c21 : w2.cell? ⟨w.heap.size, 1, none⟩ = some (.int .i64 0) := hb2.cell 1; have f20 := hb2.free 0; have f21 := hb2.free 1; have hlt := hb2.lt; have HB2 := Lib.hid hb2; have H1 := Lib.hid (Adds.trans (Gr.new w _).adds h1); clear h1 hb2; (try dsimp only [rdV]))
    | (go_at_call 14; refine (HT.out _ (Adds.trans H1.out (Gr.new w2 _).adds)).mono ?_; rintro e w3 ⟨rfl, h2⟩; have hb3 := HB2.out.adds (Adds.trans (Gr.new w2 _).adds h2.adds); have c30 : w3.cell? ⟨w.heap.size, 0, none⟩ = some (.int .i64 0) := hb3.cell 0; have c31 : w3.cell? ⟨w.heap.size, 1, none⟩ = some (.int .i64 0) := hb3.cell 1; have f30 := hb3.free 0; have f31 := hb3.free 1; have hs3 : BkS 30 w3 w2.heap.size [.int .i64 f, .int .i64 p] := (BkS.new _ _ _).adds h2.adds; have s30 : w3.cell? ⟨w2.heap.size, 0, none⟩ = some (.int .i64 f) := hs3.cell 0; have s31 : w3.cell? ⟨w2.heap.size, 1, none⟩ = some (.int .i64 p) := hs3.cell 1; have HB3 := Lib.hid hb3; have H3 := Lib.hid (Adds.trans H1.out (Adds.trans (Gr.new w2 _).adds h2.adds)); clear h2 hb3 hs3 c20 c21 f20 f21))
  simp only [Exit.jump]
  refine bodyPost_ret (res_box2 rfl _ _ _ _ _ _ _ rfl ((HB3.out.set 0 (.int .i64 f)).set 1 (.int .i64 p)) Tryz.underlying30 rfl (by kernel_rfl)) rfl ?_
  exact ⟨rfl, Adds.set (Adds.set H3.out (Nat.le_refl _) 0 _) (Nat.le_refl _) 1 _⟩
/-- Parse: the site of a text. -/
theorem siteParse_any (l : List UInt8) (hl : l.length ≤ 1000000) (w : World) (hv : SVars w) :
    Calls Tryz.prog 15 #[.string (str l)] w fun e w' => e = .returned (rdV (parseT l)) ∧ Adds w w' := by
  cases h : readT l with
  | none => rw [parse_0 h]; exact siteParse_no l hl h w hv
  | some s =>
    by_cases he : txtS s = l
    · rw [parse_2 h he]; exact siteParse_yes l hl s h he w hv
    · rw [parse_1 h he]; exact siteParse_bad l hl s h he w hv
end Go.Proofs.YtoeoeeomnbggkaaGreatDoor
