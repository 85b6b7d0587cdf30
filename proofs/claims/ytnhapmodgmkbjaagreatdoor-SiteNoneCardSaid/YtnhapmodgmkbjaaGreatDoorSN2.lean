/- Add, Len of a set of pairs; New: contracts. -/
import Derived.Test.YtnhapmodgmkbjaaGreatDoorSF11
import Derived.Test.YtnhapmodgmkbjaaGreatDoorSN1
namespace Go.Proofs.YtnhapmodgmkbjaaGreatDoor
open Go Go.RowKit Go.Maps

set_option maxRecDepth 100000 in
theorem add_none (v : Value) (x : Pr) (w : World) (h : NoSet w v) :
    Calls Tryz.prog 8 #[v, prV x] w fun e w' => e = .returned (.tuple #[.bool false, .int .i64 1]) ∧ Gr w w' := by
  have HN := Lib.hid (isNoneS_no v (w.alloc (.cells (prC x).toArray 32)) (h.imp id (fun ⟨bp, h1, h2⟩ => ⟨bp, h1, ((Gr.new w _).adds.cell (World.block_lt_of_cell? w _ h2)).trans h2⟩)))
  obtain ⟨⟨f, p⟩, ⟨g, q⟩⟩ := x
  clear h
  go_enter Tryz.func8, Tryz.ntmps8
  go_wp2_with fail
  refine wp_scope_fwd 0 rfl ?_
  go_wp2_with (go_at_call 19; refine HN.out.mono ?_; rintro e w1 ⟨rfl, rfl⟩)
  go_step3
  refine ⟨rfl, ?_⟩
  go_wp2_with fail
  rw [Exit.noGoto_ret]
  go_ret2
  exact ⟨rfl, Gr.new _ _⟩
set_option maxRecDepth 100000 in
theorem add_bad (bp b : Nat) (v : Value) (L : List Pr) (x : Pr) (hm : mayP x = false) (w : World) (h : SetP w v bp b L) :
    Calls Tryz.prog 8 #[v, prV x] w fun e w' => e = .returned (.tuple #[.bool false, .int .i64 2]) ∧ Gr w w' := by
  obtain rfl := h.ptr
  have HN := Lib.hid (isNoneS_full bp b (w.alloc (.cells (prC x).toArray 32)) (h.adds (Gr.new w _).adds).c0)
  have HM := Lib.hid (may_any x)
  rw [hm] at HM
  obtain ⟨⟨f, p⟩, ⟨g, q⟩⟩ := x
  clear h hm
  go_enter Tryz.func8, Tryz.ntmps8
  go_wp2_with fail
  refine wp_scope_fwd 0 rfl ?_
  go_wp2_with (first
    | (go_at_call 19; refine HN.out.mono ?_; rintro e w1 ⟨rfl, rfl⟩)
    | (go_at_call 20; refine (HM.out _).mono ?_; rintro e w2 ⟨rfl, h2⟩; have H2 := Lib.hid ((Gr.new w _).trans h2); clear h2))
  go_step3
  refine ⟨rfl, ?_⟩
  go_wp2_with fail
  rw [Exit.noGoto_ret]
  go_ret2
  exact ⟨rfl, H2.out⟩
set_option maxRecDepth 100000 in
set_option maxHeartbeats 2000000 in
theorem add_yes (bp b : Nat) (v : Value) (L : List Pr) (x : Pr) (hx : okPr x) (hm : mayP x = true) (hl : L.length < 1000000) (w : World) (h : SetP w v bp b L) :
    Calls Tryz.prog 8 #[v, prV x] w fun e w' => e = .returned (.tuple #[.bool (decide (x ∉ L)), .int .i64 0]) ∧ SetP w' v bp b (if x ∈ L then L else x :: L) ∧ TnS b w w' := by
  have hmx : Tryz.prog.follows .mixedOrders = true := by kernel_rfl
  obtain rfl := h.ptr
  have HN := Lib.hid (isNoneS_full bp b (w.alloc (.cells (prC x).toArray 32)) (h.adds (Gr.new w _).adds).c0)
  have HM := Lib.hid (may_any x)
  rw [hm] at HM
  obtain ⟨L', hL'⟩ : ∃ L', (if x ∈ L then L else x :: L) = L' := ⟨_, rfl⟩
  obtain ⟨z, hz⟩ : ∃ z, decide (x ∉ L) = z := ⟨_, rfl⟩
  have HP := Lib.hid (show ∀ W, SetAt W b L → Calls Tryz.prog 21 #[.map (some b), prV x] W fun e w' => e = .returned (.bool z) ∧ SetAt w' b L' ∧ TnS b W w' from fun W hW => by
    by_cases hin : x ∈ L
    · rw [if_pos hin] at hL'
      have : z = false := by rw [← hz]; simp [hin]
      rw [← hL', this]
      exact (put_old b L x hx hin W hW).mono fun e w' ⟨h1, h2⟩ => ⟨h1, hW.adds h2.adds, TnS.of_adds b h2.adds⟩
    · rw [if_neg hin] at hL'
      have : z = true := by rw [← hz]; simp [hin]
      rw [← hL', this]
      exact put_new b L x hx hin hl W hW)
  rw [hL', hz]
  have HS := Lib.hid h
  obtain ⟨⟨f, p⟩, ⟨g, q⟩⟩ := x
  clear h hm hL' hz hx hl
  go_enter Tryz.func8, Tryz.ntmps8
  go_wp2_with fail
  refine wp_scope_fwd 0 rfl ?_
  go_wp2_with (first
    | (go_at_call 19; refine HN.out.mono ?_; rintro e w1 ⟨rfl, rfl⟩)
    | (go_at_call 20; refine (HM.out _).mono ?_; rintro e w2 ⟨rfl, h2⟩; have hb2 : BkS 32 w2 w.heap.size [.int .i64 f, .int .i64 p, .int .i64 g, .int .i64 q] := (BkS.new _ _ _).adds h2.adds; have c0 : w2.cell? ⟨w.heap.size, 0, none⟩ = some (.int .i64 f) := hb2.cell 0; have c1 : w2.cell? ⟨w.heap.size, 1, none⟩ = some (.int .i64 p) := hb2.cell 1; have c2 : w2.cell? ⟨w.heap.size, 2, none⟩ = some (.int .i64 g) := hb2.cell 2; have c3 : w2.cell? ⟨w.heap.size, 3, none⟩ = some (.int .i64 q) := hb2.cell 3; have hs2 := HS.out.adds ((Gr.new w _).trans h2).adds; have cb := hs2.c0; have HS2 := Lib.hid hs2; have H2 := Lib.hid ((Gr.new w _).trans h2); clear h2 hb2 hs2))
  obtain ⟨k0, hk0⟩ : ∃ k0, w.heap.size = k0 := ⟨_, rfl⟩
  rw [hk0] at c0 c1 c2 c3 ⊢
  clear hk0
  refine wp_calmS ?_
  go_region_with (go_at_call 21; refine (HP.out w2.drew (HS2.out.set.same rfl)).mono ?_; rintro e w3 ⟨rfl, s3, t3⟩; have S3 := Lib.hid s3; have T3 := Lib.hid (show TnS b w w3 from (TnS.of_adds b (Adds.trans H2.out.adds (Gr.drewn w2 1).adds)).trans t3); clear s3 t3)
  all_goals
    simp only [Exit.then]
    go_simp
    go_wp2_with fail
    simp only [Exit.jump]
    go_ret2
    exact ⟨rfl, HS.out.turn T3.out S3.out, T3.out⟩

set_option maxRecDepth 100000 in
theorem len_some (bp b : Nat) (v : Value) (L : List Pr) (w : World) (h : SetP w v bp b L) :
    Calls Tryz.prog 13 #[v] w fun e w' => e = .returned (.int .i64 ((L.length : Nat) : Int)) ∧ w = w' := by
  obtain rfl := h.ptr
  have HN := Lib.hid (isNoneS_full bp b w h.c0)
  have cb := h.c0
  have hl := h.set.len
  clear h
  go_enter Tryz.func13, Tryz.ntmps13
  go_wp2_with (go_at_call 19; refine HN.out.mono ?_; rintro e w1 ⟨rfl, rfl⟩)
  go_ret
  exact ⟨rfl, rfl⟩
set_option maxRecDepth 100000 in
theorem len_none (v : Value) (w : World) (h : NoSet w v) :
    Calls Tryz.prog 13 #[v] w fun e w' => e = .returned (.int .i64 0) ∧ w = w' := by
  have HN := Lib.hid (isNoneS_no v w h)
  clear h
  go_enter Tryz.func13, Tryz.ntmps13
  go_wp2_with (go_at_call 19; refine HN.out.mono ?_; rintro e w1 ⟨rfl, rfl⟩)
  go_ret
  exact ⟨rfl, rfl⟩
end Go.Proofs.YtnhapmodgmkbjaaGreatDoor
