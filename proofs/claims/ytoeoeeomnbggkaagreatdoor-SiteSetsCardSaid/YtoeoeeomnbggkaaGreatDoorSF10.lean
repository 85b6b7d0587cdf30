/- The pair of two sites: its contract. -/
import Derived.Test.YtoeoeeomnbggkaaGreatDoorSF9
namespace Go.Proofs.YtoeoeeomnbggkaaGreatDoor
open Go Go.RowKit Go.Shelf Go.Sort

def ofV (a b : Si) : Value := if (rightS a && rightS b) = true then .tuple #[prV (ofP a b), .int .i64 0] else .tuple #[prV ((0, 0), (0, 0)), .int .i64 2]
theorem may_at (f p g q : Int) (W : World) : Calls Tryz.prog 19 #[.agg #[.int .i64 f, .int .i64 p, .int .i64 g, .int .i64 q]] W fun e w' => e = .returned (.bool (mayP ((f, p), (g, q)))) ∧ Gr W w' := may_any ((f, p), (g, q)) W

set_option maxRecDepth 100000 in
set_option maxHeartbeats 4000000 in
theorem of_any (a b : Si) (w : World) : Calls Tryz.prog 17 #[siV a, siV b] w fun e w' => e = .returned (ofV a b) ∧ Adds w w' := by
  have hm := mayP_of a b
  unfold ofV
  obtain ⟨f, p⟩ := a
  obtain ⟨g, q⟩ := b
  obtain ⟨z, hz⟩ : ∃ z, ordS (f, p) (g, q) = z := ⟨_, rfl⟩
  have HO := Lib.hid (ord_at f p g q)
  rw [hz] at HO
  unfold ofP at hm ⊢
  rw [hz] at hm ⊢
  obtain ⟨k0, hk0⟩ : ∃ k0, w.heap.size = k0 := ⟨_, rfl⟩
  have HK0 := Lib.hid hk0
  have HNew := Lib.hid (show ∀ w2, Gr (((w.alloc (.cells #[.int .i64 f, .int .i64 p] 30)).alloc (.cells #[.int .i64 g, .int .i64 q] 30)).alloc (.cells #[.int .i64 0, .int .i64 0, .int .i64 0, .int .i64 0] 32)) w2 →
      BkS 30 w2 k0 [.int .i64 f, .int .i64 p] ∧ BkS 30 w2 (k0 + 1) [.int .i64 g, .int .i64 q] ∧ BkS 32 w2 (k0 + 1 + 1) [.int .i64 0, .int .i64 0, .int .i64 0, .int .i64 0] ∧ Adds w w2 by
    intro w2 h
    refine ⟨?_, ?_, ?_, ?_⟩
    · rw [← hk0]; exact (((BkS.new _ w _).adds (Gr.new _ _).adds).adds (Gr.new _ _).adds).adds h.adds
    · have := BkS.new 30 (w.alloc (.cells #[.int .i64 f, .int .i64 p] 30)) [.int .i64 g, .int .i64 q]
      rw [World.size_alloc, hk0] at this
      exact (this.adds (Gr.new _ _).adds).adds h.adds
    · have := BkS.new 32 ((w.alloc (.cells #[.int .i64 f, .int .i64 p] 30)).alloc (.cells #[.int .i64 g, .int .i64 q] 30)) [.int .i64 0, .int .i64 0, .int .i64 0, .int .i64 0]
      rw [World.size_alloc, World.size_alloc, hk0] at this
      exact this.adds h.adds
    · exact Adds.trans (((Gr.new w _).alloc _).alloc _).adds h.adds)
  clear hz
  by_cases hc : 0 < z
  · rw [if_pos hc] at hm ⊢
    have HM := Lib.hid (may_at g q f p)
    rw [hm] at HM
    cases hr : (rightS (f, p) && rightS (g, q))
    · rw [hr] at HM
      rw [if_neg (by simp)]
      clear hm hr
      go_enter Tryz.func17, Tryz.ntmps17
      go_wp2_with fail
      refine wp_scope_fwd 0 rfl ?_
      go_wp2_with (first
        | (go_at_call 33; refine (HO.out _).mono ?_; rintro e w2 ⟨rfl, h1⟩; obtain ⟨ba, bb, bc, bd⟩ := HNew.out _ h1; have c0 : w2.cell? ⟨k0, 0, none⟩ = some (.int .i64 f) := ba.cell 0; have c1 : w2.cell? ⟨k0, 1, none⟩ = some (.int .i64 p) := ba.cell 1; have c2 : w2.cell? ⟨k0 + 1, 0, none⟩ = some (.int .i64 g) := bb.cell 0; have c3 : w2.cell? ⟨k0 + 1, 1, none⟩ = some (.int .i64 q) := bb.cell 1; have f0 := ba.free 0; have f1 := ba.free 1; have f2 := bb.free 0; have f3 := bb.free 1; have BA := Lib.hid ba; have BB := Lib.hid bb; have BC := Lib.hid bc; have BD := Lib.hid bd; clear ba bb bc bd h1 hk0)
        | (go_at_call 19; refine (HM.out _).mono ?_; rintro e w3 ⟨rfl, h3⟩; have ba3 : BkS 30 w3 k0 [.int .i64 g, .int .i64 q] := ((((BA.out.set 0 (.int .i64 g)).set 1 (.int .i64 q)).other (by omega) _).other (by omega) _).adds h3.adds; have bb3 : BkS 30 w3 (k0 + 1) [.int .i64 f, .int .i64 p] := ((((BB.out.other (by omega) _).other (by omega) _).set 0 (.int .i64 f)).set 1 (.int .i64 p)).adds h3.adds; have bc3 : BkS 32 w3 (k0 + 1 + 1) [.int .i64 0, .int .i64 0, .int .i64 0, .int .i64 0] := ((((BC.out.other (by omega) _).other (by omega) _).other (by omega) _).other (by omega) _).adds h3.adds; have m0 : w3.cell? ⟨k0, 0, none⟩ = some (.int .i64 g) := ba3.cell 0; have m1 : w3.cell? ⟨k0, 1, none⟩ = some (.int .i64 q) := ba3.cell 1; have m2 : w3.cell? ⟨k0 + 1, 0, none⟩ = some (.int .i64 f) := bb3.cell 0; have m3 : w3.cell? ⟨k0 + 1, 1, none⟩ = some (.int .i64 p) := bb3.cell 1; have n0 : w3.cell? ⟨k0 + 1 + 1, 0, none⟩ = some (.int .i64 0) := bc3.cell 0; have n1 : w3.cell? ⟨k0 + 1 + 1, 1, none⟩ = some (.int .i64 0) := bc3.cell 1; have n2 : w3.cell? ⟨k0 + 1 + 1, 2, none⟩ = some (.int .i64 0) := bc3.cell 2; have n3 : w3.cell? ⟨k0 + 1 + 1, 3, none⟩ = some (.int .i64 0) := bc3.cell 3; have p0 := bc3.free 0; have p1 := bc3.free 1; have p2 := bc3.free 2; have p3 := bc3.free 3; have BC3 := Lib.hid bc3; have BD3 := Lib.hid (Adds.trans (Adds.set (Adds.set (Adds.set (Adds.set BD.out (Nat.le_of_eq HK0.out) 0 _) (Nat.le_of_eq HK0.out) 1 _) (by have := HK0.out; omega) 0 _) (by have := HK0.out; omega) 1 _) h3.adds); clear ba3 bb3 bc3 h3 c0 c1 c2 c3 f0 f1 f2 f3))
      go_step3
      refine ⟨rfl, ?_⟩
      go_wp2_with fail
      rw [Exit.noGoto_ret]
      refine bodyPost_ret (res_box2 rfl _ _ _ _ _ _ _ rfl ((((BC3.out.set 0 (.int .i64 0)).set 1 (.int .i64 0)).set 2 (.int .i64 0)).set 3 (.int .i64 0)) Tryz.underlying32 rfl (by kernel_rfl)) rfl ?_
      exact ⟨rfl, Adds.set (Adds.set (Adds.set (Adds.set BD3.out (by have := HK0.out; omega) 0 _) (by have := HK0.out; omega) 1 _) (by have := HK0.out; omega) 2 _) (by have := HK0.out; omega) 3 _⟩
    · rw [hr] at HM
      rw [if_pos rfl]
      clear hm hr
      go_enter Tryz.func17, Tryz.ntmps17
      go_wp2_with fail
      refine wp_scope_fwd 0 rfl ?_
      go_wp2_with (first
        | (go_at_call 33; refine (HO.out _).mono ?_; rintro e w2 ⟨rfl, h1⟩; obtain ⟨ba, bb, bc, bd⟩ := HNew.out _ h1; have c0 : w2.cell? ⟨k0, 0, none⟩ = some (.int .i64 f) := ba.cell 0; have c1 : w2.cell? ⟨k0, 1, none⟩ = some (.int .i64 p) := ba.cell 1; have c2 : w2.cell? ⟨k0 + 1, 0, none⟩ = some (.int .i64 g) := bb.cell 0; have c3 : w2.cell? ⟨k0 + 1, 1, none⟩ = some (.int .i64 q) := bb.cell 1; have f0 := ba.free 0; have f1 := ba.free 1; have f2 := bb.free 0; have f3 := bb.free 1; have BA := Lib.hid ba; have BB := Lib.hid bb; have BC := Lib.hid bc; have BD := Lib.hid bd; clear ba bb bc bd h1 hk0)
        | (go_at_call 19; refine (HM.out _).mono ?_; rintro e w3 ⟨rfl, h3⟩; have ba3 : BkS 30 w3 k0 [.int .i64 g, .int .i64 q] := ((((BA.out.set 0 (.int .i64 g)).set 1 (.int .i64 q)).other (by omega) _).other (by omega) _).adds h3.adds; have bb3 : BkS 30 w3 (k0 + 1) [.int .i64 f, .int .i64 p] := ((((BB.out.other (by omega) _).other (by omega) _).set 0 (.int .i64 f)).set 1 (.int .i64 p)).adds h3.adds; have bc3 : BkS 32 w3 (k0 + 1 + 1) [.int .i64 0, .int .i64 0, .int .i64 0, .int .i64 0] := ((((BC.out.other (by omega) _).other (by omega) _).other (by omega) _).other (by omega) _).adds h3.adds; have m0 : w3.cell? ⟨k0, 0, none⟩ = some (.int .i64 g) := ba3.cell 0; have m1 : w3.cell? ⟨k0, 1, none⟩ = some (.int .i64 q) := ba3.cell 1; have m2 : w3.cell? ⟨k0 + 1, 0, none⟩ = some (.int .i64 f) := bb3.cell 0; have m3 : w3.cell? ⟨k0 + 1, 1, none⟩ = some (.int .i64 p) := bb3.cell 1; have n0 : w3.cell? ⟨k0 + 1 + 1, 0, none⟩ = some (.int .i64 0) := bc3.cell 0; have n1 : w3.cell? ⟨k0 + 1 + 1, 1, none⟩ = some (.int .i64 0) := bc3.cell 1; have n2 : w3.cell? ⟨k0 + 1 + 1, 2, none⟩ = some (.int .i64 0) := bc3.cell 2; have n3 : w3.cell? ⟨k0 + 1 + 1, 3, none⟩ = some (.int .i64 0) := bc3.cell 3; have p0 := bc3.free 0; have p1 := bc3.free 1; have p2 := bc3.free 2; have p3 := bc3.free 3; have BC3 := Lib.hid bc3; have BD3 := Lib.hid (Adds.trans (Adds.set (Adds.set (Adds.set (Adds.set BD.out (Nat.le_of_eq HK0.out) 0 _) (Nat.le_of_eq HK0.out) 1 _) (by have := HK0.out; omega) 0 _) (by have := HK0.out; omega) 1 _) h3.adds); clear ba3 bb3 bc3 h3 c0 c1 c2 c3 f0 f1 f2 f3))
      simp only [Exit.jump]
      refine bodyPost_ret (res_box2 rfl _ _ _ _ _ _ _ rfl ((((BC3.out.set 0 (.int .i64 g)).set 1 (.int .i64 q)).set 2 (.int .i64 f)).set 3 (.int .i64 p)) Tryz.underlying32 rfl (by kernel_rfl)) rfl ?_
      exact ⟨rfl, Adds.set (Adds.set (Adds.set (Adds.set BD3.out (by have := HK0.out; omega) 0 _) (by have := HK0.out; omega) 1 _) (by have := HK0.out; omega) 2 _) (by have := HK0.out; omega) 3 _⟩
  · rw [if_neg hc] at hm ⊢
    have HM := Lib.hid (may_at f p g q)
    rw [hm] at HM
    cases hr : (rightS (f, p) && rightS (g, q))
    · rw [hr] at HM
      rw [if_neg (by simp)]
      clear hm hr
      go_enter Tryz.func17, Tryz.ntmps17
      go_wp2_with fail
      refine wp_scope_fwd 0 rfl ?_
      go_wp2_with (first
        | (go_at_call 33; refine (HO.out _).mono ?_; rintro e w2 ⟨rfl, h1⟩; obtain ⟨ba, bb, bc, bd⟩ := HNew.out _ h1; have c0 : w2.cell? ⟨k0, 0, none⟩ = some (.int .i64 f) := ba.cell 0; have c1 : w2.cell? ⟨k0, 1, none⟩ = some (.int .i64 p) := ba.cell 1; have c2 : w2.cell? ⟨k0 + 1, 0, none⟩ = some (.int .i64 g) := bb.cell 0; have c3 : w2.cell? ⟨k0 + 1, 1, none⟩ = some (.int .i64 q) := bb.cell 1; have f0 := ba.free 0; have f1 := ba.free 1; have f2 := bb.free 0; have f3 := bb.free 1; have BA := Lib.hid ba; have BB := Lib.hid bb; have BC := Lib.hid bc; have BD := Lib.hid bd; clear ba bb bc bd h1 hk0)
        | (go_at_call 19; refine (HM.out _).mono ?_; rintro e w3 ⟨rfl, h3⟩; have ba3 : BkS 30 w3 k0 [.int .i64 f, .int .i64 p] := BA.out.adds h3.adds; have bb3 : BkS 30 w3 (k0 + 1) [.int .i64 g, .int .i64 q] := BB.out.adds h3.adds; have bc3 : BkS 32 w3 (k0 + 1 + 1) [.int .i64 0, .int .i64 0, .int .i64 0, .int .i64 0] := BC.out.adds h3.adds; have m0 : w3.cell? ⟨k0, 0, none⟩ = some (.int .i64 f) := ba3.cell 0; have m1 : w3.cell? ⟨k0, 1, none⟩ = some (.int .i64 p) := ba3.cell 1; have m2 : w3.cell? ⟨k0 + 1, 0, none⟩ = some (.int .i64 g) := bb3.cell 0; have m3 : w3.cell? ⟨k0 + 1, 1, none⟩ = some (.int .i64 q) := bb3.cell 1; have n0 : w3.cell? ⟨k0 + 1 + 1, 0, none⟩ = some (.int .i64 0) := bc3.cell 0; have n1 : w3.cell? ⟨k0 + 1 + 1, 1, none⟩ = some (.int .i64 0) := bc3.cell 1; have n2 : w3.cell? ⟨k0 + 1 + 1, 2, none⟩ = some (.int .i64 0) := bc3.cell 2; have n3 : w3.cell? ⟨k0 + 1 + 1, 3, none⟩ = some (.int .i64 0) := bc3.cell 3; have p0 := bc3.free 0; have p1 := bc3.free 1; have p2 := bc3.free 2; have p3 := bc3.free 3; have BC3 := Lib.hid bc3; have BD3 := Lib.hid (Adds.trans BD.out h3.adds); clear ba3 bb3 bc3 h3 c0 c1 c2 c3 f0 f1 f2 f3))
      go_step3
      refine ⟨rfl, ?_⟩
      go_wp2_with fail
      rw [Exit.noGoto_ret]
      refine bodyPost_ret (res_box2 rfl _ _ _ _ _ _ _ rfl ((((BC3.out.set 0 (.int .i64 0)).set 1 (.int .i64 0)).set 2 (.int .i64 0)).set 3 (.int .i64 0)) Tryz.underlying32 rfl (by kernel_rfl)) rfl ?_
      exact ⟨rfl, Adds.set (Adds.set (Adds.set (Adds.set BD3.out (by have := HK0.out; omega) 0 _) (by have := HK0.out; omega) 1 _) (by have := HK0.out; omega) 2 _) (by have := HK0.out; omega) 3 _⟩
    · rw [hr] at HM
      rw [if_pos rfl]
      clear hm hr
      go_enter Tryz.func17, Tryz.ntmps17
      go_wp2_with fail
      refine wp_scope_fwd 0 rfl ?_
      go_wp2_with (first
        | (go_at_call 33; refine (HO.out _).mono ?_; rintro e w2 ⟨rfl, h1⟩; obtain ⟨ba, bb, bc, bd⟩ := HNew.out _ h1; have c0 : w2.cell? ⟨k0, 0, none⟩ = some (.int .i64 f) := ba.cell 0; have c1 : w2.cell? ⟨k0, 1, none⟩ = some (.int .i64 p) := ba.cell 1; have c2 : w2.cell? ⟨k0 + 1, 0, none⟩ = some (.int .i64 g) := bb.cell 0; have c3 : w2.cell? ⟨k0 + 1, 1, none⟩ = some (.int .i64 q) := bb.cell 1; have f0 := ba.free 0; have f1 := ba.free 1; have f2 := bb.free 0; have f3 := bb.free 1; have BA := Lib.hid ba; have BB := Lib.hid bb; have BC := Lib.hid bc; have BD := Lib.hid bd; clear ba bb bc bd h1 hk0)
        | (go_at_call 19; refine (HM.out _).mono ?_; rintro e w3 ⟨rfl, h3⟩; have ba3 : BkS 30 w3 k0 [.int .i64 f, .int .i64 p] := BA.out.adds h3.adds; have bb3 : BkS 30 w3 (k0 + 1) [.int .i64 g, .int .i64 q] := BB.out.adds h3.adds; have bc3 : BkS 32 w3 (k0 + 1 + 1) [.int .i64 0, .int .i64 0, .int .i64 0, .int .i64 0] := BC.out.adds h3.adds; have m0 : w3.cell? ⟨k0, 0, none⟩ = some (.int .i64 f) := ba3.cell 0; have m1 : w3.cell? ⟨k0, 1, none⟩ = some (.int .i64 p) := ba3.cell 1; have m2 : w3.cell? ⟨k0 + 1, 0, none⟩ = some (.int .i64 g) := bb3.cell 0; have m3 : w3.cell? ⟨k0 + 1, 1, none⟩ = some (.int .i64 q) := bb3.cell 1; have n0 : w3.cell? ⟨k0 + 1 + 1, 0, none⟩ = some (.int .i64 0) := bc3.cell 0; have n1 : w3.cell? ⟨k0 + 1 + 1, 1, none⟩ = some (.int .i64 0) := bc3.cell 1; have n2 : w3.cell? ⟨k0 + 1 + 1, 2, none⟩ = some (.int .i64 0) := bc3.cell 2; have n3 : w3.cell? ⟨k0 + 1 + 1, 3, none⟩ = some (.int .i64 0) := bc3.cell 3; have p0 := bc3.free 0; have p1 := bc3.free 1; have p2 := bc3.free 2; have p3 := bc3.free 3; have BC3 := Lib.hid bc3; have BD3 := Lib.hid (Adds.trans BD.out h3.adds); clear ba3 bb3 bc3 h3 c0 c1 c2 c3 f0 f1 f2 f3))
      simp only [Exit.jump]
      refine bodyPost_ret (res_box2 rfl _ _ _ _ _ _ _ rfl ((((BC3.out.set 0 (.int .i64 f)).set 1 (.int .i64 p)).set 2 (.int .i64 g)).set 3 (.int .i64 q)) Tryz.underlying32 rfl (by kernel_rfl)) rfl ?_
      exact ⟨rfl, Adds.set (Adds.set (Adds.set (Adds.set BD3.out (by have := HK0.out; omega) 0 _) (by have := HK0.out; omega) 1 _) (by have := HK0.out; omega) 2 _) (by have := HK0.out; omega) 3 _⟩
end Go.Proofs.YtoeoeeomnbggkaaGreatDoor
