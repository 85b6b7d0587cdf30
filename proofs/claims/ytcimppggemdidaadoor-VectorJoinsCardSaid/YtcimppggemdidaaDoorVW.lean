/- The chapter's rows hold. -/
import Derived.Test.YtcimppggemdidaaDoorVF2
import Derived.Test.YtcimppggemdidaaDoorVT1
namespace Go.Proofs.YtcimppggemdidaaDoor
open Go Go.RowKit

/-- A literal of clocks, in a block of its own. -/
theorem lit_w (W : World) (l : List UInt64) (hl : l.length ≤ 1000) : Words (W.heap.size + 1) (W.alloc (.cells (l.map wordV).toArray 26)) (.slice (some ⟨W.heap.size, 0, none⟩) l.length l.length) l :=
  ⟨_, _, rfl, Nat.le_refl _, by unfold maxLen; omega, fun _ => ⟨W.heap.size, 0, rfl, by omega, fun i hi => by simp [hi]⟩⟩
theorem listsW_3 {n : Nat} (w : World) (u v x : Value) (a b c : List UInt64) (hu : Words n w u a) (hv : Words n w v b) (hx : Words n w x c) : ListsW (w.heap.size + 1) (w.alloc (.cells #[u, v, x] 48)) (.slice (some ⟨w.heap.size, 0, none⟩) 3 3) [a, b, c] := by
  refine ⟨_, 3, rfl, by simp, by simp [maxLen], fun _ => ⟨w.heap.size, 0, rfl, by omega, fun i hi => ?_⟩⟩
  have e : ∀ {y : Value} {l : List UInt64}, Words n w y l → Words (w.heap.size + 1) (w.alloc (.cells #[u, v, x] 48)) y l := fun h => (h.here.below (Adds.new _ _)).mono (by omega)
  match i, hi with
  | 0, _ => exact ⟨u, by simp, e hu⟩
  | 1, _ => exact ⟨v, by simp, e hv⟩
  | 2, _ => exact ⟨x, by simp, e hx⟩
set_option maxHeartbeats 400000 in
theorem num4_any (x : Int) (w : World) :
    Calls Tryd.prog 27 #[.int .i64 x] w fun e w' => e = .returned (.int .i64 x) ∧ w = w' := by
  go_enter Tryd.func27, Tryd.ntmps27
  go_wp2
  go_ret
  exact ⟨rfl, rfl⟩
theorem wk_tick1 : TickYes [1] 2 9 2 := ⟨rfl, by decide, by decide, by decide, by decide, by decide, by decide⟩
theorem wk_tick2 : TickNo [1] 0 1 130 := .inr ⟨1, by decide, .inl ⟨0, rfl, by decide, by decide, by decide, by decide, rfl⟩, .inr (.inl ⟨by decide, by decide, rfl, rfl⟩), .inr rfl⟩

/-- What a call hands out, read. -/
def GivesW (l : List UInt64) (w : World) (e : Ending) (w' : World) : Prop := ∃ ao cap, e = .returned (.slice ao l.length cap) ∧ Words w'.heap.size w' (.slice ao l.length cap) l ∧ Adds w w'
theorem litA (W : World) (l : List UInt64) (hl : l.length ≤ 1000) : Words (W.alloc (.cells (l.map wordV).toArray 26)).heap.size (W.alloc (.cells (l.map wordV).toArray 26)) (.slice (some ⟨W.heap.size, 0, none⟩) l.length l.length) l := (lit_w W l hl).here
theorem litB (W : World) (l : List UInt64) (k : Nat) (hk : k = W.heap.size) (hl : l.length ≤ 1000) : Words (W.alloc (.cells (l.map wordV).toArray 26)).heap.size (W.alloc (.cells (l.map wordV).toArray 26)) (.slice (some ⟨k, 0, none⟩) l.length l.length) l := hk ▸ litA W l hl
theorem w_join (w : World) : Calls Tryd.prog 39 #[.slice (some ⟨w.heap.size + 1 + 1 + 1, 0, none⟩) 3 3] ((((w.alloc (.cells #[.int .u64 1, .int .u64 5] 26)).alloc (.cells #[.int .u64 3] 26)).alloc (.cells #[.int .u64 0, .int .u64 0, .int .u64 2, .int .u64 0] 26)).alloc (.cells #[.slice (some ⟨w.heap.size, 0, none⟩) 2 2, .slice (some ⟨w.heap.size + 1, 0, none⟩) 1 1, .slice (some ⟨w.heap.size + 1 + 1, 0, none⟩) 4 4] 48)) (GivesW [3, 5, 2] w) := by
  have b1 : Words (w.alloc (.cells #[.int .u64 1, .int .u64 5] 26)).heap.size (w.alloc (.cells #[.int .u64 1, .int .u64 5] 26)) (.slice (some ⟨w.heap.size, 0, none⟩) 2 2) [1, 5] := litA w [1, 5] (by decide)
  have b2 : Words ((w.alloc (.cells #[.int .u64 1, .int .u64 5] 26)).alloc (.cells #[.int .u64 3] 26)).heap.size ((w.alloc (.cells #[.int .u64 1, .int .u64 5] 26)).alloc (.cells #[.int .u64 3] 26)) (.slice (some ⟨w.heap.size + 1, 0, none⟩) 1 1) [3] := litB (w.alloc (.cells #[.int .u64 1, .int .u64 5] 26)) [3] (w.heap.size + 1) (by simp) (by decide)
  have b3 : Words (((w.alloc (.cells #[.int .u64 1, .int .u64 5] 26)).alloc (.cells #[.int .u64 3] 26)).alloc (.cells #[.int .u64 0, .int .u64 0, .int .u64 2, .int .u64 0] 26)).heap.size (((w.alloc (.cells #[.int .u64 1, .int .u64 5] 26)).alloc (.cells #[.int .u64 3] 26)).alloc (.cells #[.int .u64 0, .int .u64 0, .int .u64 2, .int .u64 0] 26)) (.slice (some ⟨w.heap.size + 1 + 1, 0, none⟩) 4 4) [0, 0, 2, 0] := litB ((w.alloc (.cells #[.int .u64 1, .int .u64 5] 26)).alloc (.cells #[.int .u64 3] 26)) [0, 0, 2, 0] (w.heap.size + 1 + 1) (by simp) (by decide)
  have hL := listsW_3 (((w.alloc (.cells #[.int .u64 1, .int .u64 5] 26)).alloc (.cells #[.int .u64 3] 26)).alloc (.cells #[.int .u64 0, .int .u64 0, .int .u64 2, .int .u64 0] 26)) _ _ _ _ _ _ ((b1.adds (Adds.new _ _)).adds (Adds.new _ _)) (b2.adds (Adds.new _ _)) b3
  rw [World.size_alloc, World.size_alloc, World.size_alloc] at hL
  refine (join_any _ [[1, 5], [3], [0, 0, 2, 0]] _ hL (by intro c hc; simp at hc; rcases hc with rfl | rfl | rfl <;> decide)).mono ?_
  rintro e w' ⟨v', rfl, o, a⟩
  have hj : vJoin [[1, 5], [3], [0, 0, 2, 0]] = [3, 5, 2] := by decide
  rw [hj] at o
  obtain ⟨ao, cap, rfl⟩ := o.isSlice
  exact ⟨ao, cap, rfl, o.words, (((Adds.new _ _).trans (Adds.new _ _)).trans (Adds.new _ _)).trans ((Adds.new _ _).trans a)⟩
theorem w_tick1 (w : World) : Calls Tryd.prog 37 #[.slice (some ⟨w.heap.size, 0, none⟩) 1 1, .int .i64 2, .int .u64 9] (w.alloc (.cells #[.int .u64 1] 26)) fun e w' => ∃ ao cap, e = .returned (.tuple #[.slice ao 3 cap, .int .i64 0]) ∧ Words w'.heap.size w' (.slice ao 3 cap) [1, 0, 1] ∧ Adds w w' := by
  refine (tick_yes _ [1] 2 9 2 (by decide) wk_tick1 _ (litA w [1] (by decide)) (by decide)).mono ?_
  rintro e w' ⟨v', rfl, o, a⟩
  have hj : vTickL [1] 2 = [1, 0, 1] := by decide
  rw [hj] at o
  obtain ⟨ao, cap, rfl⟩ := o.isSlice
  exact ⟨ao, cap, rfl, o.words, (Adds.new _ _).trans a⟩
theorem w_tick2 (w : World) : Calls Tryd.prog 37 #[.slice (some ⟨w.heap.size, 0, none⟩) 1 1, .int .i64 0, .int .u64 1] (w.alloc (.cells #[.int .u64 1] 26)) fun e w' => e = .returned (.tuple #[.slice none 0 0, .int .i64 130]) ∧ Adds w w' :=
  (tick_no _ [1] 0 130 1 (by decide) wk_tick2 _ (litA w [1] (by decide))).mono fun e w' h => ⟨h.1, (Adds.new _ _).trans h.2⟩
theorem w_pack1 (w : World) : Calls Tryd.prog 60 #[.int .i64 1, .int .u64 5] w fun e w' => e = .returned (.tuple #[.int .u64 281474976710661, .int .i64 0]) ∧ w = w' := refPack_yes 1 5 (by decide) (by decide) w
theorem w_pack2 (w : World) : Calls Tryd.prog 60 #[.int .i64 2, .int .u64 1] w fun e w' => e = .returned (.tuple #[.int .u64 562949953421313, .int .i64 0]) ∧ w = w' := refPack_yes 2 1 (by decide) (by decide) w
theorem w_eq1 (w : World) (ao : Option Addr) (cap : Nat) (h : Words w.heap.size w (.slice ao 3 cap) [3, 5, 2]) : Calls Tryd.prog 30 #[.slice ao 3 cap, .slice (some ⟨w.heap.size, 0, none⟩) 3 3] (w.alloc (.cells #[.int .u64 3, .int .u64 5, .int .u64 2] 26)) fun e w' => e = .returned (.bool true) ∧ Adds w w' :=
  (refEqual_any _ _ [3, 5, 2] [3, 5, 2] _ (h.adds (Adds.new _ _)) (litA w [3, 5, 2] (by decide))).mono fun e w' h => ⟨h.1.trans (by rw [eqB_self]), (Adds.new _ _).trans h.2⟩
theorem w_eq2 (w : World) (ao : Option Addr) (cap : Nat) (h : Words w.heap.size w (.slice ao 1 cap) [1]) : Calls Tryd.prog 30 #[.slice ao 1 cap, .slice (some ⟨w.heap.size, 0, none⟩) 1 1] (w.alloc (.cells #[.int .u64 1] 26)) fun e w' => e = .returned (.bool true) ∧ Adds w w' :=
  (refEqual_any _ _ [1] [1] _ (h.adds (Adds.new _ _)) (litA w [1] (by decide))).mono fun e w' h => ⟨h.1.trans (by rw [eqB_self]), (Adds.new _ _).trans h.2⟩
theorem w_eq3 (w : World) (ao : Option Addr) (cap : Nat) (h : Words w.heap.size w (.slice ao 3 cap) [1, 0, 1]) : Calls Tryd.prog 30 #[.slice ao 3 cap, .slice (some ⟨w.heap.size, 0, none⟩) 3 3] (w.alloc (.cells #[.int .u64 1, .int .u64 0, .int .u64 1] 26)) fun e w' => e = .returned (.bool true) ∧ Adds w w' :=
  (refEqual_any _ _ [1, 0, 1] [1, 0, 1] _ (h.adds (Adds.new _ _)) (litA w [1, 0, 1] (by decide))).mono fun e w' h => ⟨h.1.trans (by rw [eqB_self]), (Adds.new _ _).trans h.2⟩
theorem w_trim (w : World) : Calls Tryd.prog 31 #[.slice (some ⟨w.heap.size, 0, none⟩) 3 3] (w.alloc (.cells #[.int .u64 1, .int .u64 0, .int .u64 0] 26)) (GivesW [1] w) := by
  refine (trim_any _ [1, 0, 0] _ (litA w [1, 0, 0] (by decide)) (by decide)).mono ?_
  rintro e w' ⟨v', rfl, o, a⟩
  have hj : vTrim [1, 0, 0] = [1] := by decide
  rw [hj] at o
  obtain ⟨ao, cap, rfl⟩ := o.isSlice
  exact ⟨ao, cap, rfl, o.words, (Adds.new _ _).trans a⟩
theorem w_st1 (w : World) (hw : How w) : Calls Tryd.prog 41 #[.slice (some ⟨w.heap.size, 0, none⟩) 2 2, .slice (some ⟨w.heap.size + 1, 0, none⟩) 2 2] ((w.alloc (.cells #[.int .u64 1, .int .u64 5] 26)).alloc (.cells #[.int .u64 1, .int .u64 6] 26)) fun e w' => e = .returned (.int .i64 2) ∧ Adds w w' := by
  have b1 : Words (w.alloc (.cells #[.int .u64 1, .int .u64 5] 26)).heap.size (w.alloc (.cells #[.int .u64 1, .int .u64 5] 26)) (.slice (some ⟨w.heap.size, 0, none⟩) 2 2) [1, 5] := litA w [1, 5] (by decide)
  have b2 : Words ((w.alloc (.cells #[.int .u64 1, .int .u64 5] 26)).alloc (.cells #[.int .u64 1, .int .u64 6] 26)).heap.size ((w.alloc (.cells #[.int .u64 1, .int .u64 5] 26)).alloc (.cells #[.int .u64 1, .int .u64 6] 26)) (.slice (some ⟨w.heap.size + 1, 0, none⟩) 2 2) [1, 6] := litB (w.alloc (.cells #[.int .u64 1, .int .u64 5] 26)) [1, 6] (w.heap.size + 1) (by simp) (by decide)
  have hs : standI [1, 5] [1, 6] = 2 := by decide
  refine (stands_any _ _ [1, 5] [1, 6] _ (b1.adds (Adds.new _ _)) b2 ((hw.adds (Adds.new _ _)).adds (Adds.new _ _))).mono fun e w' h => ⟨h.1.trans (by rw [hs]), ((Adds.new _ _).trans (Adds.new _ _)).trans h.2⟩
theorem w_st2 (w : World) (hw : How w) : Calls Tryd.prog 41 #[.slice (some ⟨w.heap.size, 0, none⟩) 1 1, .slice (some ⟨w.heap.size + 1, 0, none⟩) 2 2] ((w.alloc (.cells #[.int .u64 1] 26)).alloc (.cells #[.int .u64 0, .int .u64 1] 26)) fun e w' => e = .returned (.int .i64 4) ∧ Adds w w' := by
  have b1 : Words (w.alloc (.cells #[.int .u64 1] 26)).heap.size (w.alloc (.cells #[.int .u64 1] 26)) (.slice (some ⟨w.heap.size, 0, none⟩) 1 1) [1] := litA w [1] (by decide)
  have b2 : Words ((w.alloc (.cells #[.int .u64 1] 26)).alloc (.cells #[.int .u64 0, .int .u64 1] 26)).heap.size ((w.alloc (.cells #[.int .u64 1] 26)).alloc (.cells #[.int .u64 0, .int .u64 1] 26)) (.slice (some ⟨w.heap.size + 1, 0, none⟩) 2 2) [0, 1] := litB (w.alloc (.cells #[.int .u64 1] 26)) [0, 1] (w.heap.size + 1) (by simp) (by decide)
  have hs : standI [1] [0, 1] = 4 := by decide
  refine (stands_any _ _ [1] [0, 1] _ (b1.adds (Adds.new _ _)) b2 ((hw.adds (Adds.new _ _)).adds (Adds.new _ _))).mono fun e w' h => ⟨h.1.trans (by rw [hs]), ((Adds.new _ _).trans (Adds.new _ _)).trans h.2⟩
theorem w_has1 (w : World) : Calls Tryd.prog 35 #[.slice (some ⟨w.heap.size, 0, none⟩) 2 2, .int .u64 281474976710661] (w.alloc (.cells #[.int .u64 1, .int .u64 5] 26)) fun e w' => e = .returned (.bool true) ∧ Adds w w' := by
  have hs : hasB [1, 5] 281474976710661 = true := by decide
  exact (has_any _ [1, 5] 281474976710661 (by decide) _ (litA w [1, 5] (by decide))).mono fun e w' h => ⟨h.1.trans (by rw [hs]), (Adds.new _ _).trans h.2⟩
theorem w_has2 (w : World) : Calls Tryd.prog 35 #[.slice (some ⟨w.heap.size, 0, none⟩) 2 2, .int .u64 562949953421313] (w.alloc (.cells #[.int .u64 1, .int .u64 5] 26)) fun e w' => e = .returned (.bool false) ∧ Adds w w' := by
  have hs : hasB [1, 5] 562949953421313 = false := by decide
  exact (has_any _ [1, 5] 562949953421313 (by decide) _ (litA w [1, 5] (by decide))).mono fun e w' h => ⟨h.1.trans (by rw [hs]), (Adds.new _ _).trans h.2⟩

set_option maxRecDepth 100000 in
set_option maxHeartbeats 4000000 in
theorem works4_any (w : World) (hw : How w) : Calls Tryd.prog 24 #[] w (TrueAdds w) := by
  have HW := Lib.hid hw; clear hw
  go_enter Tryd.func24, Tryd.ntmps24
  go_wp2_with fail
  refine (w_join w).mono ?_
  rintro e w1 ⟨a1, c1, rfl, j1, h1⟩
  have J1 := Lib.hid j1; have A1 := Lib.hid h1; clear j1 h1
  go_wp2_with fail
  refine (w_tick1 w1).mono ?_
  rintro e w2 ⟨a2, c2, rfl, j2, h2⟩
  have J2 := Lib.hid j2; have A2 := Lib.hid (A1.out.trans h2); have J12 := Lib.hid (J1.out.adds h2); clear j2 h2
  go_wp2_with fail
  refine (w_tick2 w2).mono ?_
  rintro e w3 ⟨rfl, h3⟩
  have A3 := Lib.hid (A2.out.trans h3); have J13 := Lib.hid (J12.out.adds h3); have J23 := Lib.hid (J2.out.adds h3); clear h3
  go_wp2_with fail
  refine (w_pack1 w3).mono ?_
  rintro e w' ⟨rfl, rfl⟩
  go_wp2_with fail
  refine (w_pack2 w3).mono ?_
  rintro e w' ⟨rfl, rfl⟩
  go_wp2_with fail
  refine (w_eq1 w3 _ _ J13.out).mono ?_
  rintro e w4 ⟨rfl, h4⟩
  have A4 := Lib.hid (A3.out.trans h4); have J24 := Lib.hid (J23.out.adds h4); clear h4
  go_wp2_with fail
  refine (w_trim w4).mono ?_
  rintro e w5 ⟨a5, c5, rfl, j5, h5⟩
  have J5 := Lib.hid j5; have A5 := Lib.hid (A4.out.trans h5); have J25 := Lib.hid (J24.out.adds h5); clear j5 h5
  go_wp2_with fail
  refine (w_eq2 w5 _ _ J5.out).mono ?_
  rintro e w6 ⟨rfl, h6⟩
  have A6 := Lib.hid (A5.out.trans h6); have J26 := Lib.hid (J25.out.adds h6); clear h6
  go_wp2_with fail
  refine (w_st1 w6 (HW.out.adds A6.out)).mono ?_
  rintro e w7 ⟨rfl, h7⟩
  have A7 := Lib.hid (A6.out.trans h7); have J27 := Lib.hid (J26.out.adds h7); clear h7
  go_wp2_with fail
  refine (w_st2 w7 (HW.out.adds A7.out)).mono ?_
  rintro e w8 ⟨rfl, h8⟩
  have A8 := Lib.hid (A7.out.trans h8); have J28 := Lib.hid (J27.out.adds h8); clear h8
  go_wp2_with fail
  refine (w_has1 w8).mono ?_
  rintro e w9 ⟨rfl, h9⟩
  have A9 := Lib.hid (A8.out.trans h9); have J29 := Lib.hid (J28.out.adds h9); clear h9
  go_wp2_with fail
  refine (w_has2 w9).mono ?_
  rintro e w10 ⟨rfl, h10⟩
  have A10 := Lib.hid (A9.out.trans h10); have J210 := Lib.hid (J29.out.adds h10); clear h10
  go_wp2_with fail
  refine (w_eq3 w10 _ _ J210.out).mono ?_
  rintro e w11 ⟨rfl, h11⟩
  have A11 := Lib.hid (A10.out.trans h11); clear h11
  go_wp2_with (go_at_call 27; refine (num4_any _ _).mono ?_; rintro e w' ⟨rfl, rfl⟩)
  go_ret
  exact ⟨rfl, A11.out⟩
end Go.Proofs.YtcimppggemdidaaDoor
