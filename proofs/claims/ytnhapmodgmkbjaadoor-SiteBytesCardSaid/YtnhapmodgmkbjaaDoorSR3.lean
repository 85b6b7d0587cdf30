/- The document's bytes of a site, and back: contracts. -/
import Derived.Test.YtnhapmodgmkbjaaDoorW8
import Derived.Test.YtnhapmodgmkbjaaDoorSF8
import Derived.Test.YtnhapmodgmkbjaaDoorSF11
import Derived.Test.YtnhapmodgmkbjaaDoorSR1
namespace Go.Proofs.YtnhapmodgmkbjaaDoor
open Go Go.RowKit Go.Shelf Go.Sort

theorem ref7_right (f p : Int) (W : World) : Calls Tryd.prog 11 #[.agg #[.int .i64 f, .int .i64 p]] W fun e w' => e = .returned (.bool (rightS (f, p))) ∧ Gr W w' := refRight_any (f, p) W
set_option maxRecDepth 100000 in
set_option maxHeartbeats 2000000 in
theorem refRead_short {n : Nat} (v : Value) (l : List UInt8) (hl : l.length < 3) (w : World) (hb : Bytes n w v l) :
    Calls Tryd.prog 16 #[v] w fun e w' => e = .returned (.tuple #[siV (0, 0), .int .i64 110]) ∧ Adds w w' := by
  obtain ⟨ao, cap, rfl, h1, h2, h3⟩ := hb
  unfold maxLen at h2
  clear h3
  go_enter Tryd.func16, Tryd.ntmps16
  go_wp2
  refine bodyPost_ret (res_box2 rfl _ _ _ _ _ _ _ rfl (heap_new _ _) Tryd.underlying23 rfl (by kernel_rfl)) rfl ?_
  exact ⟨rfl, (Gr.new _ _).adds⟩
set_option maxRecDepth 100000 in
set_option maxHeartbeats 4000000 in
theorem refRead_long {n : Nat} (v : Value) (l : List UInt8) (hl : 3 ≤ l.length) (w : World) (hn : n ≤ w.heap.size) (hb : Bytes n w v l) :
    Calls Tryd.prog 16 #[v] w fun e w' => e = .returned (rbV l) ∧ Adds w w' := by
  have hb0 := hb
  obtain ⟨ao, cap, rfl, h1, h2, h3⟩ := hb
  obtain ⟨b, off, rfl, hbn, hc⟩ := h3 (by rintro rfl; simp at hl)
  have hsl : ∀ W, (Instr.slice 37 (.slice (some ⟨b, off, none⟩) l.length cap) (some (.int .i64 1)) none none).run Tryd.prog W = .ok _ W := fun W => slice_from7 (some ⟨b, off, none⟩) l.length cap 1 (by omega) W
  have HS := Lib.hid (fun (W : World) (h : Adds w W) => rest_bytes (hb0.below (h.mono hn)) (show 1 ≤ l.length by omega))
  obtain ⟨S, hS⟩ : ∃ S, Value.slice (if cap = 1 then some (⟨b, off, none⟩ : Addr) else (some (⟨b, off, none⟩ : Addr)).map (·.add (1 * 1))) (l.length - 1) (cap - 1) = S := ⟨_, rfl⟩
  rw [hS] at HS hsl
  have hne : rfE (l.drop 1) 2 = 0 := by unfold rfE; rw [if_pos (by decide), if_neg (by simp; omega)]
  have hnn : rfN (l.drop 1) 2 = unB ((l.drop 1).take 2) := by unfold rfN; rw [if_pos hne]; rfl
  have HR := Lib.hid (fun (W : World) (h : Adds w W) => refReadFixed_any S (l.drop 1) 2 W (HS.out W h))
  rw [hne, hnn] at HR
  have hlt : unB ((l.drop 1).take 2) < 65536 := by
    have h4 := unB_lt ((l.drop 1).take 2)
    have h5 : ((l.drop 1).take 2).length = 2 := by simp; omega
    rw [h5] at h4
    omega
  have h6 : unB (l.take 1) = (l.getD 0 0).toNat := by
    cases l with
    | nil => simp at hl
    | cons x t => simp [unB]
  have hv : rbV l = if rightS (siteB l) = true then .tuple #[siV (siteB l), .int .i64 0] else .tuple #[siV (0, 0), .int .i64 170] := by
    unfold rbV
    by_cases h : rightS (siteB l) = true
    · rw [readB_1 hl h, if_pos h]
    · rw [readB_2 hl h, if_neg h]
  have hst : siteB l = (((l.getD 0 0).toNat : Int), ((unB ((l.drop 1).take 2) : Nat) : Int)) := by unfold siteB; rw [h6]
  rw [hst] at hv
  have HC0 := Lib.hid (fun (W : World) (h : Adds w W) => (show W.cell? ⟨b, off, none⟩ = some (.int .u8 ((l.getD 0 0).toNat : Int)) from (h.cell (p := ⟨b, off, none⟩) (Nat.lt_of_lt_of_le hbn hn)).trans (hc 0 (by omega))))
  have hx := (l.getD 0 0).toNat_lt
  obtain ⟨X, hX⟩ : ∃ X : Int, (((l.getD 0 0).toNat : Nat) : Int) = X := ⟨_, rfl⟩
  obtain ⟨N, hN⟩ : ∃ N : Int, ((unB ((l.drop 1).take 2) : Nat) : Int) = N := ⟨_, rfl⟩
  have hx0 : 0 ≤ X := by omega
  have hx1 : X < 256 := by omega
  have hn0 : 0 ≤ N := by omega
  have hn1 : N < 65536 := by omega
  have e1 : IntKind.i64.wrap X = X := by rw [IntKind.wrap_i64]; omega
  have e2 : IntKind.i64.wrap N = N := by rw [IntKind.wrap_i64]; omega
  rw [hX] at HC0
  rw [hN] at HR
  rw [hX, hN] at hv
  have HRt := Lib.hid (ref7_right X N)
  have hlI : (3 : Int) ≤ (l.length : Int) := by omega
  have HBl := Lib.hid (Nat.lt_of_lt_of_le hbn hn)
  unfold maxLen at h2
  clear hb0 hc hS hne hnn hlt h6 hst hx hX hN hx0 hx1 hn0 hn1 hl h3 hbn hn HS
  cases hr : rightS (X, N)
  · rw [hr] at HRt hv
    rw [if_neg (by simp)] at hv
    rw [hv]
    clear hv hr
    have cz := HC0.out _ (Gr.new w (.cells #[.int .i64 0, .int .i64 0] 23)).adds
    have hbl := HBl.out
    go_enter Tryd.func16, Tryd.ntmps16
    go_wp2_with (first
      | (go_at_call 32; refine (HR.out _ (Gr.new w _).adds).mono ?_; rintro e w2 ⟨rfl, rfl⟩)
      | (go_at_call 11; refine (HRt.out _).mono ?_; rintro e w3 ⟨rfl, h3⟩; have b3 : BkS 23 w3 w.heap.size [.int .i64 0, .int .i64 0] := ((BkS.new _ _ _).adds (Gr.new _ _).adds).adds h3.adds; have d0 : w3.cell? ⟨w.heap.size, 0, none⟩ = some (.int .i64 0) := b3.cell 0; have d1 : w3.cell? ⟨w.heap.size, 1, none⟩ = some (.int .i64 0) := b3.cell 1; have f0 := b3.free 0; have f1 := b3.free 1; have B3 := Lib.hid b3; have H3 := Lib.hid (((Gr.new w _).alloc _).trans h3).adds; clear b3 h3))
    refine bodyPost_ret (res_box2 rfl _ _ _ _ _ _ _ rfl ((B3.out.set 0 (.int .i64 0)).set 1 (.int .i64 0)) Tryd.underlying23 rfl (by kernel_rfl)) rfl ?_
    exact ⟨rfl, Adds.set (Adds.set H3.out (Nat.le_refl _) 0 _) (Nat.le_refl _) 1 _⟩
  · rw [hr] at HRt hv
    rw [if_pos rfl] at hv
    rw [hv]
    clear hv hr
    have cz := HC0.out _ (Gr.new w (.cells #[.int .i64 0, .int .i64 0] 23)).adds
    have hbl := HBl.out
    go_enter Tryd.func16, Tryd.ntmps16
    go_wp2_with (first
      | (go_at_call 32; refine (HR.out _ (Gr.new w _).adds).mono ?_; rintro e w2 ⟨rfl, rfl⟩)
      | (go_at_call 11; refine (HRt.out _).mono ?_; rintro e w3 ⟨rfl, h3⟩; have b3 : BkS 23 w3 w.heap.size [.int .i64 0, .int .i64 0] := ((BkS.new _ _ _).adds (Gr.new _ _).adds).adds h3.adds; have d0 : w3.cell? ⟨w.heap.size, 0, none⟩ = some (.int .i64 0) := b3.cell 0; have d1 : w3.cell? ⟨w.heap.size, 1, none⟩ = some (.int .i64 0) := b3.cell 1; have f0 := b3.free 0; have f1 := b3.free 1; have b6 : BkS 23 w3 (w.heap.size + 1) [.int .i64 X, .int .i64 N] := (by have := BkS.new 23 (w.alloc (.cells #[.int .i64 0, .int .i64 0] 23)) [.int .i64 X, .int .i64 N]; rw [World.size_alloc] at this; exact this.adds h3.adds); have d6 : w3.cell? ⟨w.heap.size + 1, 0, none⟩ = some (.int .i64 X) := b6.cell 0; have d7 : w3.cell? ⟨w.heap.size + 1, 1, none⟩ = some (.int .i64 N) := b6.cell 1; have B3 := Lib.hid b3; have H3 := Lib.hid (((Gr.new w _).alloc _).trans h3).adds; clear b3 b6 h3))
    refine bodyPost_ret (res_box2 rfl _ _ _ _ _ _ _ rfl ((B3.out.set 0 (.int .i64 X)).set 1 (.int .i64 N)) Tryd.underlying23 rfl (by kernel_rfl)) rfl ?_
    exact ⟨rfl, Adds.set (Adds.set H3.out (Nat.le_refl _) 0 _) (Nat.le_refl _) 1 _⟩
theorem refRead7_any {n : Nat} (v : Value) (l : List UInt8) (w : World) (hn : n ≤ w.heap.size) (hb : Bytes n w v l) :
    Calls Tryd.prog 16 #[v] w fun e w' => e = .returned (rbV l) ∧ Adds w w' := by
  by_cases hl : l.length < 3
  · have := refRead_short v l hl w hb
    unfold rbV
    rw [readB_0 hl]
    exact this
  · exact refRead_long v l (by omega) w hn hb
end Go.Proofs.YtnhapmodgmkbjaaDoor
