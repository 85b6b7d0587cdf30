/- hold, asked, isNone, there, holder, take, leave: their contracts. -/
import Derived.Test.YtdmbjonbcomphaaUOps
import Derived.Test.YtdmbjonbcomphaaBB
namespace Go.Proofs.Ytdmbjonbcomphaa
open Go Go.RowKit Go.Maps

theorem holdU_any (a b x : Int) (w : World) :
    Calls Try.prog 34 #[.agg #[.int .i64 a, .int .i64 b], .int .i64 x] w fun e w' => e = .returned (.bool (decide (a ≤ x ∧ x ≤ b))) ∧ Adds w w' := by
  have ha : Adds w (w.alloc (.cells #[.int .i64 a, .int .i64 b] 62)) := (Below.refl _ _).alloc (Nat.le_refl _) _
  by_cases h1 : a ≤ x
  · by_cases h2 : x ≤ b
    · go_enter Try.func34, Try.ntmps34
      go_wp2
      go_ret
      exact ⟨by simp [h1, h2], ha⟩
    · go_enter Try.func34, Try.ntmps34
      go_wp2
      go_ret
      exact ⟨by simp [h2], ha⟩
  · go_enter Try.func34, Try.ntmps34
    go_wp2
    go_ret
    exact ⟨by simp; omega, ha⟩
theorem isNoneU_nil (w : World) :
    Calls Try.prog 25 #[.pointer none] w fun e w' => e = .returned (.bool true) ∧ w = w' := by
  go_enter Try.func25, Try.ntmps25
  go_wp2
  go_ret
  exact ⟨rfl, rfl⟩
theorem isNoneU_zero (bm : Nat) (w : World) (hc : w.cell? ⟨bm, 0, none⟩ = some (.map none)) :
    Calls Try.prog 25 #[.pointer (some ⟨bm, 0, none⟩)] w fun e w' => e = .returned (.bool true) ∧ w = w' := by
  have he := run_eql_map_nil (P := Try.prog) w 46 3 3 none Try.underlying46
  go_enter Try.func25, Try.ntmps25
  go_wp2
  go_ret
  exact ⟨rfl, rfl⟩
theorem isNoneU_full (bm b : Nat) (w : World) (hc : w.cell? ⟨bm, 0, none⟩ = some (.map (some b))) :
    Calls Try.prog 25 #[.pointer (some ⟨bm, 0, none⟩)] w fun e w' => e = .returned (.bool false) ∧ w = w' := by
  have he := run_eql_map_nil (P := Try.prog) w 46 3 3 (some b) Try.underlying46
  go_enter Try.func25, Try.ntmps25
  go_wp2
  go_ret
  exact ⟨rfl, rfl⟩
theorem holder_any (b : Nat) (l : List Int) (i : Int) (hi : In64 i) (w : World) (h : HolF w b l) :
    Calls Try.prog 30 #[.map (some b), .int .i64 i] w fun e w' => e = .returned (.tuple #[.int .i64 (whoL l i), .bool (decide (atL l i ≠ 0))]) ∧ w = w' := by
  have hl := h.has hi
  generalize whoL l i = x at *
  generalize decide (atL l i ≠ 0) = y at *
  clear h hi
  go_enter Try.func30, Try.ntmps30
  go_wp2
  go_ret2
  exact ⟨rfl, rfl⟩
theorem take_yes (b : Nat) (l : List Int) (i c : Int) (w : World) (h : HolF w b l) (hl : l.length ≤ 64) (h0 : 0 ≤ i) (h1 : i < l.length) (hn : atL l i = 0) (hc : 0 ≤ c) :
    Calls Try.prog 33 #[.map (some b), .int .i64 i, .int .i64 c] w fun e w' => e = .returned (.bool true) ∧ HolF w' b (l.set i.toNat (c + 1)) ∧ TnS b w w' := by
  have HC := Lib.hid (holder_any b l i ⟨by omega, by omega⟩ w h)
  rw [show decide (atL l i ≠ 0) = false by simp [hn]] at HC
  have HH := Lib.hid h; have H1 := Lib.hid hl; have H2 := Lib.hid h0; have H3 := Lib.hid h1; have H4 := Lib.hid hn; have H5 := Lib.hid hc
  clear h hl h0 h1 hn hc
  go_enter Try.func33, Try.ntmps33
  go_wp2_with (first
    | (go_at_call 30; refine HC.out.mono ?_; rintro e w1 ⟨rfl, rfl⟩)
    | (at_mapUpdate; refine wpList_putH rfl _ _ _ rfl b i c l rfl rfl rfl HH.out H1.out H2.out H3.out H4.out H5.out ?_; intro w2 h6 h7; have H6 := Lib.hid h6; have H7 := Lib.hid h7; clear h6 h7))
  go_ret
  exact ⟨rfl, H6.out, H7.out⟩
theorem take_no (b : Nat) (l : List Int) (i c : Int) (hi : In64 i) (w : World) (h : HolF w b l) (hn : atL l i ≠ 0) :
    Calls Try.prog 33 #[.map (some b), .int .i64 i, .int .i64 c] w fun e w' => e = .returned (.bool false) ∧ w = w' := by
  have HC := Lib.hid (holder_any b l i hi w h)
  rw [show decide (atL l i ≠ 0) = true by simp [hn]] at HC
  clear h hn hi
  go_enter Try.func33, Try.ntmps33
  go_wp2_with (go_at_call 30; refine HC.out.mono ?_; rintro e w1 ⟨rfl, rfl⟩)
  go_ret
  exact ⟨rfl, rfl⟩
theorem leave_any (b : Nat) (l : List Int) (i : Int) (w : World) (h : HolF w b l) (hl : l.length ≤ 64) (h0 : 0 ≤ i) (h1 : i < l.length) :
    Calls Try.prog 29 #[.map (some b), .int .i64 i] w fun e w' => e = .returned (.tuple #[.int .i64 (whoL l i), .bool (decide (atL l i ≠ 0))]) ∧ HolF w' b (l.set i.toNat 0) ∧ TnS b w w' := by
  have HC := Lib.hid (holder_any b l i ⟨by omega, by omega⟩ w h)
  generalize whoL l i = x at *
  generalize decide (atL l i ≠ 0) = y at *
  have HH := Lib.hid h; have H1 := Lib.hid hl; have H2 := Lib.hid h0; have H3 := Lib.hid h1
  clear h hl h0 h1
  go_enter Try.func29, Try.ntmps29
  go_wp2_with (first
    | (go_at_call 30; refine HC.out.mono ?_; rintro e w1 ⟨rfl, rfl⟩)
    | (at_delete; refine wpList_delH rfl _ _ rfl b i l rfl rfl HH.out H1.out H2.out H3.out ?_; intro w2 h6 h7; have H6 := Lib.hid h6; have H7 := Lib.hid h7; clear h6 h7))
  go_ret2
  exact ⟨rfl, H6.out, H7.out⟩
end Go.Proofs.Ytdmbjonbcomphaa
