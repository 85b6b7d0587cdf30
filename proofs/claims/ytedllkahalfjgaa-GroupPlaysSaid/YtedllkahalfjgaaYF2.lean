/- meets, first: their contracts. -/
import Derived.Test.YtedllkahalfjgaaYF1
namespace Go.Proofs.Ytedllkahalfjgaa
open Go Go.RowKit

/-- What is to be added, as a value. -/
abbrev moreQ (v : Value) (i n : Int) : Value := .agg #[v, .int .i64 i, .int .i64 n]
theorem meets1_any {v : Value} {w : World} {r : Bool} (h : ∀ W, Adds w W → Calls Try.prog 59 #[v] W fun e w' => e = .returned (.bool r) ∧ W = w') (i n : Int) : Calls Try.prog 63 #[moreQ v i n, .int .i64 1] w fun e w' => e = .returned (.bool r) ∧ Adds w w' := by
  have H := Lib.hid h
  clear h
  go_enter Try.func63, Try.ntmps63
  go_wp2_with (go_at_call 59; refine (H.out _ (Gr.new _ _).adds).mono ?_; rintro e w1 ⟨rfl, rfl⟩)
  go_ret
  exact ⟨rfl, (Gr.new _ _).adds⟩
theorem meets4_any {v : Value} {w : World} {r : Bool} (i n : Int) (h : ∀ W, Adds w W → Calls Try.prog 67 #[v, .int .i64 i] W fun e w' => e = .returned (.bool r) ∧ W = w') : Calls Try.prog 63 #[moreQ v i n, .int .i64 4] w fun e w' => e = .returned (.bool (!r)) ∧ Adds w w' := by
  have H := Lib.hid h
  clear h
  go_enter Try.func63, Try.ntmps63
  go_wp2_with (go_at_call 67; refine (H.out _ (Gr.new _ _).adds).mono ?_; rintro e w1 ⟨rfl, rfl⟩)
  go_ret
  exact ⟨rfl, (Gr.new _ _).adds⟩
set_option maxHeartbeats 1000000 in
theorem meets250_any {w : World} {v : Value} {bc : Nat} {l : List Int} (h : HolG w v bc l) {k : Nat} (hk : k < l.length) (n : Int) : Calls Try.prog 63 #[moreQ v (k : Int) n, .int .i64 250] w fun e w' => e = .returned (.bool (!decide (-(atQ l (k : Int)) ≤ n ∧ n ≤ 2147483647 - atQ l (k : Int)))) ∧ Adds w w' := by
  obtain ⟨bp, rfl, _⟩ := h.c0
  obtain ⟨w1, hw1⟩ : ∃ w1, w.alloc (.cells #[.pointer (some ⟨bp, 0, none⟩), .int .i64 (k : Int), .int .i64 n] 123) = w1 := ⟨_, rfl⟩
  have HA := Lib.hid (show Adds w w1 by rw [← hw1]; exact (Gr.new _ _).adds)
  have HB := Lib.hid (show BkS 123 w1 w.heap.size [.pointer (some ⟨bp, 0, none⟩), .int .i64 (k : Int), .int .i64 n] by rw [← hw1]; exact BkS.new _ _ _)
  obtain ⟨b0, hb0⟩ : ∃ b0, w.heap.size = b0 := ⟨_, rfl⟩
  rw [hb0] at HB
  obtain ⟨bp', e, c0⟩ := (h.adds HA.out).c0
  simp only [Value.pointer.injEq, Option.some.injEq, Addr.mk.injEq, and_true] at e
  subst e
  have c1 : w1.drew.cell? ⟨bp, 0, none⟩ = some (.pointer (some ⟨bc, 0, none⟩)) := c0
  have d0 : w1.drew.cell? ⟨b0, 0, none⟩ = some (.pointer (some ⟨bp, 0, none⟩)) := HB.out.cell 0
  have d1 : w1.drew.cell? ⟨b0, 1, none⟩ = some (.int .i64 (k : Int)) := HB.out.cell 1
  have d2 : w1.drew.cell? ⟨b0, 2, none⟩ = some (.int .i64 n) := HB.out.cell 2
  have HF := Lib.hid (fits_any ((h.adds HA.out).adds (Adds.drew w1)) hk n)
  generalize decide (-(atQ l (k : Int)) ≤ n ∧ n ≤ 2147483647 - atQ l (k : Int)) = r at *
  clear h hk
  go_enter Try.func63, Try.ntmps63
  go_wp2
  go_region_with (go_at_call 83; refine HF.out.mono ?_; rintro e w2 ⟨rfl, rfl⟩)
  all_goals
    simp only [Exit.then]
    go_simp
    go_wp2
    go_ret
    exact ⟨rfl, Adds.trans HA.out (Adds.drew w1)⟩
/-- The first of three errors that applies. -/
def firstE (r1 r4 r5 : Bool) : Int := if r1 then 1 else if r4 then 4 else if r5 then 250 else 0
set_option maxHeartbeats 1000000 in
theorem first_any {v : Value} {i n : Int} {w : World} {b : Nat} {r1 r4 r5 : Bool} (hb : BkS 25 w b [.int .i64 1, .int .i64 4, .int .i64 250])
    (h1 : ∀ W, Adds w W → Calls Try.prog 63 #[moreQ v i n, .int .i64 1] W fun e w' => e = .returned (.bool r1) ∧ Adds W w')
    (h4 : r1 = false → ∀ W, Adds w W → Calls Try.prog 63 #[moreQ v i n, .int .i64 4] W fun e w' => e = .returned (.bool r4) ∧ Adds W w')
    (h5 : r1 = false → r4 = false → ∀ W, Adds w W → Calls Try.prog 63 #[moreQ v i n, .int .i64 250] W fun e w' => e = .returned (.bool r5) ∧ Adds W w') :
    Calls Try.prog 62 #[.func (.func 63) #[moreQ v i n] #[], .slice (some ⟨b, 0, none⟩) 3 3] w fun e w' => e = .returned (.int .i64 (firstE r1 r4 r5)) ∧ Adds w w' := by
  have HB := Lib.hid hb
  have H1 := Lib.hid h1; have H4 := Lib.hid h4; have H5 := Lib.hid h5
  have c0 : w.cell? ⟨b, 0, none⟩ = some (.int .i64 1) := hb.cell 0
  clear hb h1 h4 h5
  go_enter Try.func62, Try.ntmps62
  go_wp2
  go_loopw [10] (fun i wr => ∃ k : Nat, i = .int .i64 k ∧ k ≤ 3 ∧ (0 < k → r1 = false) ∧ (1 < k → r4 = false) ∧ (2 < k → r5 = false) ∧ Adds w wr) (fun i _ => 4 - (intOf i).toNat)
  case atStart => exact ⟨0, rfl, by omega, fun h => by omega, fun h => by omega, fun h => by omega, Adds.refl _⟩
  case round =>
    obtain ⟨k, rfl, hk, q1, q4, q5, hA⟩ := hrel
    have HA := Lib.hid hA
    have c0 : wr.cell? ⟨b, 0, none⟩ = some (.int .i64 1) := (HB.out.adds hA).cell 0
    have c1 : wr.cell? ⟨b, 1, none⟩ = some (.int .i64 4) := (HB.out.adds hA).cell 1
    have c2 : wr.cell? ⟨b, 2, none⟩ = some (.int .i64 250) := (HB.out.adds hA).cell 2
    clear hA
    rcases (show k = 0 ∨ k = 1 ∨ k = 2 ∨ k = 3 by omega) with rfl | rfl | rfl | rfl
    · clear hk q1 q4 q5
      have HC := Lib.hid (H1.out)
      cases r1
      · go_wp2_with (go_at_call 63; refine (HC.out wr HA.out).mono ?_; rintro e w1 ⟨rfl, ha⟩; have HA1 := Lib.hid (Adds.trans HA.out ha); clear ha)
        go_roundw
        case rel => exact ⟨1, by go_num, by omega, (by intros; first | rfl | trivial | omega), (by intros; first | rfl | trivial | omega), (by intros; first | rfl | trivial | omega), HA1.out⟩
        case measure => simp [intOf]
      · go_wp2_with (go_at_call 63; refine (HC.out wr HA.out).mono ?_; rintro e w1 ⟨rfl, ha⟩; have HA1 := Lib.hid (Adds.trans HA.out ha); clear ha)
        go_ret
        exact ⟨rfl, HA1.out⟩
    · obtain rfl := q1 (by omega)
      clear hk q1 q4 q5
      have HC := Lib.hid (H4.out rfl)
      cases r4
      · go_wp2_with (go_at_call 63; refine (HC.out wr HA.out).mono ?_; rintro e w1 ⟨rfl, ha⟩; have HA1 := Lib.hid (Adds.trans HA.out ha); clear ha)
        go_roundw
        case rel => exact ⟨2, by go_num, by omega, (by intros; first | rfl | trivial | omega), (by intros; first | rfl | trivial | omega), (by intros; first | rfl | trivial | omega), HA1.out⟩
        case measure => simp [intOf]
      · go_wp2_with (go_at_call 63; refine (HC.out wr HA.out).mono ?_; rintro e w1 ⟨rfl, ha⟩; have HA1 := Lib.hid (Adds.trans HA.out ha); clear ha)
        go_ret
        exact ⟨rfl, HA1.out⟩
    · obtain rfl := q1 (by omega)
      obtain rfl := q4 (by omega)
      clear hk q1 q4 q5
      have HC := Lib.hid (H5.out rfl rfl)
      cases r5
      · go_wp2_with (go_at_call 63; refine (HC.out wr HA.out).mono ?_; rintro e w1 ⟨rfl, ha⟩; have HA1 := Lib.hid (Adds.trans HA.out ha); clear ha)
        go_roundw
        case rel => exact ⟨3, by go_num, by omega, (by intros; first | rfl | trivial | omega), (by intros; first | rfl | trivial | omega), (by intros; first | rfl | trivial | omega), HA1.out⟩
        case measure => simp [intOf]
      · go_wp2_with (go_at_call 63; refine (HC.out wr HA.out).mono ?_; rintro e w1 ⟨rfl, ha⟩; have HA1 := Lib.hid (Adds.trans HA.out ha); clear ha)
        go_ret
        exact ⟨rfl, HA1.out⟩
    · obtain rfl := q1 (by omega)
      obtain rfl := q4 (by omega)
      obtain rfl := q5 (by omega)
      clear hk q1 q4 q5
      go_wp2
      go_ret
      exact ⟨rfl, HA.out⟩
end Go.Proofs.Ytedllkahalfjgaa
