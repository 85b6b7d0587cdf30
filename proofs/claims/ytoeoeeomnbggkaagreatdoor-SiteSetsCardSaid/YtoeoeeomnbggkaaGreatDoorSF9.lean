/- Read of bytes; a pair that may be; the pair of two sites: contracts. -/
import Derived.Test.YtoeoeeomnbggkaaGreatDoorSMem
import Derived.Test.YtoeoeeomnbggkaaGreatDoorSF8
namespace Go.Proofs.YtoeoeeomnbggkaaGreatDoor
open Go Go.RowKit Go.Shelf Go.Sort

abbrev prV (x : Pr) : Value := .agg #[.int .i64 x.1.1, .int .i64 x.1.2, .int .i64 x.2.1, .int .i64 x.2.2]
theorem chk_at (f p : Int) (W : World) : Calls Tryz.prog 27 #[.agg #[.int .i64 f, .int .i64 p]] W fun e w' => e = .returned (.int .i64 (chkE (f, p))) ∧ Gr W w' := check_any (f, p) W
theorem ord_at (f p g q : Int) (W : World) : Calls Tryz.prog 33 #[.agg #[.int .i64 f, .int .i64 p], .agg #[.int .i64 g, .int .i64 q]] W fun e w' => e = .returned (.int .i64 (ordS (f, p) (g, q))) ∧ Gr W w' := order_any (f, p) (g, q) W

set_option maxRecDepth 100000 in
set_option maxHeartbeats 2000000 in
theorem may_any (x : Pr) (w : World) : Calls Tryz.prog 19 #[prV x] w fun e w' => e = .returned (.bool (mayP x)) ∧ Gr w w' := by
  obtain ⟨⟨f, p⟩, ⟨g, q⟩⟩ := x
  have hm : mayP ((f, p), (g, q)) = (rightS (f, p) && rightS (g, q) && decide (ordS (f, p) (g, q) ≤ 0)) := rfl
  rw [hm]
  clear hm
  have hc := fun (f p : Int) => (show chkE (f, p) = if rightS (f, p) = true then 0 else 2 from rfl)
  cases ha : rightS (f, p)
  · have h1 : chkE (f, p) = 2 := by rw [hc, ha]; rfl
    have HC := Lib.hid (chk_at f p)
    rw [h1] at HC
    clear ha h1 hc
    go_enter Tryz.func19, Tryz.ntmps19
    go_wp2_with (go_at_call 27; refine (HC.out _).mono ?_; rintro e w2 ⟨rfl, h1⟩; have H1 := Lib.hid ((Gr.new w _).trans h1); clear h1)
    go_ret
    exact ⟨rfl, H1.out⟩
  · have h1 : chkE (f, p) = 0 := by rw [hc, ha]; rfl
    have HC := Lib.hid (chk_at f p)
    rw [h1] at HC
    clear ha h1
    cases hb : rightS (g, q)
    · have h1 : chkE (g, q) = 2 := by rw [hc, hb]; rfl
      have HD := Lib.hid (chk_at g q)
      rw [h1] at HD
      clear hb h1 hc
      go_enter Tryz.func19, Tryz.ntmps19
      go_wp2_with (first
        | (go_at_call 27; refine (HC.out _).mono ?_; rintro e w2 ⟨rfl, h1⟩; have hb2 : BkS 56 w2 w.heap.size [.int .i64 f, .int .i64 p, .int .i64 g, .int .i64 q] := (BkS.new _ _ _).adds h1.adds; have c22 : w2.cell? ⟨w.heap.size, 2, none⟩ = some (.int .i64 g) := hb2.cell 2; have c23 : w2.cell? ⟨w.heap.size, 3, none⟩ = some (.int .i64 q) := hb2.cell 3; have H1 := Lib.hid ((Gr.new w _).trans h1); clear h1 hb2 HC)
        | (go_at_call 27; refine (HD.out _).mono ?_; rintro e w3 ⟨rfl, h1⟩; have H2 := Lib.hid (H1.out.trans h1); clear h1))
      go_ret
      exact ⟨rfl, H2.out⟩
    · have h1 : chkE (g, q) = 0 := by rw [hc, hb]; rfl
      have HD := Lib.hid (chk_at g q)
      rw [h1] at HD
      obtain ⟨z, hz⟩ : ∃ z, ordS (f, p) (g, q) = z := ⟨_, rfl⟩
      have HO := Lib.hid (ord_at f p g q)
      rw [hz] at HO ⊢
      clear hb h1 hc hz
      go_enter Tryz.func19, Tryz.ntmps19
      go_wp2_with (first
        | (go_at_call 27; refine (HC.out _).mono ?_; rintro e w2 ⟨rfl, h1⟩; have hb2 : BkS 56 w2 w.heap.size [.int .i64 f, .int .i64 p, .int .i64 g, .int .i64 q] := (BkS.new _ _ _).adds h1.adds; have c22 : w2.cell? ⟨w.heap.size, 2, none⟩ = some (.int .i64 g) := hb2.cell 2; have c23 : w2.cell? ⟨w.heap.size, 3, none⟩ = some (.int .i64 q) := hb2.cell 3; have HB2 := Lib.hid hb2; have H1 := Lib.hid ((Gr.new w _).trans h1); clear h1 hb2 HC)
        | (go_at_call 27; refine (HD.out _).mono ?_; rintro e w3 ⟨rfl, h1⟩; have hb3 := HB2.out.adds h1.adds; have c30 : w3.cell? ⟨w.heap.size, 0, none⟩ = some (.int .i64 f) := hb3.cell 0; have c31 : w3.cell? ⟨w.heap.size, 1, none⟩ = some (.int .i64 p) := hb3.cell 1; have c32 : w3.cell? ⟨w.heap.size, 2, none⟩ = some (.int .i64 g) := hb3.cell 2; have c33 : w3.cell? ⟨w.heap.size, 3, none⟩ = some (.int .i64 q) := hb3.cell 3; have H2 := Lib.hid (H1.out.trans h1); clear h1 hb3)
        | (go_at_call 33; refine (HO.out _).mono ?_; rintro e w4 ⟨rfl, h1⟩; have H3 := Lib.hid (H2.out.trans h1); clear h1))
      go_ret
      exact ⟨rfl, H3.out⟩
end Go.Proofs.YtoeoeeomnbggkaaGreatDoor
