/- num, works: their contracts. -/
import Derived.Test.YtedllkahalfjgaaYF3
import Derived.Test.YtedllkahalfjgaaYF4
namespace Go.Proofs.Ytedllkahalfjgaa
open Go Go.RowKit

theorem num_any (x : Int) (w : World) : Calls Try.prog 22 #[.int .i64 x] w fun e w' => e = .returned (.int .i64 x) ∧ w = w' := by
  go_enter Try.func22, Try.ntmps22
  go_wp2
  go_ret
  exact ⟨rfl, rfl⟩
theorem add_lit (l l' : List Int) (i n x y : Int) (h : addE l i n = x ∧ addL l i n = l' ∧ addW l i n = y) (v : Value) (bc : Nat) (w : World) (hM : HolG w v bc l) :
    Calls Try.prog 28 #[v, .int .i64 i, .int .i64 n] w (GoesQ w v bc l' (.tuple #[.int .i64 y, .int .i64 x])) := by
  have := add_any hM i n
  rwa [h.1, h.2.1, h.2.2] at this
set_option maxRecDepth 100000 in
set_option maxHeartbeats 4000000 in
theorem works_any (w : World) : Calls Try.prog 19 #[] w fun e w' => e = .returned (.bool true) ∧ Adds w w' := by
  have HN := Lib.hid (newQ_yes 1 (by decide) w)
  have L1 := Lib.hid (add_lit [0] [2] 0 2 0 2 (by decide +kernel))
  have L2 := Lib.hid (add_lit [2] [2] 0 (-3) 250 0 (by decide +kernel))
  have L3 := Lib.hid (add_lit [2] [0] 0 (-2) 0 0 (by decide +kernel))
  have L4 := Lib.hid (add_lit [0] [0] 0 2147483648 250 0 (by decide +kernel))
  have L5 := Lib.hid (add_lit [0] [0] 1 1 4 0 (by decide +kernel))
  have HD := Lib.hid (fun (v : Value) (bc : Nat) (W : World) (h : HolG W v bc [0]) => show Calls Try.prog 31 #[v, .int .i64 0] W fun e w' => e = .returned (.bool true) ∧ W = w' from doneG_any h 0)
  go_enter Try.func19, Try.ntmps19
  go_wp2_with (first
    | (go_at_call 20; refine HN.out.mono ?_; rintro e w1 ⟨v, bc, rfl, h1, h3, h4⟩; have M1 := Lib.hid h1; have A1 := Lib.hid (And.intro h3 h4); clear h1 h3 h4 HN)
    | (go_at_call 28; refine (L1.out v bc w1 M1.out).mono ?_; rintro e w2 ⟨rfl, h1, h2⟩; have M2 := Lib.hid h1; have T2 := Lib.hid h2; clear h1 h2 L1)
    | (go_at_call 28; refine (L2.out v bc w2 M2.out).mono ?_; rintro e w3 ⟨rfl, h1, h2⟩; have M3 := Lib.hid h1; have T3 := Lib.hid (T2.out.trans h2); clear h1 h2 L2)
    | (go_at_call 28; refine (L3.out v bc w3 M3.out).mono ?_; rintro e w4 ⟨rfl, h1, h2⟩; have M4 := Lib.hid h1; have T4 := Lib.hid (T3.out.trans h2); clear h1 h2 L3)
    | (go_at_call 28; refine (L4.out v bc w4 M4.out).mono ?_; rintro e w5 ⟨rfl, h1, h2⟩; have M5 := Lib.hid h1; have T5 := Lib.hid (T4.out.trans h2); clear h1 h2 L4)
    | (go_at_call 28; refine (L5.out v bc w5 M5.out).mono ?_; rintro e w6 ⟨rfl, h1, h2⟩; have M6 := Lib.hid h1; have T6 := Lib.hid (T5.out.trans h2); clear h1 h2 L5)
    | (go_at_call 31; refine (HD.out v bc w6 M6.out).mono ?_; rintro e w' ⟨rfl, rfl⟩)
    | (go_at_call 22; refine (num_any _ _).mono ?_; rintro e w' ⟨rfl, rfl⟩))
  go_ret
  exact ⟨rfl, TnS.own A1.out.2 A1.out.1 T6.out⟩
end Go.Proofs.Ytedllkahalfjgaa
