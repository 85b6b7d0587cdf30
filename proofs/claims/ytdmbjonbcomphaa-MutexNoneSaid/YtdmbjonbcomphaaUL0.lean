/- num, works: their contracts. -/
import Derived.Test.YtdmbjonbcomphaaUF4
namespace Go.Proofs.Ytdmbjonbcomphaa
open Go Go.RowKit Go.Maps

theorem num_any (x : Int) (w : World) : Calls Try.prog 10 #[.int .i64 x] w fun e w' => e = .returned (.int .i64 x) ∧ w = w' := by
  go_enter Try.func10, Try.ntmps10
  go_wp2
  go_ret
  exact ⟨rfl, rfl⟩
theorem lock_lit (l l' : List Int) (i c x : Int) (h : lockE l i c = x ∧ lockL l i c = l') (hi : In64 i) (v : Value) (bp b : Nat) (w : World) (hM : MutP w v bp b l) :
    Calls Try.prog 19 #[v, .int .i64 i, .int .i64 c] w (Goes w v bp b l' (.int .i64 x)) := by
  have := lock_any v bp b l i c w hM hi
  rwa [h.1, h.2] at this
theorem unlock_lit (l l' : List Int) (i x y : Int) (h : unlockE l i = x ∧ unlockL l i = l' ∧ unlockW l i = y) (v : Value) (bp b : Nat) (w : World) (hM : MutP w v bp b l) :
    Calls Try.prog 16 #[v, .int .i64 i] w (Goes w v bp b l' (.tuple #[.int .i64 y, .int .i64 x])) := by
  have := unlock_any v bp b l i w hM
  rwa [h.1, h.2.1, h.2.2] at this
set_option maxRecDepth 100000 in
set_option maxHeartbeats 4000000 in
theorem works_any (w : World) : Calls Try.prog 7 #[] w fun e w' => e = .returned (.bool true) ∧ Adds w w' := by
  have HN := Lib.hid (newU_yes 2 (by decide) w)
  have L1 := Lib.hid (lock_lit [0, 0] [0, 8] 1 7 0 (by decide +kernel) ⟨by decide, by decide⟩)
  have L2 := Lib.hid (lock_lit [0, 8] [0, 8] 1 7 230 (by decide +kernel) ⟨by decide, by decide⟩)
  have L3 := Lib.hid (unlock_lit [0, 8] [0, 0] 1 0 7 (by decide +kernel))
  have L4 := Lib.hid (unlock_lit [0, 0] [0, 0] 1 231 0 (by decide +kernel))
  have L5 := Lib.hid (lock_lit [0, 0] [0, 0] 2 0 4 (by decide +kernel) ⟨by decide, by decide⟩)
  go_enter Try.func7, Try.ntmps7
  go_wp2_with (first
    | (go_at_call 8; refine HN.out.mono ?_; rintro e w1 ⟨v, bp, b, rfl, h1, h2, h3, h4⟩; have M1 := Lib.hid h1; have A1 := Lib.hid (And.intro h3 h4); clear h1 h2 h3 h4 HN)
    | (go_at_call 19; refine (L1.out v bp b w1 M1.out).mono ?_; rintro e w2 ⟨rfl, h1, h2⟩; have M2 := Lib.hid h1; have T2 := Lib.hid h2; clear h1 h2 L1)
    | (go_at_call 19; refine (L2.out v bp b w2 M2.out).mono ?_; rintro e w3 ⟨rfl, h1, h2⟩; have M3 := Lib.hid h1; have T3 := Lib.hid (T2.out.trans h2); clear h1 h2 L2)
    | (go_at_call 16; refine (L3.out v bp b w3 M3.out).mono ?_; rintro e w4 ⟨rfl, h1, h2⟩; have M4 := Lib.hid h1; have T4 := Lib.hid (T3.out.trans h2); clear h1 h2 L3)
    | (go_at_call 16; refine (L4.out v bp b w4 M4.out).mono ?_; rintro e w5 ⟨rfl, h1, h2⟩; have M5 := Lib.hid h1; have T5 := Lib.hid (T4.out.trans h2); clear h1 h2 L4)
    | (go_at_call 19; refine (L5.out v bp b w5 M5.out).mono ?_; rintro e w6 ⟨rfl, h1, h2⟩; have T6 := Lib.hid (T5.out.trans h2); clear h1 h2 L5)
    | (go_at_call 10; refine (num_any _ _).mono ?_; rintro e w' ⟨rfl, rfl⟩))
  go_ret
  exact ⟨rfl, TnS.own A1.out.2 A1.out.1 T6.out⟩
end Go.Proofs.Ytdmbjonbcomphaa
