/- The document's bytes of a site: its contract. -/
import Derived.Test.YtnhapmodgmkbjaaDoorSR3
namespace Go.Proofs.YtnhapmodgmkbjaaDoor
open Go Go.RowKit Go.Shelf Go.Sort

theorem refFixed_2 (p : Nat) (hp : p < 512) (w : World) : Calls Tryd.prog 33 #[.int .u64 (p : Int), .int .i64 2] w (GivesB (leB 2 p) (fun v => .tuple #[v, .int .i64 0]) w) := by
  have h := refFixed_any p (by unfold U64; omega) 2 w
  have e : fixE p 2 = 0 := by unfold fixE; rw [if_pos (by decide), if_pos (by show p < 256 ^ 2; omega)]
  have e2 : fixB p 2 = leB 2 p := by unfold fixB; rw [if_pos e]; rfl
  rw [e, e2] at h
  exact h
theorem lit_1 (f : Nat) (hf : f < 256) (w : World) : OwnB (w.alloc (.cells #[.int .u8 (f : Int)] 5)) w.heap.size (.slice (some ⟨w.heap.size, 0, none⟩) 1 1) (leB 1 f) := by
  have h := OwnB.lit w (leB 1 f) (by rw [leB_length]; unfold maxLen; omega)
  have e : (leB 1 f).map byteV = [.int .u8 (f : Int)] := by
    simp [leB, byteV]
    omega
  rw [leB_length, e] at h
  exact h
set_option maxRecDepth 100000 in
set_option maxHeartbeats 4000000 in
theorem refBytes_any (f p : Nat) (hf : f < 32) (hp : p < 512) (w : World) :
    Calls Tryd.prog 17 #[.agg #[.int .i64 (f : Int), .int .i64 (p : Int)]] w (GivesB (leB 1 f ++ leB 2 p) (fun v => v) w) := by
  have HF := Lib.hid (refFixed_2 p hp)
  have HL := Lib.hid (lit_1 f (by omega))
  have ew := u64_in (a := p) (by omega)
  have e8 : IntKind.u8.wrap (f : Int) = (f : Int) := by rw [byte_wrap, Nat.mod_eq_of_lt (by omega)]
  clear hf hp
  go_enter Tryd.func17, Tryd.ntmps17
  go_wp2_with (first
    | (go_at_call 33; refine (HF.out _).mono ?_; rintro e w2 ⟨vp, rfl, h2, h3⟩; have h0 : w2.cell? ⟨w.heap.size, 0, none⟩ = some (.int .i64 (f : Int)) := ((BkS.new 23 w [.int .i64 (f : Int), .int .i64 (p : Int)]).adds h3).cell 0; have H2 := Lib.hid h2; have H3 := Lib.hid (Adds.trans (Gr.new w _).adds h3); have HA := Lib.hid (Gr.new w2 (.cells #[.int .u8 (f : Int)] 5)).adds; clear h2 h3)
    | (at_builtin; refine wp_append_bytes rfl _ _ rfl w2.heap.size _ (leB 1 f) rfl (by exact HL.out w2) _ (leB 2 p) _ rfl (by exact (H2.out.adds HA.out).bytes) (by simp [leB_length]) (by simp) ?_; intro v8 w8 o8 b8; have O8 := Lib.hid o8; have B8 := Lib.hid b8; clear o8 b8))
  go_ret
  exact ⟨_, rfl, O8.out.lower H3.out.size, Adds.trans H3.out (Below.trans HA.out (B8.out))⟩
end Go.Proofs.YtnhapmodgmkbjaaDoor
