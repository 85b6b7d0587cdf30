/- asked, there, New, Holder, Len: their contracts. -/
import Derived.Test.YtdmbjonbcomphaaUF1
namespace Go.Proofs.Ytdmbjonbcomphaa
open Go Go.RowKit Go.Maps

/-- What is asked of a number. -/
structure AskU where
  n : Int
  lo : Int
  hi : Int
  e : Int
def AskU.cells (a : AskU) : List Value := [.int .i64 a.n, .int .i64 a.lo, .int .i64 a.hi, .int .i64 a.e]
def AskU.ok (a : AskU) : Bool := decide (a.lo ≤ a.n ∧ a.n ≤ a.hi)
theorem infoAsk : (Try.prog.info? 64).map (·.size) = some 4 := by kernel_rfl
set_option maxRecDepth 100000 in
set_option maxHeartbeats 4000000 in
theorem asked_one (a : AskU) (b cap : Nat) (w : World) (h : ∀ k v, a.cells[k]? = some v → w.cell? ⟨b, k, none⟩ = some v) :
    Calls Try.prog 21 #[.slice (some ⟨b, 0, none⟩) 1 cap] w fun e w' => e = .returned (.int .i64 (if a.ok then 0 else a.e)) ∧ Adds w w' := by
  obtain ⟨n, lo, hi, er⟩ := a
  have h0 := h 0 _ rfl; have h1 := h 1 _ rfl; have h2 := h 2 _ rfl; have h3 := h 3 _ rfl
  have HH := Lib.hid (holdU_any lo hi n)
  unfold AskU.ok
  simp only
  generalize hr : decide (lo ≤ n ∧ n ≤ hi) = r at *
  clear h hr
  cases r
  · go_enter Try.func21, Try.ntmps21
    go_wp2
    refine wp_loop_rounds 2 ?_
    rw [rounds_succ]
    go_wp2_with (go_at_call 34; refine (HH.out _).mono ?_; rintro e w1 ⟨rfl, ha⟩; have bk := (BkS.new 64 w [.int .i64 n, .int .i64 lo, .int .i64 hi, .int .i64 er]).adds ha; have c3 : w1.cell? ⟨w.heap.size, 3, none⟩ = some (.int .i64 er) := bk.cell 3; have HA := Lib.hid (Adds.trans (Gr.new w _).adds ha); clear ha bk)
    go_ret
    exact ⟨rfl, HA.out⟩
  · go_enter Try.func21, Try.ntmps21
    go_wp2
    refine wp_loop_rounds 2 ?_
    rw [rounds_succ]
    go_wp2_with (go_at_call 34; refine (HH.out _).mono ?_; rintro e w1 ⟨rfl, ha⟩; have HA := Lib.hid (Adds.trans (Gr.new w _).adds ha); clear ha)
    rw [rounds_succ]
    go_wp2
    go_ret
    exact ⟨rfl, HA.out⟩
set_option maxRecDepth 100000 in
set_option maxHeartbeats 4000000 in
theorem asked_two (a c : AskU) (b cap : Nat) (w : World) (h : ∀ k v, (a.cells ++ c.cells)[k]? = some v → w.cell? ⟨b, k, none⟩ = some v) (hb : b < w.heap.size) :
    Calls Try.prog 21 #[.slice (some ⟨b, 0, none⟩) 2 cap] w fun e w' => e = .returned (.int .i64 (if a.ok then if c.ok then 0 else c.e else a.e)) ∧ Adds w w' := by
  obtain ⟨n, lo, hi, er⟩ := a
  obtain ⟨n2, lo2, hi2, er2⟩ := c
  have h0 := h 0 _ rfl; have h1 := h 1 _ rfl; have h2 := h 2 _ rfl; have h3 := h 3 _ rfl
  have H4 := Lib.hid (h 4 _ rfl); have H5 := Lib.hid (h 5 _ rfl); have H6 := Lib.hid (h 6 _ rfl); have H7 := Lib.hid (h 7 _ rfl)
  have HB := Lib.hid hb
  have HH := Lib.hid (holdU_any lo hi n)
  have HK := Lib.hid (holdU_any lo2 hi2 n2)
  unfold AskU.ok
  simp only
  generalize hr : decide (lo ≤ n ∧ n ≤ hi) = r at *
  generalize hq : decide (lo2 ≤ n2 ∧ n2 ≤ hi2) = q at *
  clear h hr hb hq
  cases r
  · clear HK
    go_enter Try.func21, Try.ntmps21
    go_wp2
    refine wp_loop_rounds 3 ?_
    rw [rounds_succ]
    go_wp2_with (go_at_call 34; refine (HH.out _).mono ?_; rintro e w1 ⟨rfl, ha⟩; have bk := (BkS.new 64 w [.int .i64 n, .int .i64 lo, .int .i64 hi, .int .i64 er]).adds ha; have c3 : w1.cell? ⟨w.heap.size, 3, none⟩ = some (.int .i64 er) := bk.cell 3; have HA := Lib.hid (Adds.trans (Gr.new w _).adds ha); clear ha bk)
    go_ret
    exact ⟨rfl, HA.out⟩
  · go_enter Try.func21, Try.ntmps21
    go_wp2
    refine wp_loop_rounds 3 ?_
    rw [rounds_succ]
    go_wp2_with (go_at_call 34; refine (HH.out _).mono ?_; rintro e w1 ⟨rfl, ha⟩; have HA := Lib.hid (Adds.trans (Gr.new w _).adds ha); clear ha)
    have k4 := (HA.out.cell (p := ⟨b, 4, none⟩) HB.out).trans H4.out
    have k5 := (HA.out.cell (p := ⟨b, 5, none⟩) HB.out).trans H5.out
    have k6 := (HA.out.cell (p := ⟨b, 6, none⟩) HB.out).trans H6.out
    have k7 := (HA.out.cell (p := ⟨b, 7, none⟩) HB.out).trans H7.out
    clear h0 h1 h2 h3 HH
    rw [rounds_succ]
    cases q
    · go_wp2_with (go_at_call 34; refine (HK.out _).mono ?_; rintro e w2 ⟨rfl, ha⟩; have bk := (BkS.new 64 w1 [.int .i64 n2, .int .i64 lo2, .int .i64 hi2, .int .i64 er2]).adds ha; have c3 : w2.cell? ⟨w1.heap.size, 3, none⟩ = some (.int .i64 er2) := bk.cell 3; have HA2 := Lib.hid (Adds.trans (Gr.new w1 _).adds ha); clear ha bk)
      go_ret
      exact ⟨rfl, Adds.trans HA.out HA2.out⟩
    · go_wp2_with (go_at_call 34; refine (HK.out _).mono ?_; rintro e w2 ⟨rfl, ha⟩; have HA2 := Lib.hid (Adds.trans (Gr.new w1 _).adds ha); clear ha)
      rw [rounds_succ]
      go_wp2
      go_ret
      exact ⟨rfl, Adds.trans HA.out HA2.out⟩
end Go.Proofs.Ytdmbjonbcomphaa
