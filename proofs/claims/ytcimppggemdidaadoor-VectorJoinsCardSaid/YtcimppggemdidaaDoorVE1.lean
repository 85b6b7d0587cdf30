/- The iterator over clocks that are not 0: its contract, at the wide fence. -/
import Derived.Test.YtcimppggemdidaaDoorKeep
import Derived.Test.YtcimppggemdidaaDoorScopeIn
import Derived.Test.YtcimppggemdidaaDoorSeqS
import Derived.Test.YtcimppggemdidaaDoorVF1
namespace Go.Proofs.YtcimppggemdidaaDoor
open Go Go.RowKit Go.Shelf
attribute [local go_sem] Oper.semAt_some

abbrev nzV (l : List UInt64) (x : Nat) : Array Value := #[.int .i64 ((x : Nat) : Int), .int .u64 ((gD l x).toNat : Nat)]
theorem Words.keep {M : Nat → Prop} {n : Nat} {W W' : World} {ao : Option Addr} {len cap : Nat} {l : List UInt64} (h : Words n W (.slice ao len cap) l) (hk : KeepC M W W') (hM : ∀ b o, b < n → ao = some ⟨b, o, none⟩ → ¬ M b) : Words n W' (.slice ao len cap) l := by
  obtain ⟨ao', cap', e, h1, h2, h3⟩ := h
  cases e
  refine ⟨_, _, rfl, h1, h2, fun hl => ?_⟩
  obtain ⟨b, off, e, hbn, hc⟩ := h3 hl
  exact ⟨b, off, e, hbn, fun i hi => hk.cell (hM b off hbn e) (hc i hi)⟩

set_option maxRecDepth 100000 in
set_option maxHeartbeats 2000000 in
theorem clocksV1_in (B n : Nat) (hn : 1 ≤ n) (l Bw : Nat) (M : Nat → Prop) (ao : Option Addr) (cap : Nat) (c : List UInt64) (J Jx : List Nat → World → Prop)
    (hY : ∀ pre x W, J pre W → AtNz c pre x → YieldAt Fence.wide (n - 1) Tryd.prog l (nzV c x) W fun e W' =>
      (e = .returned (.bool true) ∧ J (pre ++ [x]) W' ∧ KeepC M W W' ∧ KeepsFrom B W W') ∨ (e = .returned (.bool false) ∧ Jx (pre ++ [x]) W' ∧ KeepsFrom B W W'))
    (W : World) (nv : Nat) (hv : Words nv W (.slice ao c.length cap) c) (hvM : ∀ b o, b < nv → ao = some ⟨b, o, none⟩ → ¬ M b) (hBw : ¬ M Bw)
    (cw : W.cell? ⟨Bw, 0, none⟩ = some (.slice ao c.length cap)) (h0 : J [] W) :
    CallsIn Fence.wide n Tryd.prog 103 #[.func (.yield l) #[] #[], .pointer (some ⟨Bw, 0, none⟩)] W fun e W' => (∃ v, e = .returned v) ∧
      ((∃ ys, ys = nzT c c.length ∧ J ys W') ∨ (∃ pre, (∃ x, x < c.length ∧ gD c x ≠ 0 ∧ pre = nzT c (x + 1)) ∧ Jx pre W')) := by
  have HM := Lib.hid hBw; clear hBw
  have HY := Lib.hid hY; clear hY
  have HV := Lib.hid hv
  have HVM := Lib.hid hvM; clear hvM
  obtain ⟨_, h1, h2⟩ := hv.len
  clear hv
  refine callsIn_of_wp Tryd.func103 rfl trivial ?_ rfl
  simp only [Tryd.ntmps103, List.size_toArray, List.length_cons, List.length_nil, Nat.reduceAdd, Nat.reduceSub, Array.replicate_succ, Array.replicate_zero, List.push_toArray, List.append_toArray, List.nil_append, List.cons_append]
  gi_wp2
  gi_loopw [7] (fun i wr => ∃ j : Nat, i = .int .i64 j ∧ j ≤ c.length ∧ J (nzT c j) wr ∧ KeepC M W wr) (fun i _ => c.length - (intOf i).toNat)
  case atStart => exact ⟨0, rfl, Nat.zero_le _, h0, KeepC.refl _ _⟩
  case round =>
    obtain ⟨j, rfl, hjl, hJs, hnx⟩ := hrel
    have HX := Lib.hid hnx; clear hnx
    have HJ := Lib.hid hJs; clear hJs
    by_cases hlt : j < c.length
    · obtain ⟨b, off, rfl, hc⟩ := word_cell (HV.out.keep HX.out HVM.out) j hlt
      by_cases h00 : gD c j = 0
      · have hc' : wr.cell? ⟨b, off + j, none⟩ = some (.int .u64 0) := by rw [hc, h00]; rfl
        clear hc
        gi_wp2
        refine ⟨fun f h => (by cases h), ?_⟩
        gi_wp2
        go_roundw
        case rel => exact ⟨j + 1, by go_num, hlt, by rw [nzT_no h00]; exact HJ.out, HX.out⟩
        case measure => simp [intOf]; omega
      · obtain ⟨fn, tmps, assign, body, hy, hR⟩ := HY.out _ j wr HJ.out ⟨hlt, h00, rfl⟩
        dsimp only [nzV] at hy
        obtain ⟨y, hy'⟩ : ∃ y : Int, (((gD c j).toNat : Nat) : Int) = y := ⟨_, rfl⟩
        have hy0 : y ≠ 0 := by
          intro h
          apply h00
          apply UInt64.toNat_inj.1
          rw [h] at hy'
          simpa using hy'
        rw [hy'] at hc hy
        clear hy'
        have H00 := Lib.hid h00; clear h00
        gi_wp2
        refine hR.mono ?_
        rintro e W3 (⟨rfl, hJ3, hk3, _⟩ | ⟨rfl, hJx3, _⟩)
        · have HJ3 := Lib.hid hJ3; clear hJ3
          have HX3 := Lib.hid (HX.out.trans hk3); clear hk3
          gi_wp2
          go_roundw
          case rel => exact ⟨j + 1, by go_num, hlt, by rw [nzT_yes H00.out]; exact HJ3.out, HX3.out⟩
          case measure => simp [intOf]; omega
        · have HJ3 := Lib.hid hJx3; clear hJx3
          gi_wp2
          refine bodyPost_ret (results_none rfl _ _ _) rfl ?_
          exact ⟨⟨_, rfl⟩, .inr ⟨_, ⟨j, hlt, H00.out, (nzT_yes H00.out).symm⟩, HJ3.out⟩⟩
    · gi_wp2
      go_end0
      obtain rfl : j = c.length := by omega
      exact ⟨⟨_, rfl⟩, .inl ⟨_, rfl, HJ.out⟩⟩
/-- .. as the law of a range asks for it. -/
theorem clocksV_seq (n : Nat) (hn : 1 ≤ n) (Bw : Nat) (M : Nat → Prop) (ao : Option Addr) (cap : Nat) (c : List UInt64) (w : World) (nv : Nat) (hv : Words nv w (.slice ao c.length cap) c) (hvM : ∀ b o, b < nv → ao = some ⟨b, o, none⟩ → ¬ M b) (hBw : ¬ M Bw)
    (cw : w.cell? ⟨Bw, 0, none⟩ = some (.slice ao c.length cap)) :
    SeqS Fence.wide n Tryd.prog 103 #[.pointer (some ⟨Bw, 0, none⟩)] (nzV c) (KeepC M) (fun xs => xs = nzT c c.length) (fun pre => ∃ x, x < c.length ∧ gD c x ≠ 0 ∧ pre = nzT c (x + 1)) (AtNz c) w := fun l J Jx W hb _ _ hY h0 =>
  clocksV1_in W.heap.size n hn l Bw M ao cap c J Jx hY W nv (hv.keep (KeepC.of_below (M := M) hb) hvM) hvM hBw (Adds.cellAt hb cw) h0
end Go.Proofs.YtcimppggemdidaaDoor
