/- The iterator over those that are held: its contract, at the wide fence. -/
import Derived.Test.YtdmbjonbcomphaaUK4
import Derived.Test.YtdmbjonbcomphaaBB
namespace Go.Proofs.Ytdmbjonbcomphaa
open Go Go.RowKit Go.Shelf Go.Maps
attribute [local go_sem] Oper.semAt_some

/-- The round that comes next, of N. -/
def AtU (N : Nat) (pre : List Nat) (x : Nat) : Prop := x < N ∧ pre = List.range x
/-- One that is held, and who holds it. -/
def heA (l : List Int) (x : Nat) : Int := (heldL l).getD x 0
abbrev heV (l : List Int) (x : Nat) : Array Value := #[.int .i64 (heA l x), .int .i64 (whoL l (heA l x))]
/-- Cells stay but M's; and the map in b. -/
def KpU (M : Nat → Prop) (b : Nat) (W W' : World) : Prop := KeepC M W W' ∧ W'.heap[b]? = W.heap[b]?
theorem KpU.refl (M : Nat → Prop) (b : Nat) (W : World) : KpU M b W W := ⟨KeepC.refl _ _, rfl⟩
theorem KpU.trans {M : Nat → Prop} {b : Nat} {A B C : World} (h : KpU M b A B) (k : KpU M b B C) : KpU M b A C := ⟨h.1.trans k.1, k.2.trans h.2⟩
theorem KpU.of_adds {M : Nat → Prop} {b : Nat} {W W' : World} (h : Adds W W') (hb : b < W.heap.size) : KpU M b W W' := ⟨KeepC.of_below h, h.block b hb⟩
theorem held_at {l : List Int} {k : Nat} (h : k < (heldL l).length) : atL l ((heldL l).getD k 0) ≠ 0 := by
  rw [List.getD_eq_getElem?_getD, List.getElem?_eq_getElem h]
  exact heldL_mem.1 (List.getElem_mem h)
set_option maxRecDepth 100000 in
set_option maxHeartbeats 4000000 in
theorem rising1_in (B n : Nat) (hn : 1 ≤ n) (l Bm b : Nat) (M : Nat → Prop) (L : List Int) (N : Nat) (hN : (heldL L).length = N) (hl : L.length ≤ 64) (J Jx : List Nat → World → Prop) (W : World)
    (hJ : Stable W.heap.size J)
    (hY : ∀ pre x W1, J pre W1 → AtU N pre x → YieldAt Fence.wide (n - 1) Try.prog l (heV L x) W1 fun z W' =>
      (z = .returned (.bool true) ∧ J (pre ++ [x]) W' ∧ KpU M b W1 W' ∧ KeepsFrom B W1 W') ∨ (z = .returned (.bool false) ∧ Jx (pre ++ [x]) W' ∧ KeepsFrom B W1 W'))
    (_hB : B ≤ W.heap.size) (hM : ∀ k, M k → k < W.heap.size) (hBm : ¬ M Bm) (c1 : W.cell? ⟨Bm, 0, none⟩ = some (.map (some b))) (hH : HolF W b L) (h0 : J [] W) :
    CallsIn Fence.wide n Try.prog 38 #[.func (.yield l) #[] #[], .pointer (some ⟨Bm, 0, none⟩)] W fun z W' => (∃ v, z = .returned v) ∧
      ((∃ ys, ys = List.range N ∧ J ys W') ∨ (∃ pre, (∃ j, j ≤ N ∧ pre = List.range j) ∧ Jx pre W')) := by
  have HY := Lib.hid hY; have HJ := Lib.hid hJ; have HH := Lib.hid hH; have HL := Lib.hid (show (heldL L).length ≤ 64 by have := heldL_length L; omega); have HM := Lib.hid hM; have HBm := Lib.hid hBm
  rw [hN] at HL
  have HNN := Lib.hid hN
  have HK := Lib.hid (keysU_any (some b) W)
  obtain ⟨w1, hw1⟩ : ∃ w1, W.alloc (.cells #[.map (some b)] 46) = w1 := ⟨_, rfl⟩
  rw [hw1] at HK
  have HA := Lib.hid (show Adds W w1 by rw [← hw1]; exact (Gr.new _ _).adds)
  have HC := Lib.hid (sortedU_any W.heap.size b L w1 (by rw [← hw1]; simp) (hH.adds HA.out) hl)
  clear hw1 hY hJ hH hM hBm hN
  refine callsIn_of_wp Try.func38 rfl trivial ?_ rfl
  simp only [Try.ntmps38, List.size_toArray, List.length_cons, List.length_nil, Nat.reduceAdd, Nat.reduceSub, Array.replicate_succ, Array.replicate_zero, List.push_toArray, List.append_toArray, List.nil_append, List.cons_append]
  gi_wp2_with (first
    | (refine ⟨trivial, ?_⟩; gi_at_call 40; refine (callsIn_wide.2 HK.out).mono ?_; rintro e w2 ⟨rfl, rfl⟩)
    | (refine ⟨trivial, ?_⟩; gi_at_call 39; refine (callsIn_wide.2 HC.out).mono ?_; rintro e w3 ⟨v, rfl, h1, h2⟩; have H1 := Lib.hid h1; have HA3 := Lib.hid (Adds.trans HA.out h2); clear h1 h2; obtain ⟨ao, cap, rfl, hrow⟩ := H1.out.row (M := M) (fun k h => Nat.lt_of_lt_of_le (HM.out k h) HA.out.size); have HRow := Lib.hid hrow; clear hrow))
  have HB0 := Lib.hid (show KpU M b W w3 from KpU.of_adds HA3.out HH.out.lt)
  have HJ0 := Lib.hid (HJ.out _ _ _ h0 HA3.out)
  have HRow' := Lib.hid (show RowK M w3 (.slice ao (heldL L).length cap) (heldL L) from ⟨ao, cap, rfl, HRow.out⟩)
  rw [HNN.out] at HRow' ⊢
  clear h0 H1 HRow
  gi_loopw [9] (fun i wr => ∃ k : Nat, i = .int .i64 k ∧ k ≤ N ∧ J (List.range k) wr ∧ KpU M b W wr ∧ KeepC M w3 wr ∧ W.heap.size ≤ wr.heap.size) (fun i _ => N + 1 - (intOf i).toNat)
  case atStart => exact ⟨0, rfl, Nat.zero_le _, HJ0.out, HB0.out, KeepC.refl _ _, HA3.out.size⟩
  case round =>
    obtain ⟨k, rfl, hk, hJs, hnx, hny, hsz⟩ := hrel
    have HX := Lib.hid hnx; have HJs := Lib.hid hJs; have HSz := Lib.hid hsz; have HXY := Lib.hid hny
    have hlI : (N : Int) ≤ 64 := by have := HL.out; omega
    have cm : wr.cell? ⟨Bm, 0, none⟩ = some (.map (some b)) := HX.out.1.cell HBm.out c1
    clear hnx hJs hsz hny
    by_cases hlt : k < N
    · obtain ⟨ao', cap', e, hc⟩ := HRow'.out.keepC HXY.out
      obtain ⟨g, rfl, hg, hc2⟩ := hc k (by rw [HNN.out]; exact hlt)
      clear hc
      have hc := hc2
      clear hc2
      simp only [Value.slice.injEq] at e
      obtain ⟨rfl, e0, rfl⟩ := e
      clear e0
      obtain ⟨fn, tmps, assign, body, hy, hR⟩ := HY.out _ k wr HJs.out ⟨hlt, rfl⟩
      have hin := atL_in (held_at (l := L) (k := k) (by rw [HNN.out]; exact hlt))
      have hlen := heldL_length L
      have hlk := (HH.out.same HX.out.2).look (i := (heldL L).getD k 0) ⟨by omega, by omega⟩
      dsimp only [heV, heA] at hy
      obtain ⟨y, hyy⟩ : ∃ y, (heldL L).getD k 0 = y := ⟨_, rfl⟩
      rw [hyy] at hy hlk hc
      obtain ⟨z, hzz⟩ : ∃ z, whoL L y = z := ⟨_, rfl⟩
      rw [hzz] at hy hlk
      have hkI : (k : Int) < (N : Int) := by omega
      have HY2 := Lib.hid (And.intro hlt hg)
      clear hyy hzz hin hlen hlt hg hk
      gi_wp2
      refine hR.mono ?_
      rintro e W3 (⟨rfl, hJ3, hk3, hf3⟩ | ⟨rfl, hJx3, hf3⟩)
      · have HJ3 := Lib.hid (And.intro hJ3 (And.intro hk3 hf3))
        clear hJ3 hk3 hf3
        gi_wp2
        go_roundw
        case rel => exact ⟨k + 1, by go_num, HY2.out.1, by rw [List.range_succ]; exact HJ3.out.1, HX.out.trans HJ3.out.2.1, HXY.out.trans HJ3.out.2.1.1, Nat.le_trans HSz.out HJ3.out.2.2.size⟩
        case measure => have := HY2.out.1; simp [intOf]; omega
      · have HJ3 := Lib.hid hJx3; clear hJx3 hf3
        gi_wp2
        refine bodyPost_ret (results_none rfl _ _ _) rfl ?_
        exact ⟨⟨_, rfl⟩, .inr ⟨_, ⟨k + 1, HY2.out.1, (List.range_succ).symm⟩, HJ3.out⟩⟩
    · have hkI : ¬ (k : Int) < (N : Int) := by omega
      have HE := Lib.hid (show k = N by omega)
      clear hlt hk
      gi_wp2
      go_end0
      exact ⟨⟨_, rfl⟩, .inl (by rw [← HE.out]; exact HJs.out)⟩
end Go.Proofs.Ytdmbjonbcomphaa
