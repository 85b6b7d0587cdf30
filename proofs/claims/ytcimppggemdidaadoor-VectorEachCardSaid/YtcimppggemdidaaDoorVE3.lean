/- Each's sequence: a range over clocks that hands each one on; Each itself. -/
import Derived.Test.YtcimppggemdidaaDoorVE1
import Derived.Test.YtcimppggemdidaaDoorVG4
namespace Go.Proofs.YtcimppggemdidaaDoor
open Go Go.RowKit Go.Shelf
attribute [local go_sem] Oper.semAt_some

theorem keepC_stableV {β : Type} (M : Nat → Prop) {B : Nat} {W : World} (hB : W.heap.size ≤ B) : Stable B (fun (_ : β) W' => KeepC M W W') := fun _ A C hs hb k c e f hk hc =>
  (hb.block k (Nat.lt_of_lt_of_le (Array.getElem?_eq_some_iff.1 hc).1 hB)).trans (hs k c e f hk hc)

set_option maxRecDepth 100000 in
set_option maxHeartbeats 4000000 in
theorem eachV1_in (B n : Nat) (hn : 4 ≤ n) (l Bk : Nat) (M : Nat → Prop) (ao : Option Addr) (cap : Nat) (c : List UInt64) (J Jx : List Nat → World → Prop)
    (W : World) (hJ : Stable W.heap.size J) (hJx : Stable W.heap.size Jx)
    (hY : ∀ pre x W, J pre W → AtNz c pre x → YieldAt Fence.wide (n - 1) Tryd.prog l (nzV c x) W fun e W' =>
      (e = .returned (.bool true) ∧ J (pre ++ [x]) W' ∧ KeepC M W W' ∧ KeepsFrom B W W') ∨ (e = .returned (.bool false) ∧ Jx (pre ++ [x]) W' ∧ KeepsFrom B W W'))
    (hB : B ≤ W.heap.size) (hM : ∀ b, M b → b < W.heap.size) (nv : Nat) (hv : Words nv W (.slice ao c.length cap) c) (hvM : ∀ b o, b < nv → ao = some ⟨b, o, none⟩ → ¬ M b)
    (hMk : ¬ M Bk) (ck : W.cell? ⟨Bk, 0, none⟩ = some (.slice ao c.length cap)) (h0 : J [] W) :
    CallsIn Fence.wide n Tryd.prog 79 #[.func (.yield l) #[] #[], .pointer (some ⟨Bk, 0, none⟩)] W fun e W' => (∃ v, e = .returned v) ∧
      ((∃ ys, ys = nzT c c.length ∧ J ys W') ∨ (∃ pre, (∃ x, x < c.length ∧ gD c x ≠ 0 ∧ pre = nzT c (x + 1)) ∧ Jx pre W')) := by
  have HY := Lib.hid hY; clear hY
  have HV := Lib.hid hv; clear hv
  have HJ := Lib.hid hJ; clear hJ
  have HJX := Lib.hid hJx; clear hJx
  have HM := Lib.hid hM; clear hM
  have HMK := Lib.hid hMk; clear hMk
  have HVM := Lib.hid hvM; clear hvM
  refine callsIn_of_wp_marks Tryd.func79 rfl trivial ?_ rfl
  simp only [Tryd.ntmps79, List.size_toArray, List.length_cons, List.length_nil, Nat.reduceAdd, Nat.reduceSub, Array.replicate_succ, Array.replicate_zero, List.push_toArray, List.append_toArray, List.nil_append, List.cons_append]
  gi_wp2
  refine wpIn_scope_straight ?_
  generalize hWa : W.alloc (Obj.cells #[Value.func (Fn.yield l) #[] #[]] _) = Wa
  have HA := Lib.hid (hWa ▸ Adds.new W _ : Adds W Wa)
  have HSA := Lib.hid (show Wa.heap.size = W.heap.size + 1 by rw [← hWa]; simp)
  have ca1 : Wa.cell? ⟨Bk, 0, none⟩ = some (.slice ao c.length cap) := HA.out.cellAt ck
  have ca2 : Wa.cell? ⟨W.heap.size, 0, none⟩ = some (.func (.yield l) #[] #[]) := by rw [← hWa]; simp
  clear hWa
  have h1n : 1 ≤ n := by omega
  apply wpIn_seq_k; intro K1 hK1
  refine wpIn_label ?_
  refine hK1 _ _ ?_
  clear hK1 K1
  gi_wp2_with (refine ⟨trivial, ?_⟩; gi_at_call 80; refine (callsIn_wide.2 (clocks_vany _ _ _ _)).mono ?_; rintro e w' ⟨rfl, rfl⟩)
  generalize hWb : World.alloc Wa _ = Wb
  have HB := Lib.hid (hWb ▸ (Adds.new Wa _) : Adds Wa Wb)
  have HSB := Lib.hid (show Wb.heap.size = Wa.heap.size + 1 by rw [← hWb]; simp)
  have cb0 : Wb.cell? ⟨Wa.heap.size, 0, none⟩ = some (.slice ao c.length cap) := by rw [← hWb]; simp
  have cb2 : Wb.cell? ⟨W.heap.size, 0, none⟩ = some (.func (.yield l) #[] #[]) := HB.out.cellAt ca2
  clear hWb
  have HAB := Lib.hid (HA.out.trans HB.out)
  have hsa := HSA.out
  have hsb := HSB.out
  refine' rangeFunc_S rfl (by omega) (gf := 103) (lb := #[.pointer (some ⟨Wa.heap.size, 0, none⟩)]) rfl trivial (enters_of Tryd.func103 (by kernel_rfl) rfl)
    (clocksV_seq (n - 1) (by omega) Wa.heap.size M ao cap c Wb nv (HV.out.keep (KeepC.of_below (M := M) HAB.out) HVM.out) HVM.out (fun hm => by have := HM.out _ hm; omega) cb0)
    KeepC.trans (fun W l o o' _ h hc _ => KeepC.put W l o o' h hc) (Below.refl _ _) (fun _ => rfl)
    (fun pre Wr => J pre Wr ∧ KeepC M Wb Wr) (fun c pre Wr => c = .exit 0 ∧ Jx pre Wr) ?own ?ownx ?h0 _ ?assign ?body ?done ?stop
  case own => exact (Stable.higher HJ.out (by omega)).and (keepC_stableV _ (Nat.le_refl _))
  case ownx => exact fun c s A C hs hb => ⟨hs.1, HJX.out s A C hs.2 (hb.mono (by omega))⟩
  case h0 => exact ⟨HJ.out _ _ _ h0 HAB.out, KeepC.refl _ _⟩
  case assign =>
    intro l2 x W2 K hK
    have HK := Lib.hid hK; clear hK
    gi_wp2
    exact HK.out
  case body =>
    rintro l2 pre x W2 ⟨hJ2, hk2⟩ hg
    have hd : 1 ≤ n - 1 - 1 := by omega
    have c3 : W2.cell? ⟨W.heap.size, 0, none⟩ = some (.func (.yield l) #[] #[]) := hk2.cell (fun hm => by have := HM.out _ hm; omega) cb2
    obtain ⟨fn, tmps, assign, body, hy, hR⟩ := HY.out pre x W2 hJ2 hg
    have HK2 := Lib.hid hk2; clear hk2 hg hJ2
    dsimp only [nzV] at hy
    obtain ⟨y, hyy⟩ : ∃ y : Int, (((gD c x).toNat : Nat) : Int) = y := ⟨_, rfl⟩
    rw [hyy] at hy
    simp only [hyy]
    clear hyy
    gi_wp2
    refine (RoundIn.wider hR l2 _).mono ?_
    rintro e W3 (⟨rfl, hJ3, hk3, hf3⟩ | ⟨rfl, hJx3, hf3⟩)
    · have HF := Lib.hid (And.intro hJ3 (And.intro hk3 hf3)); clear hJ3 hk3 hf3
      gi_wp2
      obtain ⟨hJ3, hk3, hf3⟩ := HF.out
      exact ⟨KeepsFrom.higher hf3 (by omega), hk3, hJ3, HK2.out.trans hk3⟩
    · have HF := Lib.hid (And.intro hJx3 hf3); clear hJx3 hf3
      gi_wp2
      obtain ⟨hJx3, hf3⟩ := HF.out
      exact ⟨KeepsFrom.higher hf3 (by omega), rfl, hJx3⟩
  case done =>
    rintro D xs W2 hD rfl ⟨hJ2, hk2⟩ hK
    gi_wp2
    show LeavesInM _ _ _ _ _ _ _ _ _
    refine ⟨by simp, .inl ⟨_, _, rfl, run_takeDeferred hK, ?_⟩⟩
    exact ⟨_, results_none rfl _ _ _, ⟨_, rfl⟩, .inl ⟨_, rfl, HJ.out.putObj _ hJ2 (by omega) hK rfl⟩⟩
  case stop =>
    rintro D c pre W2 hD hpre ⟨rfl, hx⟩ hK
    gi_wp2
    show LeavesInM _ _ _ _ _ _ _ _ _
    refine ⟨by simp, .inl ⟨_, _, rfl, run_takeDeferred hK, ?_⟩⟩
    exact ⟨_, results_none rfl _ _ _, ⟨_, rfl⟩, .inr ⟨_, hpre, HJX.out.putObj _ hx (by omega) hK rfl⟩⟩

theorem eachV_seq (n : Nat) (hn : 4 ≤ n) (Bk : Nat) (M : Nat → Prop) (ao : Option Addr) (cap : Nat) (c : List UInt64) (w : World) (nv : Nat) (hM : ∀ b, M b → b < w.heap.size) (hv : Words nv w (.slice ao c.length cap) c) (hvM : ∀ b o, b < nv → ao = some ⟨b, o, none⟩ → ¬ M b)
    (hMk : ¬ M Bk) (ck : w.cell? ⟨Bk, 0, none⟩ = some (.slice ao c.length cap)) :
    SeqS Fence.wide n Tryd.prog 79 #[.pointer (some ⟨Bk, 0, none⟩)] (nzV c) (KeepC M) (fun xs => xs = nzT c c.length) (fun pre => ∃ x, x < c.length ∧ gD c x ≠ 0 ∧ pre = nzT c (x + 1)) (AtNz c) w := fun l J Jx W hb hJ hJx hY h0 =>
  eachV1_in W.heap.size n hn l Bk M ao cap c J Jx W hJ hJx hY (Nat.le_refl _) (fun b h => Nat.lt_of_lt_of_le (hM b h) hb.size) nv (hv.keep (KeepC.of_below (M := M) hb) hvM) hvM hMk (Adds.cellAt hb ck) h0

def EachPostV (c : List UInt64) (w : World) (e : Ending) (w' : World) : Prop :=
  Adds w w' ∧ ∃ Bk ao cap, e = .returned (.func (.func 79) #[] #[.pointer (some ⟨Bk, 0, none⟩)]) ∧ w.heap.size ≤ Bk ∧ Bk < w'.heap.size ∧
    w'.cell? ⟨Bk, 0, none⟩ = some (.slice ao (tN c) cap) ∧ Words w'.heap.size w' (.slice ao (tN c) cap) (vTrim c) ∧ (∀ b o, ao = some ⟨b, o, none⟩ → w.heap.size ≤ b ∧ b < w'.heap.size)

set_option maxRecDepth 100000 in
set_option maxHeartbeats 1000000 in
theorem eachV_any {n : Nat} (v : Value) (c : List UInt64) (w : World) (hv : Words n w v c) (hc : c.length ≤ 200000) : Calls Tryd.prog 43 #[v] w (EachPostV c w) := by
  have HT := Lib.hid (trim_any v c w hv hc)
  obtain ⟨ao, cap, rfl, _⟩ := hv
  go_enter Tryd.func43, Tryd.ntmps43
  go_wp2_with (go_at_call 31; refine HT.out.mono ?_; rintro e w1 ⟨v1, rfl, o1, a1⟩; obtain ⟨a2, c2, rfl⟩ := o1.isSlice; have O1 := Lib.hid o1; have A1 := Lib.hid a1; clear o1 a1)
  go_ret
  have hs1 := A1.out.size
  have hw := O1.out.words
  have hb : ∀ b o, a2 = some ⟨b, o, none⟩ → w.heap.size ≤ b ∧ b < w1.heap.size := by
    intro b o e
    rcases O1.out.2 with ⟨e1, _⟩ | ⟨g, cc, cur, e1, hbg, hg, _⟩
    · simp only [Value.slice.injEq] at e1
      rw [e1.1] at e
      cases e
    · simp only [Value.slice.injEq] at e1
      rw [e1.1] at e
      cases e
      exact ⟨hbg, (Array.getElem?_eq_some_iff.1 hg).1⟩
  rw [len_trim] at hw ⊢
  generalize hw2 : World.alloc w1 _ = w2
  have A2 : Adds w1 w2 := hw2 ▸ Adds.new _ _
  have hs2 : w2.heap.size = w1.heap.size + 1 := by rw [← hw2]; simp
  exact ⟨A1.out.trans A2, w1.heap.size, a2, c2, rfl, hs1, by omega, by rw [← hw2]; simp, hw.adds A2, fun b o e => ⟨(hb b o e).1, by have := (hb b o e).2; omega⟩⟩
end Go.Proofs.YtcimppggemdidaaDoor
