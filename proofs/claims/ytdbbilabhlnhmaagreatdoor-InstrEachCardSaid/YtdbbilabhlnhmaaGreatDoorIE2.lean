/- Each, and the iterator that it hands back: contracts, at the wide fence. -/
import Derived.Test.YtdbbilabhlnhmaaGreatDoorIE1
import Derived.Test.YtdbbilabhlnhmaaGreatDoorSI2
namespace Go.Proofs.YtdbbilabhlnhmaaGreatDoor
open Go Go.RowKit Go.Shelf
attribute [local go_sem] Oper.semAt_some

theorem keepC_stable8 (M : Nat → Prop) {B : Nat} {W : World} (hB : W.heap.size ≤ B) {β : Type} : Stable B (fun (_ : β) W' => KeepC M W W') := fun _ A C h hb k c e f hk hc => by
  have hlt := (Array.getElem?_eq_some_iff.1 hc).1
  rw [hb.block k (by omega)]
  exact h k c e f hk hc
theorem keepsFrom_up8 {B B' : Nat} {W W' : World} (h : KeepsFrom B W W') (hB : B ≤ B') : KeepsFrom B' W W' := ⟨h.size, fun k o hk ho hc => h.same k o (Nat.le_trans hB hk) ho hc⟩

set_option maxRecDepth 100000 in
set_option maxHeartbeats 4000000 in
theorem each8_in {m0 : Nat} (n : Nat) (hn : 4 ≤ n) (l Bw : Nat) (M : Nat → Prop) (ao : Option Addr) (cap : Nat) (L : List UInt8) (hl : L.length ≤ 1048576) (J Jx : List Nat → World → Prop)
    (W : World) (hJ : Stable W.heap.size J) (hJx : Stable W.heap.size Jx)
    (hY : ∀ pre x W1, J pre W1 → AtJ8 (cntI L) pre x → YieldAt Fence.wide (n - 1) Tryz.prog l (ixI L x) W1 fun z W' =>
      (z = .returned (.bool true) ∧ J (pre ++ [x]) W' ∧ KeepC M W1 W' ∧ KeepsFrom W.heap.size W1 W') ∨ (z = .returned (.bool false) ∧ Jx (pre ++ [x]) W' ∧ KeepsFrom W.heap.size W1 W'))
    (hM : ∀ b, M b → b < W.heap.size) (hMa : ∀ b o, ao = some ⟨b, o, none⟩ → ¬ M b) (hMw : ¬ M 1) (c0 : W.cell? ⟨Bw, 0, none⟩ = some (.slice ao L.length cap)) (hP : Bytes m0 W (.slice ao L.length cap) L) (hw : Widths W) (h0 : J [] W) :
    CallsIn Fence.wide n Tryz.prog 43 #[.func (.yield l) #[] #[], .pointer (some ⟨Bw, 0, none⟩)] W fun z W' => (∃ v, z = .returned v) ∧
      ((∃ ys, ys = List.range (cntI L) ∧ J ys W') ∨ (∃ pre, (∃ j, j ≤ cntI L ∧ pre = List.range j) ∧ Jx pre W')) := by
  have HY := Lib.hid hY; have HJ := Lib.hid hJ; have HJX := Lib.hid hJx; have HM := Lib.hid hM; have HP := Lib.hid hP; have HL := Lib.hid hl; have HW := Lib.hid hw; have HMa := Lib.hid hMa; have HMw := Lib.hid hMw
  clear hY hJ hJx hM hl hw hMa hMw hP
  refine callsIn_of_wp_marks Tryz.func43 rfl trivial ?_ rfl
  simp only [Tryz.ntmps43, List.size_toArray, List.length_cons, List.length_nil, Nat.reduceAdd, Nat.reduceSub, Array.replicate_succ, Array.replicate_zero, List.push_toArray, List.append_toArray, List.nil_append, List.cons_append]
  gi_wp2
  refine wpIn_scope_straight ?_
  apply wpIn_seq_k; intro K1 hK1
  refine wpIn_label ?_
  refine hK1 _ _ ?_
  clear hK1 K1
  obtain ⟨Wa, hWa⟩ : ∃ Wa, W.alloc (Obj.cells #[Value.func (Fn.yield l) #[] #[]] 91) = Wa := ⟨_, rfl⟩
  have HA := Lib.hid (hWa ▸ (Gr.new W _).adds : Adds W Wa)
  have ca0 : Wa.cell? ⟨Bw, 0, none⟩ = some (.slice ao L.length cap) := HA.out.cellAt c0
  have ca3 : Wa.cell? ⟨W.heap.size, 0, none⟩ = some (.func (.yield l) #[] #[]) := by rw [← hWa]; simp
  have hsa : W.heap.size + 1 = Wa.heap.size := by rw [← hWa]; simp
  have HSa := Lib.hid hsa
  rw [hWa]
  clear hWa hsa
  have h1n : 1 ≤ n := by omega
  gi_wp2_with (refine ⟨trivial, ?_⟩; gi_at_call 44; refine (callsIn_wide.2 (instrs_any _ _ _ _)).mono ?_; rintro e w' ⟨rfl, rfl⟩)
  obtain ⟨Wb, hWb⟩ : ∃ Wb, World.alloc Wa (.cells #[.slice ao L.length cap] 68) = Wb := ⟨_, rfl⟩
  have HB := Lib.hid (hWb ▸ (Gr.new Wa _).adds : Adds Wa Wb)
  have cb0 : Wb.cell? ⟨Wa.heap.size, 0, none⟩ = some (.slice ao L.length cap) := by rw [← hWb]; simp
  have cb3 : Wb.cell? ⟨W.heap.size, 0, none⟩ = some (.func (.yield l) #[] #[]) := HB.out.cellAt ca3
  have HAB := Lib.hid (Adds.trans HA.out HB.out)
  rw [hWb]
  clear hWb ca0 ca3
  have hz := HAB.out.size
  have HPb := Lib.hid (bytes_keep HP.out (KeepC.of_below (M := M) HAB.out) HMa.out)
  have HWb := Lib.hid (HW.out.adds HAB.out)
  refine' rangeFunc_SB rfl (by omega) (gf := 82) (lb := #[.pointer (some ⟨Wa.heap.size, 0, none⟩)]) rfl trivial (enters_of Tryz.func82 (by kernel_rfl) rfl)
    (w0 := Wb) (G := AtJ8 (cntI L)) (encs := ixI L) (Kp := KeepC M) (S := fun xs => xs = List.range (cntI L)) (Sp := fun pre => ∃ j, j ≤ cntI L ∧ pre = List.range j)
    ?seq KeepC.trans (fun W l o o' _ h hc _ => KeepC.put W l o o' h hc) (Below.refl _ _) (fun _ => rfl)
    (fun pre Wr => J pre Wr ∧ KeepC M Wb Wr) (fun c pre Wr => c = .exit 0 ∧ Jx pre Wr) ?own ?ownx ?h0 _ (fun x => .cells (insC (xI L x)).toArray 25 (0, 0)) (fun W o _ => KeepC.of_below (Gr.new W o).adds) ?assign ?body ?done ?stop
  case assign =>
    intro l2 x W2 bb K hbb hK
    have HK := Lib.hid hK; clear hK
    gi_wp2
    exact HK.out
  case own => exact (Stable.higher HJ.out (by omega)).and (keepC_stable8 M (Nat.le_refl _))
  case ownx => exact fun c s A C hs hb => ⟨hs.1, HJX.out s A C hs.2 (hb.mono (by omega))⟩
  case seq =>
    intro l' J' Jx' W2 hb hJ' hJx' hY' h0'
    have hkb := KeepC.of_below (M := M) hb
    exact instrs1_in W2.heap.size (n - 1) (by omega) l' _ M ao cap L HL.out J' Jx' W2 hJ' hY' (Nat.le_refl _) (fun hm => by have := HM.out _ hm; have := HSa.out; omega) HMa.out HMw.out (Adds.cellAt hb cb0) (bytes_keep HPb.out hkb HMa.out) (HWb.out.adds hb) h0'
  case h0 => exact ⟨HJ.out _ _ _ h0 HAB.out, KeepC.refl _ _⟩
  case body =>
    rintro l2 pre x W2 bb ⟨hJ2, hk2⟩ hg hbb hbo
    have c2 : W2.cell? ⟨W.heap.size, 0, none⟩ = some (.func (.yield l) #[] #[]) := hk2.cell (fun hm => by have := HM.out _ hm; omega) cb3
    have bk : BkS 25 W2 bb (insC (xI L x)) := hbo
    obtain ⟨fn, tmps, assign, body, hy, hR⟩ := HY.out pre x W2 hJ2 hg
    dsimp only [ixI] at hy
    obtain ⟨⟨x0, x1, x2, x3, x4⟩, hx⟩ : ∃ y, xI L x = y := ⟨_, rfl⟩
    obtain ⟨p, hp⟩ : ∃ p, posI L x = p := ⟨_, rfl⟩
    rw [hx, hp] at hy
    rw [hx] at bk
    simp only [hp, hx]
    have e0 : W2.cell? ⟨bb, 0, none⟩ = some (.int .i64 x0) := bk.cell 0
    have e1 : W2.cell? ⟨bb, 1, none⟩ = some (.int .i64 x1) := bk.cell 1
    have e2 : W2.cell? ⟨bb, 2, none⟩ = some (.int .i64 x2) := bk.cell 2
    have e3 : W2.cell? ⟨bb, 3, none⟩ = some (.int .i64 x3) := bk.cell 3
    have e4 : W2.cell? ⟨bb, 4, none⟩ = some (.int .u32 x4) := bk.cell 4
    have HK2 := Lib.hid hk2
    have HZ := Lib.hid hz
    clear bk hbo hbb hg hJ2 hk2 hz hx hp
    have hd : 1 ≤ n - 1 - 1 := by omega
    gi_wp2
    refine (RoundIn.wider hR l2 _).mono ?_
    rintro e W3 (⟨rfl, hJ3, hk3, hf3⟩ | ⟨rfl, hJx3, hf3⟩)
    · have HF := Lib.hid (And.intro hJ3 (And.intro hk3 hf3))
      clear hJ3 hk3 hf3
      gi_wp2
      exact ⟨keepsFrom_up8 HF.out.2.2 HZ.out, HF.out.2.1, HF.out.1, HK2.out.trans HF.out.2.1⟩
    · have HF := Lib.hid (And.intro hJx3 hf3)
      clear hJx3 hf3
      gi_wp2
      exact ⟨keepsFrom_up8 HF.out.2 HZ.out, rfl, HF.out.1⟩
  case done =>
    rintro D xs W2 hD rfl ⟨hJ2, hk2⟩ hK
    gi_wp2
    show LeavesInM _ _ _ _ _ _ _ _ _
    refine ⟨by simp, .inl ⟨_, _, rfl, run_takeDeferred hK, ?_⟩⟩
    exact ⟨_, results_none rfl _ _ _, ⟨_, rfl⟩, .inl ⟨_, rfl, HJ.out.putObj _ hJ2 (by omega) hK rfl⟩⟩
  case stop =>
    rintro D c pre W2 hD hpre ⟨rfl, hx⟩ hK
    gi_wp2
    show LeavesInM _ _ _ _ _ _ _ _ _
    refine ⟨by simp, .inl ⟨_, _, rfl, run_takeDeferred hK, ?_⟩⟩
    exact ⟨_, results_none rfl _ _ _, ⟨_, rfl⟩, .inr ⟨_, hpre, HJX.out.putObj _ hx (by omega) hK rfl⟩⟩
theorem each8_seq {m0 : Nat} (n : Nat) (hn : 4 ≤ n) (Bw : Nat) (M : Nat → Prop) (ao : Option Addr) (cap : Nat) (L : List UInt8) (hl : L.length ≤ 1048576) (w : World) (hM : ∀ b, M b → b < w.heap.size) (hMa : ∀ b o, ao = some ⟨b, o, none⟩ → ¬ M b) (hMw : ¬ M 1)
    (c0 : w.cell? ⟨Bw, 0, none⟩ = some (.slice ao L.length cap)) (hP : Bytes m0 w (.slice ao L.length cap) L) (hw : Widths w) :
    SeqS Fence.wide n Tryz.prog 43 #[.pointer (some ⟨Bw, 0, none⟩)] (ixI L) (KeepC M) (fun xs => xs = List.range (cntI L)) (fun pre => ∃ j, j ≤ cntI L ∧ pre = List.range j) (AtJ8 (cntI L)) w := fun l J Jx W hb hJ hJx hY h0 =>
  each8_in n hn l Bw M ao cap L hl J Jx W hJ hJx hY (fun b h => Nat.lt_of_lt_of_le (hM b h) hb.size) hMa hMw (Adds.cellAt hb c0) (bytes_keep hP (KeepC.of_below (M := M) hb) hMa) (hw.adds hb) h0
/-- Each itself. -/
def Each8Post (L : List UInt8) (w : World) (z : Ending) (w' : World) : Prop :=
  Adds w w' ∧ ∃ Bw ao cap, z = .returned (.func (.func 43) #[] #[.pointer (some ⟨Bw, 0, none⟩)]) ∧ w.heap.size ≤ Bw ∧ Bw < w'.heap.size ∧ w'.cell? ⟨Bw, 0, none⟩ = some (.slice ao L.length cap) ∧ Bytes w'.heap.size w' (.slice ao L.length cap) L ∧ (∀ b o, ao = some ⟨b, o, none⟩ → w.heap.size ≤ b ∧ b < w'.heap.size)
set_option maxRecDepth 100000 in
theorem each8_any (n : Nat) (v : Value) (L : List UInt8) (w : World) (hv : Bytes n w v L) (hl : L.length ≤ 1048576) : Calls Tryz.prog 17 #[v] w (Each8Post L w) := by
  have HC := Lib.hid (clone8 n v L w hv hl)
  obtain ⟨ao0, cap0, rfl, _, _, _⟩ := hv
  go_enter Tryz.func17, Tryz.ntmps17
  go_wp2_with (go_at_call 42; refine HC.out.mono ?_; rintro e w1 ⟨v1, rfl, o1, a1⟩; obtain ⟨ao1, cap1, rfl, hm1, hm2, hm3⟩ := o1.bytes; have HM3 := Lib.hid hm3; clear hm3 hm1 hm2; have O1 := Lib.hid o1; clear o1; have A1 := Lib.hid a1; clear a1; dsimp only [id])
  go_ret
  generalize hw2 : World.alloc w1 _ = w2
  have A2 : Adds w1 w2 := hw2 ▸ (Gr.new _ _).adds
  have hs1 := A1.out.size
  have hs2 : w2.heap.size = w1.heap.size + 1 := by rw [← hw2]; simp
  refine ⟨Adds.trans A1.out A2, w1.heap.size, ao1, cap1, rfl, by omega, by omega, by rw [← hw2]; simp, bytes_adds O1.out.bytes A2, ?_⟩
  intro b o e
  have h2 := O1.out.2
  rcases h2 with ⟨e1, _⟩ | ⟨g, c, cur, e1, hb, hg, _⟩
  · simp only [Value.slice.injEq] at e1
    rw [e1.1] at e
    cases e
  · simp only [Value.slice.injEq] at e1
    rw [e1.1] at e
    cases e
    have h3 := (Array.getElem?_eq_some_iff.1 hg).1
    exact ⟨by omega, by omega⟩
end Go.Proofs.YtdbbilabhlnhmaaGreatDoor
