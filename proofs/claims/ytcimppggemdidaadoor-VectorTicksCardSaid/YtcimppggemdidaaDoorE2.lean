/- Each's sequence: a range over pieces that hands each one's number on. -/
import Derived.Test.YtcimppggemdidaaDoorE1
import Derived.Test.YtcimppggemdidaaDoorSeq
import Derived.Test.YtcimppggemdidaaDoorScopeIn
import Derived.Test.YtcimppggemdidaaDoorW5
namespace Go.Proofs.YtcimppggemdidaaDoor
open Go Go.RowKit Go.Shelf
attribute [local go_sem] Oper.semAt_some

set_option maxHeartbeats 1000000 in
theorem pieces_any (ao : Option Addr) (len cap : Nat) (k : Int) (w : World) :
    Calls Tryd.prog 53 #[.slice ao len cap, .int .i64 k] w fun e w' =>
      e = .returned (.func (.func 87) #[] #[.pointer (some ⟨w.heap.size + 1, 0, none⟩), .pointer (some ⟨w.heap.size, 0, none⟩)]) ∧
      (w.alloc (.cells #[.slice ao len cap] 86)).alloc (.cells #[.int .i64 k] 3) = w' := by
  go_enter Tryd.func53, Tryd.ntmps53
  go_wp2
  go_ret
  exact ⟨rfl, rfl⟩

theorem Adds.new (w : World) (o : Obj) : Adds w (w.alloc o) := (Below.refl _ _).alloc (Nat.le_refl _) _
theorem Adds.cellAt {w w' : World} (h : Adds w w') {b o : Nat} {v : Value} (hc : w.cell? ⟨b, o, none⟩ = some v) : w'.cell? ⟨b, o, none⟩ = some v :=
  (KeepC.of_below (M := fun _ => False) h).cell id hc
theorem KeepC.own (M : Nat → Prop) (B : Nat) (W : World) {β : Type} : OwnFrom B (fun (_ : β) W' => KeepC M W W') := fun _ A C row h hg hr k c e f hk hc => by
  have h1 := h k c e f hk hc
  have hne : some k ≠ row := fun e' => by
    obtain ⟨_, o, ho, hoc⟩ := hr k e'.symm
    rw [h1] at ho
    cases ho
    simp [Obj.isCells] at hoc
  exact (hg.block k (Array.getElem?_eq_some_iff.1 h1).1 hne).trans h1
theorem OwnFrom.both {β : Type} {B : Nat} {I J : β → World → Prop} (h : OwnFrom B I) (k : OwnFrom B J) : OwnFrom B (fun s W => I s W ∧ J s W) := fun s A C row hs hg hr => ⟨h s A C row hs.1 hg hr, k s A C row hs.2 hg hr⟩
theorem Bytes.keep {M : Nat → Prop} {n : Nat} {W W' : World} {ao : Option Addr} {len cap : Nat} {bs : List UInt8} (h : Bytes n W (.slice ao len cap) bs) (hk : KeepC M W W') (hM : ∀ b o, ao = some ⟨b, o, none⟩ → ¬ M b) : Bytes n W' (.slice ao len cap) bs := by
  obtain ⟨ao', cap', e, h1, h2, h3⟩ := h
  cases e
  refine ⟨_, _, rfl, h1, h2, fun hl => ?_⟩
  obtain ⟨b, off, e, hbn, hc⟩ := h3 hl
  exact ⟨b, off, e, hbn, fun i hi => hk.cell (hM b off e) (hc i hi)⟩

theorem RoundIn.wider {m : Nat} {P : Program} {l : Nat} {f : FuncId} {tmps : Array Value} {assign body : Code} {w : World} {R : Ending → World → Prop}
    (h : RoundIn Fence.wide m P l f tmps assign body w R) (l2 m' : Nat) : RoundIn (Fence.wide.inRound l2) m' P l f tmps assign body w R := ⟨h.1, fun c cs _ => h.2 c cs (fun d h => by cases h)⟩

/-- What a round of Each is handed. -/
abbrev eachV (bs : List UInt8) (k j : Nat) : Array Value := #[.int .i64 ((j * k : Nat) : Int), .int .u64 (unB ((bs.drop (j * k)).take k))]

set_option maxRecDepth 100000 in
set_option maxHeartbeats 4000000 in
theorem each1_in (B n : Nat) (hn : 4 ≤ n) (l Bw Br : Nat) (M : Nat → Prop) (ao : Option Addr) (cap : Nat) (bs : List UInt8) (k : Nat) (hk : isW k = true) (hk8 : k ≤ 8) (hk0 : 0 < k) (J Jx : List Nat → World → Prop)
    (W : World) (hJ : OwnFrom W.heap.size J) (hJx : OwnFrom W.heap.size Jx)
    (hY : ∀ pre x W, J pre W → AtIx (bs.length / k) pre x → YieldAt Fence.wide (n - 1) Tryd.prog l (eachV bs k x) W fun e W' =>
      (e = .returned (.bool true) ∧ J (pre ++ [x]) W' ∧ KeepC M W W' ∧ KeepsFrom B W W') ∨ (e = .returned (.bool false) ∧ Jx (pre ++ [x]) W' ∧ KeepsFrom B W W'))
    (hB : B ≤ W.heap.size) (hM : ∀ b, M b → b < W.heap.size) (nv : Nat) (hv : Bytes nv W (.slice ao bs.length cap) bs) (hvM : ∀ b o, ao = some ⟨b, o, none⟩ → ¬ M b) (hw : Widths W) (hM0 : ¬ M 1)
    (cw : W.cell? ⟨Bw, 0, none⟩ = some (.int .i64 k)) (cr : W.cell? ⟨Br, 0, none⟩ = some (.slice ao bs.length cap)) (h0 : J [] W) :
    CallsIn Fence.wide n Tryd.prog 52 #[.func (.yield l) #[] #[], .pointer (some ⟨Br, 0, none⟩), .pointer (some ⟨Bw, 0, none⟩)] W fun e W' => (∃ v, e = .returned v) ∧
      ((∃ ys, ys = List.range (bs.length / k) ∧ J ys W') ∨ (∃ pre, (∃ j, j ≤ bs.length / k ∧ pre = List.range j) ∧ Jx pre W')) := by
  have HY := Lib.hid hY; clear hY
  have HV := Lib.hid hv; clear hv
  have HW := Lib.hid hw; clear hw
  have HJ := Lib.hid hJ; clear hJ
  have HJX := Lib.hid hJx; clear hJx
  have HM := Lib.hid hM; clear hM
  have HM0 := Lib.hid hM0; clear hM0
  have HVM := Lib.hid hvM; clear hvM
  have HK := Lib.hid hk; clear hk
  refine callsIn_of_wp_marks Tryd.func52 rfl trivial ?_ rfl
  simp only [Tryd.ntmps52, List.size_toArray, List.length_cons, List.length_nil, Nat.reduceAdd, Nat.reduceSub, Array.replicate_succ, Array.replicate_zero, List.push_toArray, List.append_toArray, List.nil_append, List.cons_append]
  gi_wp2
  refine wpIn_scope_straight ?_
  generalize hWa : W.alloc (Obj.cells #[Value.func (Fn.yield l) #[] #[]] _) = Wa
  have HA := Lib.hid (hWa ▸ Adds.new W _ : Adds W Wa)
  have hsa : W.heap.size < Wa.heap.size := by rw [← hWa]; simp
  have ca1 : Wa.cell? ⟨Br, 0, none⟩ = some (.slice ao bs.length cap) := HA.out.cellAt cr
  have ca2 : Wa.cell? ⟨Bw, 0, none⟩ = some (.int .i64 k) := HA.out.cellAt cw
  have ca3 : Wa.cell? ⟨W.heap.size, 0, none⟩ = some (.func (.yield l) #[] #[]) := by rw [← hWa]; simp
  have HWA := Lib.hid hWa; clear hWa
  have h1n : 1 ≤ n := by omega
  apply wpIn_seq_k; intro K1 hK1
  refine wpIn_label ?_
  refine hK1 _ _ ?_
  clear hK1 K1
  gi_wp2_with (refine ⟨trivial, ?_⟩; gi_at_call 53; refine (callsIn_wide.2 (pieces_any _ _ _ _ _)).mono ?_; rintro e w' ⟨rfl, rfl⟩)
  generalize hWb : World.alloc (Wa.alloc _) _ = Wb
  have HB := Lib.hid (hWb ▸ (Adds.new Wa _).trans (Adds.new _ _) : Adds Wa Wb)
  have hsb : Wb.heap.size = Wa.heap.size + 2 := by rw [← hWb]; simp
  have cb1 : Wb.cell? ⟨Wa.heap.size + 1, 0, none⟩ = some (.int .i64 k) := by rw [← hWb]; simp
  have cb2 : Wb.cell? ⟨Wa.heap.size, 0, none⟩ = some (.slice ao bs.length cap) := by rw [← hWb]; simp
  have cb3 : Wb.cell? ⟨W.heap.size, 0, none⟩ = some (.func (.yield l) #[] #[]) := HB.out.cellAt ca3
  have HWB := Lib.hid hWb; clear hWb
  have HAB := Lib.hid (HA.out.trans HB.out)
  have hcaps : bs.length ≤ cap ∧ cap ≤ 9223372036854775807 := by
    obtain ⟨_, _, e, h1, h2, _⟩ := HV.out
    cases e
    exact ⟨h1, h2⟩
  refine rangeFunc_X rfl (by omega) (gf := 87) (lb := #[.pointer (some ⟨Wa.heap.size + 1, 0, none⟩), .pointer (some ⟨Wa.heap.size, 0, none⟩)]) rfl trivial (enters_of Tryd.func87 (by kernel_rfl) rfl)
    (w0 := Wb) (G := AtIx (bs.length / k)) (encs := pieceV ao k) (Kp := KeepC M) (S := fun xs => xs = List.range (bs.length / k)) (Sp := fun pre => ∃ j, j ≤ bs.length / k ∧ pre = List.range j)
    ?seq KeepC.trans (fun W l o o' _ h hc _ => KeepC.put W l o o' h hc) (Below.refl _ _) (fun _ => rfl)
    (fun pre Wr => J pre Wr ∧ KeepC M Wb Wr) (fun c pre Wr => c = .exit 0 ∧ Jx pre Wr) ?own ?ownx ?h0
    (fun x => { tmps := #[Value.func (Fn.yield l) #[] #[], Value.pointer (some { block := Br, off := 0 }), Value.pointer (some { block := Bw, off := 0 }), Value.pointer (some { block := W.heap.size, off := 0 }),
        .int .i64 ((x * k : Nat) : Int), cutV ao (x * k) k, Value.slice ao bs.length cap, Value.int IntKind.i64 ↑k, .func (.func 87) #[] #[.pointer (some ⟨Wa.heap.size + 1, 0, none⟩), .pointer (some ⟨Wa.heap.size, 0, none⟩)],
        .int .i64 ((x * k : Nat) : Int), cutV ao (x * k) k, undef, undef, undef, undef, undef, undef], defers := [] }) ?assign ?body ?done ?stop
  case own => exact OwnFrom.both (OwnFrom.higher HJ.out (by omega)) (KeepC.own M _ Wb)
  case ownx => exact fun c s A C row hs hg hr => ⟨hs.1, (OwnFrom.higher (B' := Wb.heap.size) HJX.out (by omega)) s A C row hs.2 hg hr⟩
  case seq =>
    intro l' J' Jx' W2 hb _ _ hY' h0'
    refine pieces1_in W2.heap.size (n - 1) (by omega) l' _ _ M ao cap bs k HK.out hk8 hk0 J' Jx' hY' W2 hcaps.1 hcaps.2 ?_ ?_ ?_ ?_ ?_ h0'
    · exact HW.out.keep (KeepC.of_below (HAB.out.trans hb)) HM0.out
    · intro hm; have := HM.out _ hm; omega
    · intro hm; have := HM.out _ hm; omega
    · exact Adds.cellAt hb cb1
    · exact Adds.cellAt hb cb2
  case h0 => exact ⟨HWB.out ▸ HJ.out.alloc _ (HJ.out.alloc _ (HWA.out ▸ HJ.out.alloc _ h0)), KeepC.refl _ _⟩
  case assign =>
    intro l2 x W2 K hK
    gi_wp2
    exact hK
  case body =>
    rintro l2 pre x W2 ⟨hJ2, hk2⟩ hlen
    have hd : 1 ≤ n - 1 - 1 := by omega
    have hmx : Tryd.prog.follows .mixedOrders = true := by kernel_rfl
    have hx1 : x * k + k ≤ bs.length := by
      have := Nat.mul_le_of_le_div k (x + 1) bs.length hlen.1
      rw [Nat.succ_mul] at this
      exact this
    have c3 : W2.cell? ⟨W.heap.size, 0, none⟩ = some (.func (.yield l) #[] #[]) := hk2.cell (fun hm => by have := HM.out _ hm; omega) cb3
    have hB2 : Bytes nv W2.drew (cutV ao (x * k) k) ((bs.drop (x * k)).take k) :=
      cutV_bytes (Bytes.keep (M := fun _ => False) (Bytes.keep (Bytes.keep (M := fun _ => False) HV.out (KeepC.of_below HAB.out) (fun _ _ _ h => h)) hk2 HVM.out) (fun _ _ _ _ _ h => h) (fun _ _ _ h => h)) _ _ hx1
    have HB2 := Lib.hid hB2; clear hB2
    have c3d : W2.drew.cell? ⟨W.heap.size, 0, none⟩ = some (.func (.yield l) #[] #[]) := c3
    have hJ2d : J pre W2.drew := HJ.out _ _ _ none hJ2 ⟨rfl, rfl, rfl, Nat.le_refl _, fun _ _ _ => rfl⟩ (fun r h => by cases h)
    have hlen8 : ((bs.drop (x * k)).take k).length = k := by simp; omega
    have HL8 := Lib.hid hlen8; clear hlen8
    obtain ⟨fn, tmps, assign, body, hy, hR⟩ := HY.out pre x W2.drew hJ2d hlen
    dsimp only [eachV] at hy
    simp only [Int.natCast_mul] at hy
    have HRR := Lib.hid (hR.mono (R' := fun e W' => ∃ tb : Bool, e = .returned (.bool tb) ∧ KeepsFrom B W2.drew W' ∧ (tb = true → J (pre ++ [x]) W' ∧ KeepC M W2.drew W') ∧ (tb = false → Jx (pre ++ [x]) W')) (by
      rintro e W' (⟨rfl, h1, h2, h3⟩ | ⟨rfl, h1, h2⟩)
      · exact ⟨true, rfl, h3, fun _ => ⟨h1, h2⟩, fun h => (by cases h)⟩
      · exact ⟨false, rfl, h2, fun h => (by cases h), fun _ => h1⟩)); clear hR
    have HLN := Lib.hid hlen; clear hlen
    have HKK := Lib.hid hk2; clear hk2
    have HJ2 := Lib.hid hJ2; clear hJ2 hJ2d
    gi_wp2
    gi_region_with_o (first
      | (refine ⟨trivial, ?_⟩; gi_at_call 54; refine (CallsIn.inRound l2 (callsIn_wide.2 (value_bytes _ _ _ (by rw [HL8.out]; exact hk8) (by rw [HL8.out]; exact hk0) _ HB2.out))).mono ?_; rintro e w' ⟨rfl, rfl⟩)
      | (refine (RoundIn.wider HRR.out l2 _).mono ?_; rintro e W3 ⟨tb, rfl, hf3, hh3⟩; have HH3 := Lib.hid hh3; clear hh3))
    all_goals cases tb
    all_goals gi_wp2
    all_goals have hkf : KeepsFrom Wb.heap.size W2 W3 := ((KeepsOthers.drew W2).from _).trans (KeepsFrom.higher hf3 (by omega))
    all_goals rw [← hsb]
    all_goals first
      | exact ⟨hkf, rfl, HH3.out.2 (by simp)⟩
      | exact ⟨hkf, (HH3.out.1 (by simp)).2, (HH3.out.1 (by simp)).1, HKK.out.trans (HH3.out.1 (by simp)).2⟩
  case done =>
    rintro D xs W2 hD rfl ⟨hJ2, hk2⟩ hK
    gi_wp2
    show LeavesInM _ _ _ _ _ _ _ _ _
    refine ⟨by simp, .inl ⟨_, _, rfl, run_takeDeferred hK, ?_⟩⟩
    exact ⟨_, results_none rfl _ _ _, ⟨_, rfl⟩, .inl ⟨_, rfl, HJ.out.putObj _ hJ2 (by omega) hK rfl⟩⟩
  case stop =>
    rintro D c pre W2 hD hpre ⟨rfl, hx⟩ hK
    gi_wp2
    show LeavesInM _ _ _ _ _ _ _ _ _
    refine ⟨by simp, .inl ⟨_, _, rfl, run_takeDeferred hK, ?_⟩⟩
    exact ⟨_, results_none rfl _ _ _, ⟨_, rfl⟩, .inr ⟨_, hpre, HJX.out.putObj _ hx (by omega) hK rfl⟩⟩
end Go.Proofs.YtcimppggemdidaaDoor
