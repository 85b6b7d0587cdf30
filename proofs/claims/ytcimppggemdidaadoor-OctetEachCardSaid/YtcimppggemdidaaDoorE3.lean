/- Each's sequence at a width that is none: no round. -/
import Derived.Test.YtcimppggemdidaaDoorE2
namespace Go.Proofs.YtcimppggemdidaaDoor
open Go Go.RowKit Go.Shelf
attribute [local go_sem] Oper.semAt_some

set_option maxRecDepth 100000 in
set_option maxHeartbeats 1000000 in
theorem pieces1_none (n : Nat) (hn : 1 ≤ n) (l Bw Br : Nat) (k : Int) (hk : isW k = false) (W : World) (hw : Widths W) (cw : W.cell? ⟨Bw, 0, none⟩ = some (.int .i64 k)) :
    CallsIn Fence.wide n Tryd.prog 87 #[.func (.yield l) #[] #[], .pointer (some ⟨Bw, 0, none⟩), .pointer (some ⟨Br, 0, none⟩)] W fun e W' => (∃ v, e = .returned v) ∧ W' = W := by
  have HK := Lib.hid hk; clear hk
  have HW := Lib.hid hw; clear hw
  refine callsIn_of_wp Tryd.func87 rfl trivial ?_ rfl
  simp only [Tryd.ntmps87, List.size_toArray, List.length_cons, List.length_nil, Nat.reduceAdd, Nat.reduceSub, Array.replicate_succ, Array.replicate_zero, List.push_toArray, List.append_toArray, List.nil_append, List.cons_append]
  gi_wp2_with (refine ⟨trivial, ?_⟩; gi_at_call 81; refine (callsIn_wide.2 (isWidth_any _ _ HW.out)).mono ?_; rintro e w' ⟨rfl, rfl⟩; rw [HK.out])
  refine bodyPost_ret (results_none rfl _ _ _) rfl ?_
  exact ⟨⟨_, rfl⟩, rfl⟩

set_option maxRecDepth 100000 in
set_option maxHeartbeats 4000000 in
theorem each1_none (n : Nat) (hn : 4 ≤ n) (l Bw Br : Nat) (ao : Option Addr) (len cap : Nat) (k : Int) (hk : isW k = false) (J : List Nat → World → Prop)
    (W : World) (hJ : OwnFrom W.heap.size J) (hw : Widths W)
    (cw : W.cell? ⟨Bw, 0, none⟩ = some (.int .i64 k)) (cr : W.cell? ⟨Br, 0, none⟩ = some (.slice ao len cap)) (h0 : J [] W) :
    CallsIn Fence.wide n Tryd.prog 52 #[.func (.yield l) #[] #[], .pointer (some ⟨Br, 0, none⟩), .pointer (some ⟨Bw, 0, none⟩)] W fun e W' => (∃ v, e = .returned v) ∧ J [] W' := by
  have HW := Lib.hid hw; clear hw
  have HJ := Lib.hid hJ; clear hJ
  have HK := Lib.hid hk; clear hk
  refine callsIn_of_wp_marks Tryd.func52 rfl trivial ?_ rfl
  simp only [Tryd.ntmps52, List.size_toArray, List.length_cons, List.length_nil, Nat.reduceAdd, Nat.reduceSub, Array.replicate_succ, Array.replicate_zero, List.push_toArray, List.append_toArray, List.nil_append, List.cons_append]
  gi_wp2
  refine wpIn_scope_straight ?_
  generalize hWa : W.alloc (Obj.cells #[Value.func (Fn.yield l) #[] #[]] _) = Wa
  have HA := Lib.hid (hWa ▸ Adds.new W _ : Adds W Wa)
  have hsa : W.heap.size < Wa.heap.size := by rw [← hWa]; simp
  have ca1 : Wa.cell? ⟨Br, 0, none⟩ = some (.slice ao len cap) := HA.out.cellAt cr
  have ca2 : Wa.cell? ⟨Bw, 0, none⟩ = some (.int .i64 k) := HA.out.cellAt cw
  have HWA := Lib.hid hWa; clear hWa
  have h1n : 1 ≤ n := by omega
  apply wpIn_seq_k; intro K1 hK1
  refine wpIn_label ?_
  refine hK1 _ _ ?_
  clear hK1 K1
  gi_wp2_with (refine ⟨trivial, ?_⟩; gi_at_call 53; refine (callsIn_wide.2 (pieces_any _ _ _ _ _)).mono ?_; rintro e w' ⟨rfl, rfl⟩)
  generalize hWb : World.alloc (Wa.alloc _) _ = Wb
  have HB := Lib.hid (hWb ▸ (Adds.new Wa _).trans (Adds.new _ _) : Adds Wa Wb)
  have hsb : Wb.heap.size = Wa.heap.size + 2 := by rw [← hWb]; simp
  have cb1 : Wb.cell? ⟨Wa.heap.size + 1, 0, none⟩ = some (.int .i64 k) := by rw [← hWb]; simp
  have HWB := Lib.hid hWb; clear hWb
  have HAB := Lib.hid (HA.out.trans HB.out)
  refine rangeFunc_X rfl (by omega) (gf := 87) (lb := #[.pointer (some ⟨Wa.heap.size + 1, 0, none⟩), .pointer (some ⟨Wa.heap.size, 0, none⟩)]) rfl trivial (enters_of Tryd.func87 (by kernel_rfl) rfl)
    (w0 := Wb) (G := fun _ _ => False) (encs := pieceV ao 0) (Kp := fun _ _ => True) (S := fun xs => xs = []) (Sp := fun _ => False)
    ?seq (fun _ _ => trivial) (fun _ _ _ _ _ _ _ _ => trivial) (Below.refl _ _) (fun _ => rfl)
    (fun pre Wr => J pre Wr) (fun _ _ _ => False) ?own ?ownx ?h0
    (fun x => { tmps := #[Value.func (Fn.yield l) #[] #[], Value.pointer (some { block := Br, off := 0 }), Value.pointer (some { block := Bw, off := 0 }), Value.pointer (some { block := W.heap.size, off := 0 }),
        .int .i64 ((x * 0 : Nat) : Int), cutV ao (x * 0) 0, Value.slice ao len cap, Value.int IntKind.i64 k, .func (.func 87) #[] #[.pointer (some ⟨Wa.heap.size + 1, 0, none⟩), .pointer (some ⟨Wa.heap.size, 0, none⟩)],
        .int .i64 ((x * 0 : Nat) : Int), cutV ao (x * 0) 0, undef, undef, undef, undef, undef, undef], defers := [] }) ?assign ?body ?done ?stop
  case own => exact OwnFrom.higher HJ.out (by omega)
  case ownx => exact fun c s A C row hs hg hr => hs
  case seq =>
    intro l' J' Jx' W2 hb _ _ _ h0'
    refine (pieces1_none (n - 1) (by omega) l' _ _ k HK.out W2 ?_ ?_).mono ?_
    · exact HW.out.keep (KeepC.of_below (M := fun _ => False) (HAB.out.trans hb)) id
    · exact Adds.cellAt hb cb1
    · rintro e W' ⟨h1, rfl⟩
      exact ⟨h1, .inl ⟨[], rfl, h0'⟩⟩
  case h0 => exact HWB.out ▸ HJ.out.alloc _ (HJ.out.alloc _ (HWA.out ▸ HJ.out.alloc _ h0))
  case assign =>
    intro l2 x W2 K hK
    gi_wp2
    exact hK
  case body => intro l2 pre x W2 _ h; exact h.elim
  case done =>
    rintro D xs W2 hD rfl hJ2 hK
    gi_wp2
    show LeavesInM _ _ _ _ _ _ _ _ _
    refine ⟨by simp, .inl ⟨_, _, rfl, run_takeDeferred hK, ?_⟩⟩
    exact ⟨_, results_none rfl _ _ _, ⟨_, rfl⟩, HJ.out.putObj _ hJ2 (by omega) hK rfl⟩
  case stop =>
    rintro D c pre W2 hD hpre
    exact hpre.elim
end Go.Proofs.YtcimppggemdidaaDoor
