/- All of none: its contract, and the iterator that it hands back, at the wide fence. -/
import Derived.Sort.LoopGhostIn
import Derived.Test.YtnhapmodgmkbjaaGreatDoorSN2
import Derived.Test.YtnhapmodgmkbjaaGreatDoorLoose
import Derived.Test.YtnhapmodgmkbjaaGreatDoorKeep
import Derived.Test.YtnhapmodgmkbjaaGreatDoorSI0
import Derived.Test.YtnhapmodgmkbjaaGreatDoorScopeIn
import Derived.Test.YtnhapmodgmkbjaaGreatDoorMarks
import Derived.Test.YtnhapmodgmkbjaaGreatDoorTurn
import Derived.OwnWalkIn
namespace Go.Proofs.YtnhapmodgmkbjaaGreatDoor
open Go Go.RowKit Go.Shelf
attribute [local go_sem] Oper.semAt_some

theorem NoSet.adds {w w' : World} {v : Value} (h : NoSet w v) (ha : Adds w w') : NoSet w' v := by
  rcases h with rfl | ⟨bp, rfl, hc⟩
  · exact .inl rfl
  · exact .inr ⟨bp, rfl, ha.cellAt hc⟩
theorem all_none (v : Value) (w : World) (h : NoSet w v) :
    Calls Tryz.prog 14 #[v] w fun e w' => e = .returned (.func (.func 26) #[] #[.pointer (some ⟨w.heap.size, 0, none⟩)]) ∧ w'.cell? ⟨w.heap.size, 0, none⟩ = some (.slice none 0 0) ∧ Adds w w' := by
  have HN := Lib.hid (fun W (hA : Adds w W) => isNoneS_no v W (h.adds hA))
  clear h
  go_enter Tryz.func14, Tryz.ntmps14
  go_wp2_with (go_at_call 19; refine (HN.out _ (Gr.new w _).adds).mono ?_; rintro e w2 ⟨rfl, rfl⟩)
  go_ret
  exact ⟨rfl, by simp, (Gr.new w _).adds⟩
theorem sall_any (ao : Option Addr) (len cap : Nat) (w : World) : Calls Tryz.prog 27 #[.slice ao len cap] w fun e w' =>
    e = .returned (.func (.func 38) #[] #[.pointer (some ⟨w.heap.size, 0, none⟩)]) ∧ w.alloc (.cells #[.slice ao len cap] 61) = w' := by
  go_enter Tryz.func27, Tryz.ntmps27
  go_wp2
  go_ret
  exact ⟨rfl, rfl⟩

set_option maxRecDepth 100000 in
theorem sall1_empty (n : Nat) (l B1 : Nat) (W : World) (c1 : W.cell? ⟨B1, 0, none⟩ = some (.slice none 0 0)) :
    CallsIn Fence.wide n Tryz.prog 38 #[.func (.yield l) #[] #[], .pointer (some ⟨B1, 0, none⟩)] W fun e W' => (∃ v, e = .returned v) ∧ W = W' := by
  refine callsIn_of_wp Tryz.func38 rfl trivial ?_ rfl
  simp only [Tryz.ntmps38, List.size_toArray, List.length_cons, List.length_nil, Nat.reduceAdd, Nat.reduceSub, Array.replicate_succ, Array.replicate_zero, List.push_toArray, List.append_toArray, List.nil_append, List.cons_append]
  gi_wp2
  gi_loopw [7] (fun i wr => i = .int .i64 0 ∧ W = wr) (fun i _ => (intOf i).toNat)
  case atStart => exact ⟨rfl, rfl⟩
  case round =>
    obtain ⟨rfl, rfl⟩ := hrel
    gi_wp2
    go_end0
    exact ⟨⟨_, rfl⟩, rfl⟩

set_option maxRecDepth 100000 in
set_option maxHeartbeats 4000000 in
theorem pall1_empty (n : Nat) (hn : 4 ≤ n) (l Bw : Nat) (W : World) (c0 : W.cell? ⟨Bw, 0, none⟩ = some (.slice none 0 0)) :
    CallsIn Fence.wide n Tryz.prog 26 #[.func (.yield l) #[] #[], .pointer (some ⟨Bw, 0, none⟩)] W fun z W' => (∃ v, z = .returned v) ∧ Adds W W' := by
  refine callsIn_of_wp_marks Tryz.func26 rfl trivial ?_ rfl
  simp only [Tryz.ntmps26, List.size_toArray, List.length_cons, List.length_nil, Nat.reduceAdd, Nat.reduceSub, Array.replicate_succ, Array.replicate_zero, List.push_toArray, List.append_toArray, List.nil_append, List.cons_append]
  gi_wp2
  refine wpIn_scope_straight ?_
  apply wpIn_seq_k; intro K1 hK1
  refine wpIn_label ?_
  refine hK1 _ _ ?_
  clear hK1 K1
  obtain ⟨Wa, hWa⟩ : ∃ Wa, W.alloc (Obj.cells #[Value.func (Fn.yield l) #[] #[]] 63) = Wa := ⟨_, rfl⟩
  have HA := Lib.hid (hWa ▸ (Gr.new W _).adds : Adds W Wa)
  have ca0 : Wa.cell? ⟨Bw, 0, none⟩ = some (.slice none 0 0) := HA.out.cellAt c0
  rw [hWa]
  clear hWa
  have h1n : 1 ≤ n := by omega
  gi_wp2_with (refine ⟨trivial, ?_⟩; gi_at_call 27; refine (callsIn_wide.2 (sall_any _ _ _ _)).mono ?_; rintro e w' ⟨rfl, rfl⟩)
  obtain ⟨Wb, hWb⟩ : ∃ Wb, World.alloc Wa (.cells #[.slice none 0 0] 61) = Wb := ⟨_, rfl⟩
  have HB := Lib.hid (hWb ▸ (Gr.new Wa _).adds : Adds Wa Wb)
  have cb0 : Wb.cell? ⟨Wa.heap.size, 0, none⟩ = some (.slice none 0 0) := by rw [← hWb]; simp
  have HAB := Lib.hid (Adds.trans HA.out HB.out)
  rw [hWb]
  clear hWb
  have hz := HAB.out.size
  refine rangeFunc_0 rfl (by omega) (gf := 38) (lb := #[.pointer (some ⟨Wa.heap.size, 0, none⟩)]) rfl trivial (enters_of Tryz.func38 (by kernel_rfl) rfl) ?seq ?done
  case seq =>
    intro l' W2 hb
    refine (sall1_empty (n - 1) l' _ W2 (Adds.cellAt hb cb0)).mono ?_
    rintro z W' ⟨h1, rfl⟩
    exact ⟨h1, Below.refl _ _⟩
  case done =>
    rintro D W2 hD hb hK
    gi_wp2
    show LeavesInM _ _ _ _ _ _ _ _ _
    refine ⟨by simp, .inl ⟨_, _, rfl, run_takeDeferred hK, ?_⟩⟩
    exact ⟨_, results_none rfl _ _ _, ⟨_, rfl⟩, below_put (Adds.trans HAB.out hb) (by omega) _⟩
end Go.Proofs.YtnhapmodgmkbjaaGreatDoor
