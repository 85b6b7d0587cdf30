/- What is told of none: the iterator of none, and what calls it. -/
import Derived.Test.YtdmbjonbcomphaaUI0
import Derived.Test.YtdmbjonbcomphaaUF5
namespace Go.Proofs.Ytdmbjonbcomphaa
open Go Go.RowKit Go.Shelf Go.Maps
attribute [local go_sem] Oper.semAt_some

theorem keys1_nil (l Bm : Nat) (w : World) (hm : w.cell? ⟨Bm, 0, none⟩ = some (.map none)) :
    Calls Try.prog 45 #[.func (.yield l) #[] #[], .pointer (some ⟨Bm, 0, none⟩)] w fun e w' => (∃ v, e = .returned v) ∧ Adds w w' := by
  have hrg := run_range_nilMap (P := Try.prog) w 46 _ _ Try.underlying46
  have hnx : ∀ ty, (Instr.next (.pointer (some ⟨w.heap.size, 0, none⟩)) false ty).run Try.prog (w.alloc (.mapIter none 0 #[] 0)) = _ := fun ty => run_next_nilMap _ ty 0 0 #[]
  go_enter Try.func45, Try.ntmps45
  go_wp2
  refine wp_loop_rounds 1 ?_
  rw [rounds_succ]
  go_wp2
  go_end0
  exact ⟨⟨_, rfl⟩, (Gr.new _ _).adds⟩
set_option maxRecDepth 100000 in
set_option maxHeartbeats 4000000 in
theorem appendKeys_nil (Bm : Nat) (w : World) (hm : w.cell? ⟨Bm, 0, none⟩ = some (.map none)) :
    Calls Try.prog 49 #[.slice none 0 0, kfn (.pointer (some ⟨Bm, 0, none⟩))] w fun e w' => e = .returned (.slice none 0 0) ∧ Adds w w' := by
  refine (callsIn_wide (n := 6)).1 ?_
  refine callsIn_of_wp_marks Try.func49 rfl trivial ?_ rfl
  simp only [Try.ntmps49, List.size_toArray, List.length_cons, List.length_nil, Nat.reduceAdd, Nat.reduceSub, Array.replicate_succ, Array.replicate_zero, List.push_toArray, List.append_toArray, List.nil_append, List.cons_append]
  gi_wp2
  obtain ⟨W0, hW0⟩ : ∃ W0, w.alloc (.cells #[.slice none 0 0] 28) = W0 := ⟨_, rfl⟩
  have HA0 := Lib.hid (show Adds w W0 by rw [← hW0]; exact (Gr.new _ _).adds)
  have HB0 := Lib.hid (show BkS 28 W0 w.heap.size [.slice none 0 0] by rw [← hW0]; exact BkS.new _ _ _)
  rw [hW0]
  clear hW0
  have HCM := Lib.hid (HA0.out.cellAt hm)
  refine rangeFunc_0 rfl (by omega) (gf := 45) (lb := #[.pointer (some ⟨Bm, 0, none⟩)]) rfl trivial (enters_of Try.func45 (by kernel_rfl) rfl) ?seq ?done
  case seq =>
    intro l W1 hb
    exact callsIn_wide.2 (keys1_nil l Bm W1 (Adds.cellAt hb HCM.out))
  case done =>
    intro D W hD hb hK
    have c0 : W.cell? ⟨w.heap.size, 0, none⟩ = some (.slice none 0 0) := (HB0.out.adds hb).cell 0
    have HK := Lib.hid hK
    have HB := Lib.hid hb
    clear hb hK
    gi_wp2
    refine ⟨by simp, .inl ⟨_, _, rfl, run_takeDeferred HK.out, ?_⟩⟩
    exact ⟨_, results_tmp rfl _ _ _, rfl, below_put (Adds.trans HA0.out HB.out) (by have := HA0.out.size; omega) _⟩
theorem sorted_nil (Bm : Nat) (w : World) (hm : w.cell? ⟨Bm, 0, none⟩ = some (.map none)) :
    Calls Try.prog 39 #[kfn (.pointer (some ⟨Bm, 0, none⟩)), .func (.func 41) #[] #[]] w fun e w' => e = .returned (.slice none 0 0) ∧ Adds w w' := by
  have HA := Lib.hid (appendKeys_nil Bm w hm)
  clear hm
  have hC : Calls Try.prog 47 #[kfn (.pointer (some ⟨Bm, 0, none⟩))] w fun e w' => e = .returned (.slice none 0 0) ∧ Adds w w' := by
    go_enter Try.func47, Try.ntmps47
    go_wp2_with (go_at_call 49; refine HA.out.mono ?_; rintro e w1 ⟨rfl, h1⟩; have H1 := Lib.hid h1; clear h1)
    go_ret
    exact ⟨rfl, H1.out⟩
  have HC := Lib.hid hC
  clear hC HA
  have hS : Calls Try.prog 44 #[kfn (.pointer (some ⟨Bm, 0, none⟩)), .func (.func 41) #[] #[]] w fun e w' => e = .returned (.slice none 0 0) ∧ Adds w w' := by
    go_enter Try.func44, Try.ntmps44
    go_wp2_with (first
      | (go_at_call 47; refine HC.out.mono ?_; rintro e w1 ⟨rfl, h1⟩; have H1 := Lib.hid h1; clear h1)
      | (go_at_call 48; refine (AnyF.slices_SortFunc_none (P := Try.prog) (ρ := Try.laysSort_ren) { Try.laysSort with } none 0 (.func (.func 41) #[] #[]) w1).mono ?_; rintro e w2 ⟨rfl, rfl⟩))
    go_ret
    exact ⟨rfl, H1.out⟩
  have HS := Lib.hid hS
  clear hS HC
  go_enter Try.func39, Try.ntmps39
  go_wp2_with (go_at_call 44; refine HS.out.mono ?_; rintro e w1 ⟨rfl, h1⟩; have H1 := Lib.hid h1; clear h1)
  go_ret
  exact ⟨rfl, H1.out⟩
theorem rising1_nil (l Bm : Nat) (w : World) (hm : w.cell? ⟨Bm, 0, none⟩ = some (.map none)) :
    Calls Try.prog 38 #[.func (.yield l) #[] #[], .pointer (some ⟨Bm, 0, none⟩)] w fun e w' => (∃ v, e = .returned v) ∧ Adds w w' := by
  have HK := Lib.hid (keysU_any none w)
  obtain ⟨w1, hw1⟩ : ∃ w1, w.alloc (.cells #[.map none] 46) = w1 := ⟨_, rfl⟩
  rw [hw1] at HK
  have HA := Lib.hid (show Adds w w1 by rw [← hw1]; exact (Gr.new _ _).adds)
  have HC := Lib.hid (sorted_nil w.heap.size w1 (by rw [← hw1]; simp))
  clear hw1
  go_enter Try.func38, Try.ntmps38
  go_wp2_with (first
    | (go_at_call 40; refine HK.out.mono ?_; rintro e w2 ⟨rfl, rfl⟩)
    | (go_at_call 39; refine HC.out.mono ?_; rintro e w3 ⟨rfl, h1⟩; have H1 := Lib.hid (Adds.trans HA.out h1); clear h1))
  refine wp_loop_rounds 1 ?_
  rw [rounds_succ]
  go_wp2
  go_end0
  exact ⟨⟨_, rfl⟩, H1.out⟩
set_option maxRecDepth 100000 in
set_option maxHeartbeats 4000000 in
theorem held1_nil (n : Nat) (hn : 4 ≤ n) (l Bk : Nat) (W : World) (c0 : W.cell? ⟨Bk, 0, none⟩ = some (.map none)) :
    CallsIn Fence.wide n Try.prog 31 #[.func (.yield l) #[] #[], .pointer (some ⟨Bk, 0, none⟩)] W fun z W' => (∃ v, z = .returned v) ∧ Adds W W' := by
  refine callsIn_of_wp_marks Try.func31 rfl trivial ?_ rfl
  simp only [Try.ntmps31, List.size_toArray, List.length_cons, List.length_nil, Nat.reduceAdd, Nat.reduceSub, Array.replicate_succ, Array.replicate_zero, List.push_toArray, List.append_toArray, List.nil_append, List.cons_append]
  gi_wp2
  refine wpIn_scope_straight ?_
  apply wpIn_seq_k; intro K1 hK1
  refine wpIn_label ?_
  refine hK1 _ _ ?_
  clear hK1 K1
  obtain ⟨Wa, hWa⟩ : ∃ Wa, W.alloc (Obj.cells #[Value.func (Fn.yield l) #[] #[]] 71) = Wa := ⟨_, rfl⟩
  have HA := Lib.hid (hWa ▸ (Gr.new W _).adds : Adds W Wa)
  have ca0 : Wa.cell? ⟨Bk, 0, none⟩ = some (.map none) := HA.out.cellAt c0
  rw [hWa]
  clear hWa
  have h1n : 1 ≤ n := by omega
  gi_wp2_with (refine ⟨trivial, ?_⟩; gi_at_call 32; refine (callsIn_wide.2 (rising_any _ _)).mono ?_; rintro e w' ⟨rfl, rfl⟩)
  obtain ⟨Wb, hWb⟩ : ∃ Wb, World.alloc Wa (.cells #[.map none] 46) = Wb := ⟨_, rfl⟩
  have HB := Lib.hid (hWb ▸ (Gr.new Wa _).adds : Adds Wa Wb)
  have cb0 : Wb.cell? ⟨Wa.heap.size, 0, none⟩ = some (.map none) := by rw [← hWb]; simp
  have HAB := Lib.hid (Adds.trans HA.out HB.out)
  rw [hWb]
  clear hWb ca0
  refine rangeFunc_0 rfl (by omega) (gf := 38) (lb := #[.pointer (some ⟨Wa.heap.size, 0, none⟩)]) rfl trivial (enters_of Try.func38 (by kernel_rfl) rfl) ?seq ?done
  case seq =>
    intro l W1 hb
    exact callsIn_wide.2 (rising1_nil l _ W1 (Adds.cellAt hb cb0))
  case done =>
    intro D W2 hD hb hK
    have HK := Lib.hid hK
    have HB := Lib.hid hb
    clear hb hK
    gi_wp2
    show LeavesInM _ _ _ _ _ _ _ _ _
    refine ⟨by simp, .inl ⟨_, _, rfl, run_takeDeferred HK.out, ?_⟩⟩
    exact ⟨_, results_none rfl _ _ _, ⟨_, rfl⟩, below_put (Adds.trans HAB.out HB.out) (by have := HAB.out.size; omega) _⟩
end Go.Proofs.Ytdmbjonbcomphaa
