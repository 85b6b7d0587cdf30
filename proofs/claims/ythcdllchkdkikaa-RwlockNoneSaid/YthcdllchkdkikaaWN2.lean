/- The iterator of none; Same of none: their contracts. -/
import Derived.Test.YthcdllchkdkikaaWI0
import Derived.Test.YthcdllchkdkikaaWI3
import Derived.Test.YthcdllchkdkikaaWE2
namespace Go.Proofs.Ythcdllchkdkikaa
open Go Go.RowKit Go.Shelf
attribute [local go_sem] Oper.semAt_some

theorem rising1_nil (l Bm Bk : Nat) (w : World) (hm : w.cell? ⟨Bm, 0, none⟩ = some (.pointer (some ⟨Bk, 0, none⟩))) (hk : BkS 71 w Bk (listC [])) :
    Calls Try.prog 55 #[.func (.yield l) #[] #[], .pointer (some ⟨Bm, 0, none⟩)] w fun e w' => (∃ v, e = .returned v) ∧ Adds w w' := by
  have HA := Lib.hid (allW_any Bk 0 (by decide) w ((hk.cell 192).trans (listC_many (by decide))))
  clear hk
  go_enter Try.func55, Try.ntmps55
  go_wp2_with (go_at_call 49; refine HA.out.mono ?_; rintro e w3 ⟨rfl, ha⟩; have HA3 := Lib.hid ha.adds; clear ha)
  refine wp_loop_rounds 1 ?_
  rw [rounds_succ]
  go_wp2
  go_end0
  exact ⟨⟨_, rfl⟩, HA3.out⟩
set_option maxRecDepth 100000 in
set_option maxHeartbeats 4000000 in
theorem taken1_nil (n : Nat) (hn : 4 ≤ n) (l Bk : Nat) (W : World) (hk : BkS 71 W Bk (listC [])) :
    CallsIn Fence.wide n Try.prog 43 #[.func (.yield l) #[] #[], .pointer (some ⟨Bk, 0, none⟩)] W fun z W' => (∃ v, z = .returned v) ∧ Adds W W' := by
  refine callsIn_of_wp_marks Try.func43 rfl trivial ?_ rfl
  simp only [Try.ntmps43, List.size_toArray, List.length_cons, List.length_nil, Nat.reduceAdd, Nat.reduceSub, Array.replicate_succ, Array.replicate_zero, List.push_toArray, List.append_toArray, List.nil_append, List.cons_append]
  gi_wp2
  refine wpIn_scope_straight ?_
  apply wpIn_seq_k; intro K1 hK1
  refine wpIn_label ?_
  refine hK1 _ _ ?_
  clear hK1 K1
  obtain ⟨Wa, hWa⟩ : ∃ Wa, W.alloc (Obj.cells #[Value.func (Fn.yield l) #[] #[]] 84) = Wa := ⟨_, rfl⟩
  have HA := Lib.hid (hWa ▸ (Gr.new W _).adds : Adds W Wa)
  rw [hWa]
  clear hWa
  have h1n : 1 ≤ n := by omega
  gi_wp2_with (refine ⟨trivial, ?_⟩; gi_at_call 44; refine (callsIn_wide.2 (rising_any _ _)).mono ?_; rintro e w' ⟨rfl, rfl⟩)
  obtain ⟨Wb, hWb⟩ : ∃ Wb, World.alloc Wa (.cells #[.pointer (some ⟨Bk, 0, none⟩)] 47) = Wb := ⟨_, rfl⟩
  have HB := Lib.hid (hWb ▸ (Gr.new Wa _).adds : Adds Wa Wb)
  have cb0 : Wb.cell? ⟨Wa.heap.size, 0, none⟩ = some (.pointer (some ⟨Bk, 0, none⟩)) := by rw [← hWb]; simp
  have HAB := Lib.hid (Adds.trans HA.out HB.out)
  rw [hWb]
  clear hWb
  refine rangeFunc_0 rfl (by omega) (gf := 55) (lb := #[.pointer (some ⟨Wa.heap.size, 0, none⟩)]) rfl trivial (enters_of Try.func55 (by kernel_rfl) rfl) ?seq ?done
  case seq =>
    intro l W1 hb
    exact callsIn_wide.2 (rising1_nil l _ Bk W1 (Adds.cellAt hb cb0) (hk.adds (Adds.trans HAB.out hb)))
  case done =>
    intro D W2 hD hb hK
    have HK := Lib.hid hK
    have HB := Lib.hid hb
    clear hb hK
    gi_wp2
    show LeavesInM _ _ _ _ _ _ _ _ _
    refine ⟨by simp, .inl ⟨_, _, rfl, run_takeDeferred HK.out, ?_⟩⟩
    exact ⟨_, results_none rfl _ _ _, ⟨_, rfl⟩, below_put (Adds.trans HAB.out HB.out) (by have := HAB.out.size; omega) _⟩
theorem sameW_nn (v u : Value) (w : World) (h : NoneW w v) (h' : NoneW w u) : Calls Try.prog 16 #[v, u] w fun e w' => e = .returned (.bool true) ∧ w = w' := by
  have HN := Lib.hid (isNone_none h)
  have HN' := Lib.hid (isNone_none h')
  clear h h'
  go_enter Try.func16, Try.ntmps16
  have HN2 := HN
  go_wp2_with (first
    | (go_at_call 36; refine HN.out.mono ?_; rintro e w1 ⟨rfl, rfl⟩; clear HN)
    | (go_at_call 36; refine HN2.out.mono ?_; rintro e w1 ⟨rfl, rfl⟩; clear HN2)
    | (go_at_call 36; refine HN'.out.mono ?_; rintro e w1 ⟨rfl, rfl⟩; clear HN'))
  go_ret
  exact ⟨rfl, rfl⟩
theorem sameW_mn {m : Nat} {O : Nat → Prop} {ls : List Lk} (v u : Value) (w : World) (h : HasL m w v O ls) (h' : NoneW w u) : Calls Try.prog 16 #[v, u] w fun e w' => e = .returned (.bool false) ∧ w = w' := by
  obtain ⟨bp, bl, lv, hp, _, _⟩ := h
  obtain rfl := hp.ptr
  have HN := Lib.hid (isNoneW_full bp bl w hp.c0)
  have HN' := Lib.hid (isNone_none h')
  clear hp h'
  go_enter Try.func16, Try.ntmps16
  have HN2 := HN
  go_wp2_with (first
    | (go_at_call 36; refine HN.out.mono ?_; rintro e w1 ⟨rfl, rfl⟩; clear HN)
    | (go_at_call 36; refine HN'.out.mono ?_; rintro e w1 ⟨rfl, rfl⟩; clear HN')
    | (go_at_call 36; refine HN2.out.mono ?_; rintro e w1 ⟨rfl, rfl⟩; clear HN2))
  go_ret
  exact ⟨rfl, rfl⟩
end Go.Proofs.Ythcdllchkdkikaa
