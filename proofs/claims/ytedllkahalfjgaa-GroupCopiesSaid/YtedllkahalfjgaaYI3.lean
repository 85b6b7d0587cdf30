/- Open's contract. -/
import Derived.Test.YtedllkahalfjgaaYI2
namespace Go.Proofs.Ytedllkahalfjgaa
open Go Go.RowKit Go.Shelf

set_option maxRecDepth 100000 in
set_option maxHeartbeats 1000000 in
theorem openQ_any {w : World} {v : Value} {bc : Nat} {l : List Int} (h : HolG w v bc l) :
    Calls Try.prog 29 #[v] w fun e w' => e = .returned (.func (.func 65) #[] #[.pointer (some ⟨w.heap.size, 0, none⟩)]) ∧ BkS 115 w' w.heap.size (cntC l) ∧ Adds w w' := by
  obtain ⟨L, hL⟩ : ∃ L, (cntC l).toArray = L := ⟨_, rfl⟩
  obtain ⟨Z, _, hZ2, hq, hZ3⟩ := zero_cnt
  clear hq
  obtain ⟨w1, hw1⟩ : ∃ w1, w.alloc (.cells Z 115) = w1 := ⟨_, rfl⟩
  have HZ := Lib.hid (show w1.heap[w.heap.size]? = some (.cells Z 115 (0, 0)) by rw [← hw1]; exact heap_new w _)
  have HA := Lib.hid (show Adds w w1 by rw [← hw1]; exact (Gr.new _ _).adds)
  have HP := Lib.hid (h.adds HA.out)
  have HN := Lib.hid (isNone_hol HP.out)
  obtain ⟨bp, hv, c0⟩ := HP.out.c0
  subst hv
  have HLs := Lib.hid hL
  clear h hL
  go_enter Try.func29, Try.ntmps29
  go_wp2_with (first
    | (go_at_call 59; refine HN.out.mono ?_; rintro e w2 ⟨rfl, rfl⟩)
    | (refine wp_load_cnt HP.out.cnt HP.out.len L HLs.out rfl _ rfl rfl ?_)
    | (refine wp_store_cnt HP.out.len L HLs.out Z hZ2 HZ.out rfl _ _ rfl rfl rfl ?_; intro w2 hb2 ht2; have HB2 := Lib.hid hb2; have HA2 := Lib.hid (TnS.own HA.out (Nat.le_refl _) ht2); clear hb2 ht2))
  go_ret
  exact ⟨rfl, HB2.out, HA2.out⟩
set_option maxHeartbeats 1000000 in
theorem open_noG {w : World} {v : Value} (h : NoG w v) :
    Calls Try.prog 29 #[v] w fun e w' => e = .returned (.func (.func 65) #[] #[.pointer (some ⟨w.heap.size, 0, none⟩)]) ∧ BkS 115 w' w.heap.size (cntC []) ∧ Adds w w' := by
  obtain ⟨Z, _, _, hZ2, hZ3⟩ := zero_cnt
  obtain ⟨w1, hw1⟩ : ∃ w1, w.alloc (.cells Z 115) = w1 := ⟨_, rfl⟩
  have HZ := Lib.hid (show BkS 115 w1 w.heap.size (cntC []) by rw [← hw1, hZ2]; exact BkS.new _ _ _)
  have HA := Lib.hid (show Adds w w1 by rw [← hw1]; exact (Gr.new _ _).adds)
  have HN := Lib.hid (isNone_noG (h.adds HA.out))
  clear h hZ2
  go_enter Try.func29, Try.ntmps29
  go_wp2_with (go_at_call 59; refine HN.out.mono ?_; rintro e w2 ⟨rfl, rfl⟩)
  go_ret
  exact ⟨rfl, HZ.out, HA.out⟩
end Go.Proofs.Ytedllkahalfjgaa
