/- Taken: its contract. -/
import Derived.Test.YtedllkahalfjgaaWI2
namespace Go.Proofs.Ytedllkahalfjgaa
open Go Go.RowKit Go.Shelf

theorem zero_list2 : ∃ Z : Array Value, Z.size = 193 ∧ (listC []).toArray = Z ∧ ∀ W, (zeroValue 94).run Try.prog W = .ok (.agg Z) W := by
  refine ⟨(listC []).toArray, by rw [List.size_toArray, listC_len (by decide)], rfl, fun W => ?_⟩
  have h : (Try.prog.info? 94).map (·.zero) = some (some (.agg (zB ++ [Value.int .i64 0]).toArray)) := by kernel_rfl
  have e : listC [] = zB ++ [Value.int .i64 0] := by
    unfold listC
    rw [show bodyC [] = zB from bodyC_nil 0 (by decide)]
    rfl
  rw [← e] at h
  cases hq : Try.prog.info? 94 with
  | none => rw [hq] at h; cases h
  | some i =>
    rw [hq] at h
    simp only [Option.map_some, Option.some.injEq] at h
    generalize (listC []).toArray = Z at *
    simp [zeroValue, typeInfo, hq, h]
/-- A list that was kept: of the same locks. -/
def KeptL (w : World) (b : Nat) (ls : List Lk) : Prop := ∃ lv, BkS 94 w b (listC lv) ∧ lv.map LM.lk = ls ∧ lv.length ≤ 64 ∧ ∀ x ∈ lv, ∃ ao cap, x.sv = .slice ao x.lk.rd.length cap
theorem KeptL.adds {w w' : World} {b : Nat} {ls : List Lk} (h : KeptL w b ls) (ha : Adds w w') : KeptL w' b ls := let ⟨lv, h1, h2⟩ := h; ⟨lv, h1.adds ha, h2⟩
set_option maxRecDepth 100000 in
set_option maxHeartbeats 1000000 in
theorem takenW_any {m : Nat} {w : World} {v : Value} {O : Nat → Prop} {ls : List Lk} (h : HasL m w v O ls) :
    Calls Try.prog 48 #[v] w fun e w' => e = .returned (.func (.func 77) #[] #[.pointer (some ⟨w.heap.size, 0, none⟩)]) ∧ KeptL w' w.heap.size ls ∧ Adds w w' := by
  obtain ⟨bp, bl, lv, hp, _, rfl⟩ := h
  obtain rfl := hp.ptr
  obtain ⟨L, hL⟩ : ∃ L, (listC lv).toArray = L := ⟨_, rfl⟩
  obtain ⟨Z, hZ1, _, hZ3⟩ := zero_list
  obtain ⟨w1, hw1⟩ : ∃ w1, w.alloc (.cells Z 94) = w1 := ⟨_, rfl⟩
  have HZ := Lib.hid (show w1.heap[w.heap.size]? = some (.cells Z 94 (0, 0)) by rw [← hw1]; exact heap_new w _)
  have HA := Lib.hid (show Adds w w1 by rw [← hw1]; exact (Gr.new _ _).adds)
  have HP := Lib.hid (hp.adds HA.out)
  have c0 := HP.out.c0
  have HN := Lib.hid (isNoneW_full bp bl w1 c0)
  have HLs := Lib.hid hL
  clear hp hL
  go_enter Try.func48, Try.ntmps48
  go_wp2_with (first
    | (go_at_call 52; refine HN.out.mono ?_; rintro e w2 ⟨rfl, rfl⟩)
    | (refine wp_load_list HP.out.lst HP.out.len L HLs.out rfl _ rfl rfl ?_)
    | (refine wp_store_list HP.out.len (listC_one HP.out) L HLs.out Z hZ1 HZ.out rfl _ _ rfl rfl rfl ?_; intro w2 hb2 ht2; have HB2 := Lib.hid hb2; have HA2 := Lib.hid (TnS.own HA.out (Nat.le_refl _) ht2); clear hb2 ht2))
  go_ret
  exact ⟨rfl, ⟨lv, HB2.out, rfl, HP.out.len, fun x hx => by
    obtain ⟨i, hi⟩ := List.getElem?_of_mem hx
    obtain ⟨ao, cap, e, _⟩ := (HP.out.row i x hi).form
    exact ⟨ao, cap, e⟩⟩, HA2.out⟩
set_option maxHeartbeats 1000000 in
theorem taken_none {w : World} {v : Value} (h : NoneW w v) :
    Calls Try.prog 48 #[v] w fun e w' => e = .returned (.func (.func 77) #[] #[.pointer (some ⟨w.heap.size, 0, none⟩)]) ∧ KeptL w' w.heap.size [] ∧ Adds w w' := by
  obtain ⟨Z, hZ1, hZ2, hZ3⟩ := zero_list2
  obtain ⟨w1, hw1⟩ : ∃ w1, w.alloc (.cells Z 94) = w1 := ⟨_, rfl⟩
  have HZ := Lib.hid (show BkS 94 w1 w.heap.size (listC []) by rw [← hw1, ← hZ2]; exact BkS.new _ _ _)
  have HA := Lib.hid (show Adds w w1 by rw [← hw1]; exact (Gr.new _ _).adds)
  have HN := Lib.hid (isNone_none (h.adds HA.out))
  clear h hZ2
  go_enter Try.func48, Try.ntmps48
  go_wp2_with (go_at_call 52; refine HN.out.mono ?_; rintro e w2 ⟨rfl, rfl⟩)
  go_ret
  exact ⟨rfl, ⟨[], HZ.out, rfl, by decide, fun x hx => by simp at hx⟩, HA.out⟩
end Go.Proofs.Ytedllkahalfjgaa
