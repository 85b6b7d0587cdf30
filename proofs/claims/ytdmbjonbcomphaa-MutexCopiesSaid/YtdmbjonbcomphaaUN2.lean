/- Lock, Unlock, Holder, Len, Copy, Held of none; Same: their contracts. -/
import Derived.Test.YtdmbjonbcomphaaUN1
namespace Go.Proofs.Ytdmbjonbcomphaa
open Go Go.RowKit Go.Shelf Go.Maps

/-- No mutexes: a nil one, or a zero one. -/
def NoMut (w : World) (v : Value) : Prop := v = .pointer none ∨ ∃ bm, v = .pointer (some ⟨bm, 0, none⟩) ∧ BkS 48 w bm [.map none, .int .i64 0]
theorem NoMut.adds {w w' : World} {v : Value} (h : NoMut w v) (ha : Adds w w') : NoMut w' v := h.imp id (fun ⟨b, e, h⟩ => ⟨b, e, h.adds ha⟩)
theorem isNoneU_no (v : Value) (w : World) (h : NoMut w v) :
    Calls Try.prog 25 #[v] w fun e w' => e = .returned (.bool true) ∧ w = w' := by
  rcases h with rfl | ⟨bm, rfl, h⟩
  · exact isNoneU_nil w
  · exact isNoneU_zero bm w (h.cell 0)
theorem lockU_no (v : Value) (i c : Int) (w : World) (h : NoMut w v) :
    Calls Try.prog 19 #[v, .int .i64 i, .int .i64 c] w fun e w' => e = .returned (.int .i64 1) ∧ w = w' := by
  have HN := Lib.hid (isNoneU_no v w h)
  clear h
  go_enter Try.func19, Try.ntmps19
  go_wp2
  refine wp_scope_fwd 0 rfl ?_
  go_wp2_with (go_at_call 25; refine HN.out.mono ?_; rintro e w1 ⟨rfl, rfl⟩)
  go_step3
  refine ⟨rfl, ?_⟩
  go_wp2
  rw [Exit.noGoto_ret]
  go_ret
  exact ⟨rfl, rfl⟩
theorem unlockU_no (v : Value) (i : Int) (w : World) (h : NoMut w v) :
    Calls Try.prog 16 #[v, .int .i64 i] w fun e w' => e = .returned (.tuple #[.int .i64 0, .int .i64 1]) ∧ w = w' := by
  have HN := Lib.hid (isNoneU_no v w h)
  clear h
  go_enter Try.func16, Try.ntmps16
  go_wp2
  refine wp_scope_fwd 0 rfl ?_
  go_wp2_with (go_at_call 25; refine HN.out.mono ?_; rintro e w1 ⟨rfl, rfl⟩)
  go_step3
  refine ⟨rfl, ?_⟩
  go_wp2
  rw [Exit.noGoto_ret]
  go_ret2
  exact ⟨rfl, rfl⟩
theorem holderU_no (v : Value) (i : Int) (w : World) (h : NoMut w v) :
    Calls Try.prog 17 #[v, .int .i64 i] w fun e w' => e = .returned (.tuple #[.int .i64 0, .bool false]) ∧ w = w' := by
  have HN := Lib.hid (isNoneU_no v w h)
  clear h
  go_enter Try.func17, Try.ntmps17
  go_wp2_with (go_at_call 25; refine HN.out.mono ?_; rintro e w1 ⟨rfl, rfl⟩)
  go_ret2
  exact ⟨rfl, rfl⟩
theorem lenU_no (v : Value)  (w : World) (h : NoMut w v) :
    Calls Try.prog 20 #[v] w fun e w' => e = .returned (.int .i64 0) ∧ w = w' := by
  have HN := Lib.hid (isNoneU_no v w h)
  clear h
  go_enter Try.func20, Try.ntmps20
  go_wp2_with (go_at_call 25; refine HN.out.mono ?_; rintro e w1 ⟨rfl, rfl⟩)
  go_ret
  exact ⟨rfl, rfl⟩
theorem copyU_no (v : Value)  (w : World) (h : NoMut w v) :
    Calls Try.prog 13 #[v] w fun e w' => e = .returned (.pointer none) ∧ w = w' := by
  have HN := Lib.hid (isNoneU_no v w h)
  clear h
  go_enter Try.func13, Try.ntmps13
  go_wp2_with (go_at_call 25; refine HN.out.mono ?_; rintro e w1 ⟨rfl, rfl⟩)
  go_ret
  exact ⟨rfl, rfl⟩
theorem heldU_no (v : Value) (w : World) (h : NoMut w v) :
    Calls Try.prog 18 #[v] w fun e w' => e = .returned (.func (.func 31) #[] #[.pointer (some ⟨w.heap.size, 0, none⟩)]) ∧ w'.cell? ⟨w.heap.size, 0, none⟩ = some (.map none) ∧ Adds w w' := by
  obtain ⟨w1, hw1⟩ : ∃ w1, w.alloc (.cells #[.map none] 46) = w1 := ⟨_, rfl⟩
  have HA := Lib.hid (show Adds w w1 by rw [← hw1]; exact (Gr.new _ _).adds)
  have HB := Lib.hid (show BkS 46 w1 w.heap.size [.map none] by rw [← hw1]; exact BkS.new _ _ _)
  have HN := Lib.hid (isNoneU_no v w1 (h.adds HA.out))
  clear h
  go_enter Try.func18, Try.ntmps18
  go_wp2_with (go_at_call 25; refine HN.out.mono ?_; rintro e w2 ⟨rfl, rfl⟩)
  go_ret
  exact ⟨rfl, HB.out.cell 0, HA.out⟩

/-! ### Same -/
set_option maxRecDepth 100000 in
set_option maxHeartbeats 2000000 in
theorem sameU_any (v u : Value) (bp b bp' b' : Nat) (l l' : List Int) (w : World) (h : MutP w v bp b l) (h' : MutP w u bp' b' l') :
    Calls Try.prog 15 #[v, u] w fun e w' => e = .returned (.bool (decide (l = l'))) ∧ Adds w w' := by
  obtain rfl := h.ptr
  obtain rfl := h'.ptr
  have HN := Lib.hid (isNoneU_full bp b w (h.blk.cell 0))
  have HN' := Lib.hid (isNoneU_full bp' b' w (h'.blk.cell 0))
  obtain ⟨y, hy⟩ : ∃ y : Int, ((l.length : Nat) : Int) = y := ⟨_, rfl⟩
  obtain ⟨y', hy'⟩ : ∃ y : Int, ((l'.length : Nat) : Int) = y := ⟨_, rfl⟩
  have C0 := Lib.hid (fun (W : World) (hW : Adds w.drew W) => show W.cell? ⟨bp, 0, none⟩ = some (.map (some b)) from (h.blk.adds (Adds.trans (Adds.drew w) hW)).cell 0)
  have C0' := Lib.hid (fun (W : World) (hW : Adds w.drew W) => show W.cell? ⟨bp', 0, none⟩ = some (.map (some b')) from (h'.blk.adds (Adds.trans (Adds.drew w) hW)).cell 0)
  have C1 := Lib.hid (fun (W : World) (hW : Adds w.drew W) => show W.cell? ⟨bp, 1, none⟩ = some (.int .i64 y) by rw [← hy]; exact (h.blk.adds (Adds.trans (Adds.drew w) hW)).cell 1)
  have C1' := Lib.hid (fun (W : World) (hW : Adds w.drew W) => show W.cell? ⟨bp', 1, none⟩ = some (.int .i64 y') by rw [← hy']; exact (h'.blk.adds (Adds.trans (Adds.drew w) hW)).cell 1)
  by_cases hn : l.length = l'.length
  · obtain ⟨z, hz⟩ : ∃ z, decide (l = l') = z := ⟨_, rfl⟩
    have HC := Lib.hid (fun (W : World) (hW : Adds w W) => sameH_any b b' l l' W (h.map.adds hW) (h'.map.adds hW) hn)
    rw [hz] at HC ⊢
    have hyy : y = y' := by rw [← hy, ← hy', hn]
    subst hyy
    clear h h' hz hn hy hy'
    go_enter Try.func15, Try.ntmps15
    go_wp2_with (first
      | (go_at_call 25; refine HN.out.mono ?_; rintro e w1 ⟨rfl, rfl⟩; clear HN)
      | (go_at_call 25; refine HN'.out.mono ?_; rintro e w1 ⟨rfl, rfl⟩; clear HN'))
    refine wp_region_loose [] (fun _ _ _ => True) Adds (by kernel_rfl) (by kernel_rfl) (by simp) Adds.refl (fun _ _ _ h k => Adds.trans h k) (fun _ _ _ _ _ _ => trivial) ?_
    repeat (refine wpL_step (fun K hK => ?_); first
      | (refine stepL_ex (v := .bool true) rfl rfl rfl Adds.refl ?_ ?_; (· (intro w' hw'; clear hK; go_simp)); go_simp; refine hK _ ?_; clear hK K)
      | (refine stepL_ex rfl rfl rfl Adds.refl (fun w' hw' => rfl) ?_; go_simp; refine hK _ ?_; clear hK K)
      | (refine stepL_ex (v := .int .i64 y) rfl rfl rfl Adds.refl ?_ ?_; (· (intro w' hw'; clear hK; have hc := C1.out w' hw'; go_simp)); go_simp; refine hK _ ?_; clear hK K)
      | (refine stepL_ex (v := .int .i64 y) rfl rfl rfl Adds.refl ?_ ?_; (· (intro w' hw'; clear hK; have hc := C1'.out w' hw'; go_simp)); go_simp; refine hK _ ?_; clear hK K)
      | (refine stepL_ex (v := .map (some b)) rfl rfl rfl Adds.refl ?_ ?_; (· (intro w' hw'; clear hK; have hc := C0.out w' hw'; go_simp)); go_simp; refine hK _ ?_; clear hK K)
      | (refine stepL_ex (v := .map (some b')) rfl rfl rfl Adds.refl ?_ ?_; (· (intro w' hw'; clear hK; have hc := C0'.out w' hw'; go_simp)); go_simp; refine hK _ ?_; clear hK K)
      | (refine stepL_call (v := .bool z) (f := 27) (args := #[.map (some b), .map (some b')]) rfl rfl rfl ?_ (fun w' hw' => HC.out w' (Adds.trans (Adds.drew w) hw')) ?_; (· (intro w'; clear hK; go_simp)); go_simp; refine hK _ ?_; clear hK K))
    refine wpL_nil ?_
    intro w10 a10
    simp only [forL]
    have A10 := Lib.hid (Adds.trans (Adds.drew w) a10); clear a10
    go_wp2_with fail
    go_ret
    exact ⟨rfl, A10.out⟩
  · have hl : decide (l = l') = false := decide_eq_false (fun e => hn (by rw [e]))
    rw [hl]
    have hyy : ¬ y = y' := fun e => hn (by omega)
    clear h h' hn hy hy' hl
    go_enter Try.func15, Try.ntmps15
    go_wp2_with (first
      | (go_at_call 25; refine HN.out.mono ?_; rintro e w1 ⟨rfl, rfl⟩; clear HN)
      | (go_at_call 25; refine HN'.out.mono ?_; rintro e w1 ⟨rfl, rfl⟩; clear HN'))
    refine wp_region_loose [] (fun _ _ _ => True) Adds (by kernel_rfl) (by kernel_rfl) (by simp) Adds.refl (fun _ _ _ h k => Adds.trans h k) (fun _ _ _ _ _ _ => trivial) ?_
    repeat (refine wpL_step (fun K hK => ?_); first
      | (refine stepL_skip rfl rfl rfl ?_; go_simp; refine hK _ ?_; clear hK K)
      | (refine stepL_ex (v := .bool false) rfl rfl rfl Adds.refl ?_ ?_; (· (intro w' hw'; clear hK; go_simp)); go_simp; refine hK _ ?_; clear hK K)
      | (refine stepL_ex rfl rfl rfl Adds.refl (fun w' hw' => rfl) ?_; go_simp; refine hK _ ?_; clear hK K)
      | (refine stepL_ex (v := .int .i64 y) rfl rfl rfl Adds.refl ?_ ?_; (· (intro w' hw'; clear hK; have hc := C1.out w' hw'; go_simp)); go_simp; refine hK _ ?_; clear hK K)
      | (refine stepL_ex (v := .int .i64 y') rfl rfl rfl Adds.refl ?_ ?_; (· (intro w' hw'; clear hK; have hc := C1'.out w' hw'; go_simp)); go_simp; refine hK _ ?_; clear hK K))
    refine wpL_nil ?_
    intro w10 a10
    simp only [forL]
    have A10 := Lib.hid (Adds.trans (Adds.drew w) a10); clear a10
    go_wp2_with fail
    go_ret
    exact ⟨rfl, A10.out⟩
theorem sameU_nn (v u : Value) (w : World) (h : NoMut w v) (h' : NoMut w u) :
    Calls Try.prog 15 #[v, u] w fun e w' => e = .returned (.bool true) ∧ w = w' := by
  have HN := Lib.hid (isNoneU_no v w h)
  have HN' := Lib.hid (isNoneU_no u w h')
  clear h h'
  go_enter Try.func15, Try.ntmps15
  have HN2 := HN
  go_wp2_with (first
    | (go_at_call 25; refine HN.out.mono ?_; rintro e w1 ⟨rfl, rfl⟩; clear HN)
    | (go_at_call 25; refine HN2.out.mono ?_; rintro e w1 ⟨rfl, rfl⟩; clear HN2)
    | (go_at_call 25; refine HN'.out.mono ?_; rintro e w1 ⟨rfl, rfl⟩; clear HN'))
  go_ret
  exact ⟨rfl, rfl⟩
theorem sameU_mn (v u : Value) (bp b : Nat) (l : List Int) (w : World) (h : MutP w v bp b l) (h' : NoMut w u) :
    Calls Try.prog 15 #[v, u] w fun e w' => e = .returned (.bool false) ∧ w = w' := by
  obtain rfl := h.ptr
  have HN := Lib.hid (isNoneU_full bp b w (h.blk.cell 0))
  have HN' := Lib.hid (isNoneU_no u w h')
  clear h h'
  go_enter Try.func15, Try.ntmps15
  have HN2 := HN
  go_wp2_with (first
    | (go_at_call 25; refine HN.out.mono ?_; rintro e w1 ⟨rfl, rfl⟩; clear HN)
    | (go_at_call 25; refine HN'.out.mono ?_; rintro e w1 ⟨rfl, rfl⟩; clear HN')
    | (go_at_call 25; refine HN2.out.mono ?_; rintro e w1 ⟨rfl, rfl⟩; clear HN2))
  go_ret
  exact ⟨rfl, rfl⟩
end Go.Proofs.Ytdmbjonbcomphaa
