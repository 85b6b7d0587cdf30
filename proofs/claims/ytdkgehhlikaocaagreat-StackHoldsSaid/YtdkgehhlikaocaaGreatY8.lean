/- Merged: AF3. -/
import Derived.Deep.RegionWith
import Derived.Laws.EntriesVeiled
import Derived.Test.YtdkgehhlikaocaaGreatY7
namespace Go.Proofs.YtdkgehhlikaocaaGreat
open Go Go.RowKit

/-- A kind that is none. -/
def foldX (x : Int) (a : Nat) (l : List UInt32) : Nat × Nat × Int := if 1 ≤ x ∧ x ≤ 12 then foldN x.toNat a l else (0, 0, 2)
/-- What one look into the map gives. -/
def LookQ (x : Int) (a : Nat) (v : Value) (w : World) (fv : Value) (z : Bool) : Exit → Act → World → Prop :=
  Exit.then (fun A W => ∃ b9 bm, A = { tmps := #[.int .i64 x, .int .u32 a, v, .pointer (some ⟨w.heap.size, 0, none⟩), undef, undef, .int .u32 0, .int .i64 0, .int .i64 0, .pointer (some ⟨b9, 0, none⟩), .bool z, .tuple #[fv, .bool z], .map (some bm), .int .i64 x, .tuple #[fv, .bool z], fv, .bool z, undef, undef, undef, undef, undef, undef, undef, undef, undef], defers := [] } ∧
    Adds w W ∧ W.cell? ⟨b9, 0, none⟩ = some fv ∧ W.cell? ⟨w.heap.size, 0, none⟩ = some (.int .i64 x)) fun _ _ _ => False
theorem adds_thaw {w w' : World} (h : Adds w w') (o : Obj) (b : Nat) (hb : w.heap[b]? = some o) (i : Nat) (hf : w.frozen? ⟨b, i, none⟩ = false) : w'.frozen? ⟨b, i, none⟩ = false := by
  have e : w'.heap[b]? = w.heap[b]? := h.block b (Array.getElem?_eq_some_iff.1 hb).1
  unfold World.frozen? at hf ⊢
  simp only at hf ⊢
  rw [e]
  exact hf
theorem thaw_new (w : World) (v : Value) (t : TypeId) : (w.alloc (.cells #[v] t)).frozen? ⟨w.heap.size, 0, none⟩ = false := by
  have h := heap_alloc_new w (Obj.cells #[v] t)
  simp only [World.frozen?]
  rw [h]
  rfl

theorem cell_new (w : World) (v : Value) (t : TypeId) : (w.alloc (.cells #[v] t)).cell? ⟨w.heap.size, 0, none⟩ = some v := by
  rw [cell_of_row _ w.heap.size 0 _ _ _ (heap_alloc_new w _)]; rfl

set_option maxRecDepth 100000 in
set_option maxHeartbeats 4000000 in
theorem fold_any (x : Int) (hx : (Lit.int .i64 x).wf = true) (a : Nat) (ha : a < 4294967296) {n : Nat} (v : Value) (l : List UInt32) (w : World) (hv : Cells32 n w v l) :
    Calls Tryz.prog 105 #[.int .i64 x, .int .u32 a, v] w (FoldPost (foldX x a l) w) := by
  have A0 := Lib.hid (adds_box w (.cells #[.int .i64 x] 137))
  have HB0 := Lib.hid (cell_new w (.int .i64 x) 137)
  have HV := Lib.hid hv; clear hv
  have HA32 := Lib.hid ha; clear ha
  have HX := Lib.hid hx; clear hx
  by_cases hk : 1 ≤ x ∧ x ≤ 12
  · unfold foldX
    rw [if_pos hk]
    obtain ⟨k, hkx⟩ : ∃ k : Nat, x = k := ⟨x.toNat, by omega⟩
    have HK := Lib.hid hkx
    have h1 : 1 ≤ k := by omega
    have h12 : k ≤ 12 := by omega
    have HL := Lib.hid (fun b W h => look_kind k h1 h12 b W h)
    have HF := Lib.hid (fun b3 b9 W (hA : Adds w W) h3 h9 => fold_it k a h1 h12 HA32.out v l b3 b9 W (cells32_adds HV.out hA) h3 h9)
    have hfx : x.toNat = k := by omega
    rw [← hkx] at HL HF
    rw [hfx]
    clear hkx hfx hk
    go_enter Tryz.func105, Tryz.ntmps105
    go_wp2
    refine wp_scope_fwd 0 rfl ?_
    go_wp2
    refine Code.wp_mono (Q := LookQ x a v w (.func (.func (recF k)) #[] #[]) true) ?_ ?_
    case refine_2 =>
      have hn3 : (w.alloc (.cells #[.int .i64 x] 137)).drew.cell? ⟨w.heap.size, 0, none⟩ = some (.int .i64 x) := HB0.out
      have hm3 : ∀ o, ((w.alloc (.cells #[.int .i64 x] 137)).drew.alloc o).cell? ⟨w.heap.size, 0, none⟩ = some (.int .i64 x) := fun o => adds_cell (adds_box _ o) hn3
      go_region_with (first
        | (go_at_call 113; refine (reckonings_any _).mono ?_; rintro e w1 ⟨bm, rfl, hbm, own, a1⟩; have A1 := Lib.hid a1; have c3 : w1.cell? ⟨w.heap.size, 0, none⟩ = some (.int .i64 x) := (by first | exact adds_cell a1 HB0.out | exact adds_cell a1 (adds_cell (adds_box _ _) HB0.out)); have c3' : ∀ o, (w1.alloc o).cell? ⟨w.heap.size, 0, none⟩ = some (.int .i64 x) := fun o => adds_cell (adds_box _ o) c3; (try (have c9 : w1.cell? ⟨w.heap.size + 1, 0, none⟩ = some .nilFunc := (by have := adds_cell a1 (cell_of_row _ _ 0 _ _ _ (heap_alloc_new ((w.alloc (.cells #[.int .i64 x] 137)).drew) (.cells #[.nilFunc] 152))); simpa using this))); (try (have f9 : w1.frozen? ⟨w.heap.size + 1, 0, none⟩ = false := (by have := adds_thaw a1 _ _ (heap_alloc_new ((w.alloc (.cells #[.int .i64 x] 137)).drew) (.cells #[.nilFunc] 152)) 0 (thaw_new _ _ _); simpa using this))); have hl1 := HL.out bm w1 own; have hl2 := fun o => HL.out bm (w1.alloc o) (own.alloc o); clear a1 own hbm))
      all_goals
        refine ⟨_, _, rfl, ?_, ?_, ?_⟩
        · first | exact A0.out.trans ((Adds.drew _).trans (A1.out.trans (adds_box _ _))) | exact Below.setCell (A0.out.trans ((Adds.drew _).trans ((adds_box _ _).trans A1.out))) (by simp) _
        · first | exact cell_new _ _ _ | exact World.cell?_setCell_same _ _ _ c9
        · first | exact c3' _ | exact (World.cell?_setCell_other _ _ _ _ (by simp)).trans c3
    · rintro e A W hq
      cases e <;> first | exact False.elim hq | skip
      obtain ⟨b9, bm, rfl, had, hc9, hc3⟩ := hq
      have AW := Lib.hid had; clear had
      have HC := Lib.hid (HF.out w.heap.size b9 W AW.out hc3 hc9)
      clear hc3 hc9
      simp only [Exit.then]
      go_wp2_with (go_at_call 114; refine HC.out.mono ?_; rintro e w2 ⟨rfl, a2⟩; have A2 := Lib.hid a2; clear a2)
      simp only [Exit.jump]
      go_ret3
      exact ⟨rfl, AW.out.trans A2.out⟩
  · unfold foldX
    rw [if_neg hk]
    have HL := Lib.hid (fun b W h => look_none x HX.out hk b W h)
    clear hk
    go_enter Tryz.func105, Tryz.ntmps105
    go_wp2
    refine wp_scope_fwd 0 rfl ?_
    go_wp2
    refine Code.wp_mono (Q := LookQ x a v w .nilFunc false) ?_ ?_
    case refine_2 =>
      have hn3 : (w.alloc (.cells #[.int .i64 x] 137)).drew.cell? ⟨w.heap.size, 0, none⟩ = some (.int .i64 x) := HB0.out
      have hm3 : ∀ o, ((w.alloc (.cells #[.int .i64 x] 137)).drew.alloc o).cell? ⟨w.heap.size, 0, none⟩ = some (.int .i64 x) := fun o => adds_cell (adds_box _ o) hn3
      go_region_with (first
        | (go_at_call 113; refine (reckonings_any _).mono ?_; rintro e w1 ⟨bm, rfl, hbm, own, a1⟩; have A1 := Lib.hid a1; have c3 : w1.cell? ⟨w.heap.size, 0, none⟩ = some (.int .i64 x) := (by first | exact adds_cell a1 HB0.out | exact adds_cell a1 (adds_cell (adds_box _ _) HB0.out)); have c3' : ∀ o, (w1.alloc o).cell? ⟨w.heap.size, 0, none⟩ = some (.int .i64 x) := fun o => adds_cell (adds_box _ o) c3; (try (have c9 : w1.cell? ⟨w.heap.size + 1, 0, none⟩ = some .nilFunc := (by have := adds_cell a1 (cell_of_row _ _ 0 _ _ _ (heap_alloc_new ((w.alloc (.cells #[.int .i64 x] 137)).drew) (.cells #[.nilFunc] 152))); simpa using this))); (try (have f9 : w1.frozen? ⟨w.heap.size + 1, 0, none⟩ = false := (by have := adds_thaw a1 _ _ (heap_alloc_new ((w.alloc (.cells #[.int .i64 x] 137)).drew) (.cells #[.nilFunc] 152)) 0 (thaw_new _ _ _); simpa using this))); have hl1 := HL.out bm w1 own; have hl2 := fun o => HL.out bm (w1.alloc o) (own.alloc o); clear a1 own hbm))
      all_goals
        refine ⟨_, _, rfl, ?_, ?_, ?_⟩
        · first | exact A0.out.trans ((Adds.drew _).trans (A1.out.trans (adds_box _ _))) | exact Below.setCell (A0.out.trans ((Adds.drew _).trans ((adds_box _ _).trans A1.out))) (by simp) _
        · first | exact cell_new _ _ _ | exact World.cell?_setCell_same _ _ _ c9
        · first | exact c3' _ | exact (World.cell?_setCell_other _ _ _ _ (by simp)).trans c3
    · rintro e A W hq
      cases e <;> first | exact False.elim hq | skip
      obtain ⟨b9, bm, rfl, had, hc9, hc3⟩ := hq
      have AW := Lib.hid had; clear had
      clear hc3 hc9
      simp only [Exit.then]
      go_wp2
      go_step3
      refine ⟨rfl, ?_⟩
      go_wp2
      rw [Exit.noGoto_ret]
      go_ret3
      exact ⟨rfl, AW.out⟩
end Go.Proofs.YtdkgehhlikaocaaGreat
