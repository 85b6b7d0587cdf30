/- The law VectorTicks, walked. -/
import Derived.Test.YtcimppggemdidaaDoorVL1
namespace Go.Proofs.YtcimppggemdidaaDoor
open Go Go.RowKit

theorem own_emptyW (w : World) : OwnW (w.alloc (.cells #[] 26)) w.heap.size (.slice (some ⟨w.heap.size, 0, none⟩) 0 0) [] := OwnW.lit w [] (by simp [maxLen])
/-- What a law's own copy of a list with a mark behind it gives. -/
theorem words_cut {w : World} {base g cap : Nat} {c : List UInt64} {x : UInt64} (h : OwnW w base (.slice (some ⟨g, 0, none⟩) (c.length + 1) cap) (c ++ [x])) : Words w.heap.size w (.slice (some ⟨g, 0, none⟩) c.length cap) c := by
  have h1 := h.words
  have e : c.length + 1 = (c ++ [x]).length := by simp
  rw [e] at h1
  have := words_pre h1 (x := c.length) (by simp)
  rwa [List.take_left] at this
theorem cell_last {w : World} {base g n cap : Nat} {c : List UInt64} {x : UInt64} (h : OwnW w base (.slice (some ⟨g, 0, none⟩) n cap) (c ++ [x])) : w.cell? ⟨g, c.length, none⟩ = some (.int .u64 (x.toNat : Nat)) := by
  have := World.ownsRow.cells h (g := g) rfl c.length (wordV x) (by simp)
  have e : (⟨g, 0, none⟩ : Addr).add c.length = ⟨g, c.length, none⟩ := by unfold Addr.add; split <;> simp_all
  rw [e] at this
  exact this
theorem words_cap {w : World} {base g cap : Nat} {c : List UInt64} {x : UInt64} (h : OwnW w base (.slice (some ⟨g, 0, none⟩) (c.length + 1) cap) (c ++ [x])) : c.length + 1 ≤ cap ∧ cap ≤ 9223372036854775807 := by
  have := h.words.len
  rw [List.length_append, List.length_singleton] at this
  exact this.2
theorem adds_ticks {w w5 w6 : World} {o1 o2 o3 : Obj} {v : Value} (h : Below (w.heap.size + 1) ((w.alloc o1).alloc o2) w5) (hv : ∀ k, v.ownBlock = some k → w.heap.size + 1 ≤ k ∧ k < (w5.alloc o3).heap.size) (hg : (w5.alloc o3).grownBy w6 v.ownBlock) : Adds w w6 := by
  have h1 : Below w.heap.size w w5 := Below.trans ((Adds.new w o1).trans (Adds.new _ o2)) (h.mono (by omega))
  have h2 := h.size
  simp at h2
  have h3 : Below w.heap.size w5 w6 := ((Below.refl w.heap.size w5).alloc (by omega) o3).grown hg (by simp; omega) fun k hk => by have := (hv k hk.symm.symm).1; omega
  exact h1.trans h3

set_option maxRecDepth 100000 in
set_option maxHeartbeats 8000000 in
theorem law_ticks {nb : Nat} (v : Value) (c : List UInt64) (x : Int) (hx : (Lit.int .i64 x).wf = true) (n : Nat) (w : World) (hv : Words nb w v c) (hw : How w) :
    Calls Tryd.prog 6 #[v, .int .i64 x, .int .u64 n] w (TrueAdds w) := by
  have HV := Lib.hid hv
  have HF := Lib.hid (few_any _ [c] _ (listsW_1 w v c hv)); clear hv
  have HW := Lib.hid (fun W (h : Adds w W) => works4_any W (hw.adds h)); clear hw
  obtain ⟨ao, cap, rfl, h1, h2, _⟩ := id HV.out
  unfold maxLen at h2
  by_cases hl : c.length ≤ 40
  · rw [few_one hl] at HF
    by_cases hx70 : x ≤ 70
    · have hx7 : ¬ ((70 : Int) < x) := by omega
      have HV1 := Lib.hid (show Words w.heap.size ((w.alloc (.cells #[.slice ao c.length cap] 48)).alloc (.cells #[] 26)) (.slice ao c.length cap) c from HV.out.here.below ((Adds.new _ _).trans (Adds.new _ _)))
      have HE0 := Lib.hid (show OwnW ((w.alloc (.cells #[.slice ao c.length cap] 48)).alloc (.cells #[] 26)) (w.heap.size + 1) (.slice (some ⟨w.heap.size + 1, 0, none⟩) 0 0) [] from by have := own_emptyW (w.alloc (.cells #[.slice ao c.length cap] 48)); rw [World.size_alloc] at this; exact this)
      have HL := Lib.hid hl
      have HVX := Lib.hid (fun W (h : Adds w W) => HV.out.here.adds h)
      clear hl hx70
      rcases tick_ex c x n with ⟨z, hz⟩ | ⟨i, hi⟩
      · have HT := Lib.hid (fun vb W (h : Words W.heap.size W vb c) => tick_no vb c x z n hx hz W h)
        have HRT := Lib.hid (fun W (h : Adds w W) => refTick_no _ c x z n hx hz W (HVX.out W h))
        obtain ⟨nn, hnn⟩ : ∃ y : Int, (n : Int) = y := ⟨_, rfl⟩
        rw [hnn] at HT HRT ⊢
        clear hnn hz hx
        go_enter Tryd.func6, Tryd.ntmps6
        go_wp2_with (first
        | (go_at_call 23; refine HF.out.mono ?_; rintro e w' ⟨rfl, rfl⟩)
        | (at_builtin; refine wp_append_w rfl _ _ 48 rfl Tryd.underlying48 (w.heap.size + 1) _ [] rfl (by exact HE0.out) _ c _ rfl (by exact HV1.out) (by have := HL.out; simp; omega) (by simp) ?_; intro v5 w5 o5 b5; rw [List.nil_append] at o5; have A5 := Lib.hid (show Below (w.heap.size + 1) ((w.alloc (.cells #[.slice ao c.length cap] 48)).alloc (.cells #[] 26)) w5 from (Below.refl _ _).grown b5 (by simp) (fun j hj => (World.ownsRow.lt HE0.out j hj.symm.symm).1)); have O5 := Lib.hid (show OwnW (w5.alloc (.cells #[.int .u64 77] 26)) (w.heap.size + 1) v5 c from World.ownsRow.alloc o5 _); have O5b := Lib.hid o5; have HS := Lib.hid (lit_w w5 [77] (by decide)); clear o5 b5)
        | (at_builtin; refine wp_append_w rfl _ _ 48 rfl Tryd.underlying48 (w.heap.size + 1) _ c rfl (by exact O5.out) _ [77] _ rfl (by exact HS.out) (by have := HL.out; simp; omega) (by have := A5.out.size; simp at this ⊢; omega) ?_; intro v6 w6 o6 b6; have A2 := Lib.hid (adds_ticks A5.out (World.ownsRow.lt O5.out) b6); obtain ⟨g6, cap6, e6, hg6, _, hf6⟩ := o6.form' (by simp); rw [List.length_append, List.length_singleton] at e6; subst e6; have HC6 := Lib.hid (words_cut o6); have H77 := Lib.hid (cell_last o6); have hc6 := words_cap o6; have OX := Lib.hid o6; have AY := Lib.hid (Adds.refl w6); clear o6 b6 hf6)
        | (go_at_call 37; refine (HT.out _ _ HC6.out).mono ?_; rintro e w3 ⟨rfl, a3⟩; have AY := Lib.hid (AY.out.trans a3); clear a3)
        | (go_at_call 38; refine (HRT.out _ (A2.out.trans AY.out)).mono ?_; rintro e w' ⟨rfl, rfl⟩; have HQ1 := Lib.hid (fun va vb W (ha : Words W.heap.size W va []) (hb : Words W.heap.size W vb []) => (refEqual_any va vb [] [] W ha hb)); rw [eqB_self] at HQ1; have HQ2 := Lib.hid (fun W (h : Adds w6 W) => (refEqual_any _ _ c c W (HC6.out.adds h) (HVX.out W (A2.out.trans h)))); rw [eqB_self] at HQ2; have OA := Lib.hid (Words.nil (n := w3.heap.size) w3); have OB := OA)
        | (go_at_call 27; refine (num4_any _ _).mono ?_; rintro e w' ⟨rfl, rfl⟩)
        | (go_at_call 24; refine (HW.out _ (A2.out.trans AY.out)).mono ?_; rintro e w3 ⟨rfl, a3⟩; have AY := Lib.hid (AY.out.trans a3); clear a3)
        | (go_at_call 30; first
            | (refine (HQ1.out _ _ _ OA.out OB.out).mono ?_; rintro e w3 ⟨rfl, a3⟩; have AY := Lib.hid (AY.out.trans a3); have h77 := AY.out.cellAt H77.out; clear a3 HQ1)
            | (refine (HQ2.out _ AY.out).mono ?_; rintro e w3 ⟨rfl, a3⟩; have AY := Lib.hid (AY.out.trans a3); have h77 := AY.out.cellAt H77.out; clear a3)))
        go_ret
        exact ⟨rfl, A2.out.trans AY.out⟩
      · have HT := Lib.hid (fun vb W (h : Words W.heap.size W vb c) => tick_yes vb c x n i hx hi W h (by have := HL.out; omega))
        have HRT := Lib.hid (fun W (h : Adds w W) => refTick_yes _ c x n i hx hi W (HVX.out W h) (by have := HL.out; omega))
        obtain ⟨nn, hnn⟩ : ∃ y : Int, (n : Int) = y := ⟨_, rfl⟩
        rw [hnn] at HT HRT ⊢
        obtain ⟨T, hT⟩ : ∃ T, vTickL c i = T := ⟨_, rfl⟩
        rw [hT] at HT HRT
        clear hnn hi hx hT
        go_enter Tryd.func6, Tryd.ntmps6
        go_wp2_with (first
        | (go_at_call 23; refine HF.out.mono ?_; rintro e w' ⟨rfl, rfl⟩)
        | (at_builtin; refine wp_append_w rfl _ _ 48 rfl Tryd.underlying48 (w.heap.size + 1) _ [] rfl (by exact HE0.out) _ c _ rfl (by exact HV1.out) (by have := HL.out; simp; omega) (by simp) ?_; intro v5 w5 o5 b5; rw [List.nil_append] at o5; have A5 := Lib.hid (show Below (w.heap.size + 1) ((w.alloc (.cells #[.slice ao c.length cap] 48)).alloc (.cells #[] 26)) w5 from (Below.refl _ _).grown b5 (by simp) (fun j hj => (World.ownsRow.lt HE0.out j hj.symm.symm).1)); have O5 := Lib.hid (show OwnW (w5.alloc (.cells #[.int .u64 77] 26)) (w.heap.size + 1) v5 c from World.ownsRow.alloc o5 _); have O5b := Lib.hid o5; have HS := Lib.hid (lit_w w5 [77] (by decide)); clear o5 b5)
        | (at_builtin; refine wp_append_w rfl _ _ 48 rfl Tryd.underlying48 (w.heap.size + 1) _ c rfl (by exact O5.out) _ [77] _ rfl (by exact HS.out) (by have := HL.out; simp; omega) (by have := A5.out.size; simp at this ⊢; omega) ?_; intro v6 w6 o6 b6; have A2 := Lib.hid (adds_ticks A5.out (World.ownsRow.lt O5.out) b6); obtain ⟨g6, cap6, e6, hg6, _, hf6⟩ := o6.form' (by simp); rw [List.length_append, List.length_singleton] at e6; subst e6; have HC6 := Lib.hid (words_cut o6); have H77 := Lib.hid (cell_last o6); have hc6 := words_cap o6; have OX := Lib.hid o6; have AY := Lib.hid (Adds.refl w6); clear o6 b6 hf6)
        | (go_at_call 37; refine (HT.out _ _ HC6.out).mono ?_; rintro e w3 ⟨v3, rfl, o3, a3⟩; obtain ⟨a7, c7, rfl⟩ := o3.isSlice; have OA := Lib.hid o3.words; have AY := Lib.hid (AY.out.trans a3); clear a3 o3)
        | (go_at_call 38; refine (HRT.out _ (A2.out.trans AY.out)).mono ?_; rintro e w4 ⟨v4, rfl, o4, a4⟩; obtain ⟨a8, c8, rfl⟩ := o4.isSlice; have OB := Lib.hid o4.words; have OA := Lib.hid (OA.out.adds a4); have AY := Lib.hid (AY.out.trans a4); clear a4 o4; have HQ1 := Lib.hid (fun va vb W (ha : Words W.heap.size W va T) (hb : Words W.heap.size W vb T) => (refEqual_any va vb T T W ha hb)); rw [eqB_self] at HQ1; have HQ2 := Lib.hid (fun W (h : Adds w6 W) => (refEqual_any _ _ c c W (HC6.out.adds h) (HVX.out W (A2.out.trans h)))); rw [eqB_self] at HQ2)
        | (go_at_call 27; refine (num4_any _ _).mono ?_; rintro e w' ⟨rfl, rfl⟩)
        | (go_at_call 24; refine (HW.out _ (A2.out.trans AY.out)).mono ?_; rintro e w3 ⟨rfl, a3⟩; have AY := Lib.hid (AY.out.trans a3); clear a3)
        | (go_at_call 30; first
            | (refine (HQ1.out _ _ _ OA.out OB.out).mono ?_; rintro e w3 ⟨rfl, a3⟩; have AY := Lib.hid (AY.out.trans a3); have h77 := AY.out.cellAt H77.out; clear a3 HQ1)
            | (refine (HQ2.out _ AY.out).mono ?_; rintro e w3 ⟨rfl, a3⟩; have AY := Lib.hid (AY.out.trans a3); have h77 := AY.out.cellAt H77.out; clear a3)))
        go_ret
        exact ⟨rfl, A2.out.trans AY.out⟩
    · have AX := Lib.hid (Adds.new w (.cells #[.slice ao c.length cap] 48))
      have hx7 : (70 : Int) < x := by omega
      clear hl hx70
      go_enter Tryd.func6, Tryd.ntmps6
      go_wp2_with (first
        | (go_at_call 23; refine HF.out.mono ?_; rintro e w' ⟨rfl, rfl⟩)
        | (go_at_call 24; refine (HW.out _ AX.out).mono ?_; rintro e w1 ⟨rfl, a1⟩; have AX := Lib.hid (AX.out.trans a1); clear a1))
      go_ret
      exact ⟨rfl, AX.out⟩
  · rw [few_not hl] at HF
    have AX := Lib.hid (Adds.new w (.cells #[.slice ao c.length cap] 48))
    clear hl h1 h2
    go_enter Tryd.func6, Tryd.ntmps6
    go_wp2_with (first
      | (go_at_call 23; refine HF.out.mono ?_; rintro e w' ⟨rfl, rfl⟩)
      | (go_at_call 24; refine (HW.out _ AX.out).mono ?_; rintro e w1 ⟨rfl, a1⟩; have AX := Lib.hid (AX.out.trans a1); clear a1))
    go_ret
    exact ⟨rfl, AX.out⟩
end Go.Proofs.YtcimppggemdidaaDoor
