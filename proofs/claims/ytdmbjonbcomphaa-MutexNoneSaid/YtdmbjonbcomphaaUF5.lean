/- copied, Copy, Held, same, Same: their contracts. -/
import Derived.Test.YtdmbjonbcomphaaUI2
namespace Go.Proofs.Ytdmbjonbcomphaa
open Go Go.RowKit Go.Shelf Go.Maps

theorem HolF.moved {w w' : World} {b b' : Nat} {l : List Int} (h : HolF w b l) (hb : w'.heap[b']? = w.heap[b]?) : HolF w' b' l := by
  obtain ⟨L, ⟨n, es, ⟨es0, clock, h0, F, hs, hD⟩, hp, hn, hk, hd⟩, hL⟩ := h
  exact ⟨L, ⟨n, es, ⟨es0, clock, hb.trans h0, F, hs, hD⟩, hp, hn, hk, hd⟩, hL⟩
theorem cloneU_any (b : Nat) (l : List Int) (w : World) (h : HolF w b l) :
    Calls Try.prog 36 #[.map (some b)] w fun e w' => e = .returned (.map (some w.heap.size)) ∧ HolF w' w.heap.size l ∧ Adds w w' := by
  obtain ⟨es, c, hb⟩ := h.obj
  refine (AnyW.maps_Clone Try.laysClone b es c w hb).mono ?_
  rintro e w' ⟨he, rfl⟩
  exact ⟨he, h.moved ((heap_new w _).trans hb.symm), (Gr.new _ _).adds⟩
theorem copiedU_any (b : Nat) (l : List Int) (w : World) (h : HolF w b l) :
    Calls Try.prog 26 #[.map (some b)] w fun e w' => e = .returned (.map (some w.heap.size)) ∧ HolF w' w.heap.size l ∧ Adds w w' := by
  have HC := Lib.hid (cloneU_any b l w h)
  clear h
  go_enter Try.func26, Try.ntmps26
  go_wp2_with (go_at_call 36; refine HC.out.mono ?_; rintro e w1 ⟨rfl, h1, h2⟩; have H1 := Lib.hid h1; have H2 := Lib.hid h2; clear h1 h2)
  go_ret
  exact ⟨rfl, H1.out, H2.out⟩
theorem heldU_any (v : Value) (bp b : Nat) (l : List Int) (w : World) (h : MutP w v bp b l) :
    Calls Try.prog 18 #[v] w fun e w' => ∃ b', e = .returned (.func (.func 31) #[] #[.pointer (some ⟨w.heap.size, 0, none⟩)]) ∧ w'.cell? ⟨w.heap.size, 0, none⟩ = some (.map (some b')) ∧ HolF w' b' l ∧ w.heap.size < b' ∧ Adds w w' := by
  obtain rfl := h.ptr
  obtain ⟨w1, hw1⟩ : ∃ w1, w.alloc (.cells #[.map none] 46) = w1 := ⟨_, rfl⟩
  have HA := Lib.hid (show Adds w w1 by rw [← hw1]; exact (Gr.new _ _).adds)
  have HB := Lib.hid (show BkS 46 w1 w.heap.size [.map none] by rw [← hw1]; exact BkS.new _ _ _)
  have HS := Lib.hid (show w1.heap.size = w.heap.size + 1 by rw [← hw1]; simp)
  have h1 := h.adds HA.out
  have c0 : w1.cell? ⟨bp, 0, none⟩ = some (.map (some b)) := h1.blk.cell 0
  have HN := Lib.hid (isNoneU_full bp b w1 c0)
  have HC := Lib.hid (copiedU_any b l w1 h1.map)
  have HM := Lib.hid h1
  obtain ⟨n1, hn1⟩ : ∃ n1, w1.heap.size = n1 := ⟨_, rfl⟩
  rw [hn1] at HC HS
  clear h h1 hn1
  go_enter Try.func18, Try.ntmps18
  go_wp2_with (first
    | (go_at_call 25; refine HN.out.mono ?_; rintro e w2 ⟨rfl, rfl⟩)
    | (go_at_call 26; refine HC.out.mono ?_; rintro e w3 ⟨rfl, h1, h2⟩; have hb3 := HB.out.adds h2; have d0 : w3.cell? ⟨w.heap.size, 0, none⟩ = some (.map none) := hb3.cell 0; have f0 := hb3.free 0; have HB3 := Lib.hid hb3; have H1 := Lib.hid h1; have H2 := Lib.hid h2; clear h1 h2 hb3))
  go_ret
  have hne : w.heap.size ≠ n1 := by have := HS.out; omega
  exact ⟨n1, rfl, (HB3.out.set 0 (.map (some n1))).cell 0, H1.out.same (Below.heap_setCell w3 _ _ _ (fun e => hne e.symm)), by have := HS.out; omega, Adds.set (Adds.trans HA.out H2.out) (Nat.le_refl _) 0 _⟩
set_option maxRecDepth 100000 in
set_option maxHeartbeats 4000000 in
theorem copyU_any (v : Value) (bp b : Nat) (l : List Int) (w : World) (h : MutP w v bp b l) :
    Calls Try.prog 13 #[v] w fun e w' => ∃ v' bp' b', e = .returned v' ∧ MutP w' v' bp' b' l ∧ w.heap.size ≤ bp' ∧ w.heap.size ≤ b' ∧ Adds w w' := by
  obtain rfl := h.ptr
  have c0 : w.cell? ⟨bp, 0, none⟩ = some (.map (some b)) := h.blk.cell 0
  have HN := Lib.hid (isNoneU_full bp b w c0)
  have HM := Lib.hid h
  obtain ⟨z, hz⟩ : ∃ z : Int, ((l.length : Nat) : Int) = z := ⟨_, rfl⟩
  have HZ := Lib.hid hz
  clear h hz c0
  go_enter Try.func13, Try.ntmps13
  go_wp2_with (go_at_call 25; refine HN.out.mono ?_; rintro e w2 ⟨rfl, rfl⟩)
  have hm := HM.out.adds (Adds.drew w)
  have c0 : w.drew.cell? ⟨bp, 0, none⟩ = some (.map (some b)) := hm.blk.cell 0
  have c1 : w.drew.cell? ⟨bp, 1, none⟩ = some (.int .i64 z) := by rw [← HZ.out]; exact hm.blk.cell 1
  have HC := Lib.hid (copiedU_any b l w.drew hm.map)
  clear hm
  go_region_with (go_at_call 26; refine HC.out.mono ?_; rintro e w3 ⟨rfl, h1, h2⟩; have d1 : w3.cell? ⟨bp, 1, none⟩ = some (.int .i64 z) := h2.cellAt c1; have H1 := Lib.hid h1; have H2 := Lib.hid h2; clear h1 h2)
  all_goals
    simp only [Exit.then]
    go_simp
    go_wp2
    go_ret
    have ha : Adds w w3 := Adds.trans (Adds.drew w) H2.out
    have hs : (w.drew).heap.size = w.heap.size := rfl
    exact ⟨_, _, w.heap.size, rfl, ⟨rfl, by rw [HZ.out]; exact BkS.new _ _ _, H1.out.adds (Gr.new _ _).adds, HM.out.len, HM.out.may⟩, ha.size, Nat.le_refl _, Adds.trans ha (Gr.new _ _).adds⟩

/-! ### Same -/
def eqdU : DataW Unit → DataW Unit → Bool
  | .lit (.int .i64 x), .lit (.int .i64 y) => decide (x = y)
  | _, _ => false
theorem eqdU_int (x y : Int) : eqdU (.lit (.int .i64 x)) (.lit (.int .i64 y)) = decide (x = y) := rfl
theorem neqU (W : World) (x y : Value) (xd yd : DataW Unit) (xp yp : List MemPlace) (hx : holdElem x = some (xd, xp)) (hy : holdElem y = some (yd, yp)) :
    (binOp .neq 3 x y).run Try.prog W = .ok (.bool (!eqdU xd yd)) W ∧ ∀ (a b : Operand), (eqGuard .neq 3 a b x y).run Try.prog W = .ok () W := by
  obtain ⟨a, rfl⟩ : ∃ a, x = .int .i64 a := by
    unfold holdElem at hx; split at hx
    · exact ⟨_, rfl⟩
    · cases hx
  obtain ⟨b, rfl⟩ : ∃ a, y = .int .i64 a := by
    unfold holdElem at hy; split at hy
    · exact ⟨_, rfl⟩
    · cases hy
  simp only [holdElem, Option.some.injEq, Prod.mk.injEq] at hx hy
  obtain ⟨rfl, rfl⟩ := hx
  obtain ⟨rfl, rfl⟩ := hy
  refine ⟨?_, fun _ _ => by rw [eqGuard_at_int]; rfl⟩
  rw [eqdU_int]
  by_cases h : a = b
  · subst h; simp [go_sem, binOp]
  · simp [go_sem, binOp, h]
theorem atL_ext {l l' : List Int} (hn : l.length = l'.length) (h : ∀ i, atL l i = atL l' i) : l = l' := by
  apply List.ext_getElem hn
  intro n h1 h2
  have := h (n : Int)
  rw [atL_nat, atL_nat, List.getD_eq_getElem?_getD, List.getD_eq_getElem?_getD, List.getElem?_eq_getElem h1, List.getElem?_eq_getElem h2] at this
  exact this
theorem equalD {es es' : List (Lit × DataW Unit)} {L L' : List IP} {l l' : List Int} (hn : l.length = l'.length) (hp : es.Perm (L.map ent)) (hp' : es'.Perm (L'.map ent)) (hd : (L.map (·.1)).Nodup) (hd' : (L'.map (·.1)).Nodup)
    (hL : ∀ i c, (i, c) ∈ L ↔ (atL l i ≠ 0 ∧ c = atL l i - 1)) (hL' : ∀ i c, (i, c) ∈ L' ↔ (atL l' i ≠ 0 ∧ c = atL l' i - 1)) : Lib.equalFuncD eqdU (.map es) (.map es') = decide (l = l') := by
  have hlen : es.length = (L.map (·.1)).length := by rw [hp.length_eq]; simp
  have hlen' : es'.length = (L'.map (·.1)).length := by rw [hp'.length_eq]; simp
  have good : ∀ i c, (i, c) ∈ L → (Lib.goodD eqdU (.map es') (ent (i, c)) = true ↔ atL l' i = atL l i) := fun i c hm => by
    obtain ⟨h1, rfl⟩ := (hL i c).1 hm
    unfold Lib.goodD
    show (Maps.has (DataW.map es') (kL i) && eqdU (.lit (.int .i64 (atL l i - 1))) ((DataW.map es').atKey (kL i) .nil)) = true ↔ _
    by_cases e : atL l' i = 0
    · have hno : i ∉ L'.map (·.1) := fun hm => (HolF.key hL' i).1 hm e
      have hh : Maps.has (DataW.map es') (kL i) = false := by
        rw [Bool.eq_false_iff]
        intro ha
        obtain ⟨e, he, hs⟩ := List.any_eq_true.1 ha
        obtain ⟨y, hy, rfl⟩ := List.mem_map.1 (hp'.mem_iff.1 he)
        exact hno (List.mem_map.2 ⟨y, hy, kL_inj (WideAt.sameKey_eq hs)⟩)
      rw [hh, e]
      simp
      omega
    · have hm' := (hL' i _).2 ⟨e, rfl⟩
      have hh : Maps.has (DataW.map es') (kL i) = true := List.any_eq_true.2 ⟨ent (i, atL l' i - 1), hp'.mem_iff.2 (List.mem_map.2 ⟨_, hm', rfl⟩), WideAt.sameKey_self (kL_key _)⟩
      rw [hh, at_yes hp' hd' hm', eqdU_int]
      simp
      omega
  have all : (Lib.entriesD (DataW.map es)).all (Lib.goodD eqdU (.map es')) = true ↔ ∀ i, atL l i ≠ 0 → atL l' i = atL l i := by
    rw [List.all_eq_true]
    constructor
    · intro h i hi
      have hm := (hL i _).2 ⟨hi, rfl⟩
      exact (good _ _ hm).1 (h _ (hp.mem_iff.2 (List.mem_map.2 ⟨_, hm, rfl⟩)))
    · intro h x hx
      obtain ⟨⟨i, c⟩, hm, rfl⟩ := List.mem_map.1 (hp.mem_iff.1 hx)
      exact (good _ _ hm).2 (h i ((hL i c).1 hm).1)
  rw [Bool.eq_iff_iff, decide_eq_true_iff]
  unfold Lib.equalFuncD
  rw [Bool.and_eq_true, decide_eq_true_iff, all]
  constructor
  · rintro ⟨h1, h2⟩
    rw [Maps.size_eq, Maps.size_eq, hlen, hlen'] at h1
    refine atL_ext hn fun i => ?_
    by_cases e : atL l i = 0
    · rw [e]
      refine Classical.byContradiction fun hne => ?_
      have h3 := nodup_sub_lenI (i :: L.map (·.1)) (L'.map (·.1)) (List.nodup_cons.2 ⟨fun hm => (HolF.key hL i).1 hm e, hd⟩) (fun x hx => by
        rcases List.mem_cons.1 hx with rfl | hx
        · exact (HolF.key hL' _).2 (fun h => hne h.symm)
        · have h4 := (HolF.key hL x).1 hx
          exact (HolF.key hL' x).2 (by rw [h2 x h4]; exact h4))
      simp only [List.length_cons] at h3
      omega
    · exact (h2 i e).symm
  · rintro rfl
    refine ⟨?_, fun _ _ => rfl⟩
    rw [Maps.size_eq, Maps.size_eq, hlen, hlen']
    exact ((List.perm_ext_iff_of_nodup hd hd').2 fun i => by rw [HolF.key hL, HolF.key hL']).length_eq
theorem equalU_any (b b' : Nat) (l l' : List Int) (w : World) (h : HolF w b l) (h' : HolF w b' l') (hn : l.length = l'.length) :
    Calls Try.prog 37 #[.map (some b), .map (some b')] w fun e w' => e = .returned (.bool (decide (l = l'))) ∧ Adds w w' := by
  obtain ⟨L, ⟨n, es, ho, hp, _, _, hd⟩, hL⟩ := h
  obtain ⟨L', ⟨n', es', ho', hp', _, _, hd'⟩, hL'⟩ := h'
  refine (AnyEq.maps_Equal Try.laysEq keyK holdElem holdElem eqdU b b' n n' (.map es) (.map es') w ho ho' (.int .i64 0) zero_ptr (.lit (.int .i64 0)) [] rfl neqU).mono ?_
  rintro e w' ⟨he, hg⟩
  rw [equalD hn hp hp' hd hd' hL hL'] at he
  exact ⟨he, (Below.refl _ w).grown hg (Nat.le_refl _) (fun k e => by cases e)⟩
theorem sameH_any (b b' : Nat) (l l' : List Int) (w : World) (h : HolF w b l) (h' : HolF w b' l') (hn : l.length = l'.length) :
    Calls Try.prog 27 #[.map (some b), .map (some b')] w fun e w' => e = .returned (.bool (decide (l = l'))) ∧ Adds w w' := by
  have HC := Lib.hid (equalU_any b b' l l' w h h' hn)
  generalize decide (l = l') = r at *
  clear h h' hn
  go_enter Try.func27, Try.ntmps27
  go_wp2_with (go_at_call 37; refine HC.out.mono ?_; rintro e w1 ⟨rfl, h1⟩; have H1 := Lib.hid h1; clear h1)
  go_ret
  exact ⟨rfl, H1.out⟩
end Go.Proofs.Ytdmbjonbcomphaa
