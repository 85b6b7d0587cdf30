/- Cells in memory; Load and Store of a memory: their contracts. -/
import Derived.Test.YtleihmmkonakhaaDoorMF2
import Derived.Deep.RegionLaw
import Derived.StillTailTactics
namespace Go.Proofs.YtleihmmkonakhaaDoor
open Go Go.RowKit Go.Maps

/-- A post whose other exits are none. -/
theorem wp_calmM {P : Program} {c : Code} {Q : Exit → Act → World → Prop} {a : Act} {w : World} (h : c.wp P (Exit.then (Q .normal) (fun _ _ _ => False)) a w) : c.wp P Q a w :=
  Code.wp_mono (Q := Exit.then (Q .normal) (fun _ _ _ => False)) (fun e _ _ hq => by cases e <;> first | exact hq | exact hq.elim) h

def u32V (n : Nat) : Value := .int .u32 ((n : Nat) : Int)
/-- v is a slice of cells that reads l; its block is one of B. -/
def CellsW (B : Nat → Prop) (w : World) (v : Value) (l : List (Nat × Nat)) : Prop :=
  ∃ ao cap, v = .slice ao l.length cap ∧ l.length ≤ cap ∧ cap ≤ maxLen ∧
    (l ≠ [] → ∃ g off, ao = some ⟨g, off, none⟩ ∧ B g ∧ ∀ i, i < l.length → w.cell? ⟨g, off + i * 2, none⟩ = some (u32V (l.getD i (0, 0)).1) ∧ w.cell? ⟨g, off + i * 2 + 1, none⟩ = some (u32V (l.getD i (0, 0)).2))
theorem CellsW.mono {B B' : Nat → Prop} {w : World} {v : Value} {l : List (Nat × Nat)} (h : CellsW B w v l) (hb : ∀ g, g < w.heap.size → B g → B' g) : CellsW B' w v l := by
  obtain ⟨ao, cap, h1, h2, h3, h4⟩ := h
  refine ⟨ao, cap, h1, h2, h3, fun hl => ?_⟩
  obtain ⟨g, off, e, hg, hc⟩ := h4 hl
  exact ⟨g, off, e, hb g (World.block_lt_of_cell? w _ (hc 0 (List.length_pos_iff.2 hl)).1) hg, hc⟩
theorem CellsW.frm {B M : Nat → Prop} {w w' : World} {v : Value} {l : List (Nat × Nat)} (h : CellsW B w v l) (hf : Frm M w w') (hb : ∀ g, B g → ¬ M g) : CellsW B w' v l := by
  obtain ⟨ao, cap, h1, h2, h3, h4⟩ := h
  refine ⟨ao, cap, h1, h2, h3, fun hl => ?_⟩
  obtain ⟨g, off, e, hg, hc⟩ := h4 hl
  refine ⟨g, off, e, hg, fun i hi => ?_⟩
  have hlt := World.block_lt_of_cell? w _ (hc i hi).1
  have hbl := hf.block g hlt (hb g hg)
  unfold World.cell? at hc ⊢
  simp only at hc ⊢
  rw [hbl]
  exact hc i hi
theorem CellsW.nil (B : Nat → Prop) (w : World) : CellsW B w (.slice none 0 0) [] := ⟨none, 0, rfl, by simp, by simp, fun h => absurd rfl h⟩

theorem load_any (b a : Nat) (S : Nat → Nat) (L : List (Nat × Nat)) (w : World) (ha : a < 4294967296) (hM : MemL w b S L) :
    Calls Tryd.prog 39 #[.map (some b), .int .u32 ((a : Nat) : Int)] w fun e w' => e = .returned (.int .u32 ((S a : Nat) : Int)) ∧ w = w' := by
  have HPl := Lib.hid (place_any a ha)
  have hq : a % 4096 < 4096 := by omega
  by_cases hk : a / 4096 ∈ L.map (·.1)
  · obtain ⟨⟨p, c⟩, hm, e⟩ := List.mem_map.1 hk
    simp only at e
    subst e
    have hlook := hM.map.look_yes hm
    have c0 := ((hM.page _ hm).2.1).cell (a % 4096) hq
    have e0 : pgW S (a / 4096) (a % 4096) = S a := by unfold pgW; rw [show a / 4096 * 4096 + a % 4096 = a by omega]
    simp only at c0
    rw [e0] at c0
    unfold ptrV at hlook
    obtain ⟨p, hp⟩ : ∃ p, a / 4096 = p := ⟨_, rfl⟩
    obtain ⟨q, hq'⟩ : ∃ q, a % 4096 = q := ⟨_, rfl⟩
    obtain ⟨s, hs⟩ : ∃ s, S a = s := ⟨_, rfl⟩
    rw [hp, hq'] at HPl
    rw [hp] at hlook
    rw [hq'] at c0 hq
    rw [hs] at c0 ⊢
    clear e0 hp hq' hs hm hk hM
    go_enter Tryd.func39, Tryd.ntmps39
    go_wp2_with (go_at_call 42; refine (HPl.out _).mono ?_; rintro e w1 ⟨rfl, rfl⟩)
    go_ret
    exact ⟨rfl, rfl⟩
  · have hlook := hM.map.look_no (p := a / 4096) (by omega) hk
    have e0 : S a = 0 := by
      have := hM.all (a / 4096) (by omega) hk (a % 4096) hq
      unfold pgW at this
      rwa [show a / 4096 * 4096 + a % 4096 = a by omega] at this
    rw [e0]
    obtain ⟨p, hp⟩ : ∃ p, a / 4096 = p := ⟨_, rfl⟩
    obtain ⟨q, hq'⟩ : ∃ q, a % 4096 = q := ⟨_, rfl⟩
    rw [hp, hq'] at HPl
    rw [hp] at hlook
    clear e0 hp hq' hk hM hq
    go_enter Tryd.func39, Tryd.ntmps39
    go_wp2_with (go_at_call 42; refine (HPl.out _).mono ?_; rintro e w1 ⟨rfl, rfl⟩)
    go_ret
    exact ⟨rfl, rfl⟩

theorem loadM_any (bm b a : Nat) (v : Value) (S : Nat → Nat) (L : List (Nat × Nat)) (w : World) (ha : a < 4294967296) (hM : MemP w v S bm b L) :
    Calls Tryd.prog 22 #[v, .int .u32 ((a : Nat) : Int)] w fun e w' => e = .returned (.int .u32 ((S a : Nat) : Int)) ∧ w = w' := by
  obtain rfl := hM.ptr
  have c0 := hM.c0
  have HN := Lib.hid (isNoneM_full bm b w c0)
  have HL := Lib.hid (load_any b a S L w ha hM.mem)
  clear hM
  go_enter Tryd.func22, Tryd.ntmps22
  go_wp2_with (first
    | (go_at_call 26; refine HN.out.mono ?_; rintro e w1 ⟨rfl, rfl⟩)
    | (go_at_call 39; refine HL.out.mono ?_; rintro e w1 ⟨rfl, rfl⟩))
  go_ret
  exact ⟨rfl, rfl⟩

/-- No memory: nil, or one that no call made. -/
def NoMem (w : World) (v : Value) : Prop := v = .pointer none ∨ ∃ bm, v = .pointer (some ⟨bm, 0, none⟩) ∧ w.cell? ⟨bm, 0, none⟩ = some (.map none)
theorem NoMem.adds {w w' : World} {v : Value} (h : NoMem w v) (ha : Adds w w') : NoMem w' v := by
  rcases h with h | ⟨b, h, k⟩
  · exact .inl h
  · exact .inr ⟨b, h, (ha.cell (p := ⟨b, 0, none⟩) (World.block_lt_of_cell? w _ k)).trans k⟩
theorem isNoneM_no (v : Value) (w : World) (h : NoMem w v) :
    Calls Tryd.prog 26 #[v] w fun e w' => e = .returned (.bool true) ∧ w = w' := by
  rcases h with rfl | ⟨b, rfl, k⟩
  · exact isNoneM_nil w
  · exact isNoneM_zero b w k
theorem loadM_no (a : Nat) (v : Value) (w : World) (h : NoMem w v) :
    Calls Tryd.prog 22 #[v, .int .u32 ((a : Nat) : Int)] w fun e w' => e = .returned (.int .u32 0) ∧ w = w' := by
  have HN := Lib.hid (isNoneM_no v w h)
  clear h
  go_enter Tryd.func22, Tryd.ntmps22
  go_wp2_with (go_at_call 26; refine HN.out.mono ?_; rintro e w1 ⟨rfl, rfl⟩)
  go_ret
  exact ⟨rfl, rfl⟩
theorem storeM_no (v l : Value) (w : World) (h : NoMem w v) :
    Calls Tryd.prog 12 #[v, l] w fun e w' => e = .returned (.int .i64 1) ∧ w = w' := by
  have HN := Lib.hid (isNoneM_no v w h)
  clear h
  go_enter Tryd.func12, Tryd.ntmps12
  go_wp2_with fail
  refine wp_scope_fwd 0 rfl ?_
  go_wp2_with (go_at_call 26; refine HN.out.mono ?_; rintro e w1 ⟨rfl, rfl⟩)
  go_step3
  refine ⟨rfl, ?_⟩
  go_wp2
  rw [Exit.noGoto_ret]
  go_ret
  exact ⟨rfl, rfl⟩

def storeAll (S : Nat → Nat) (l : List (Nat × Nat)) : Nat → Nat := l.foldl (fun S x => setW S x.1 x.2) S
theorem storeAll_take (S : Nat → Nat) (l : List (Nat × Nat)) (k : Nat) (h : k < l.length) : storeAll S (l.take (k + 1)) = setW (storeAll S (l.take k)) (l.getD k (0, 0)).1 (l.getD k (0, 0)).2 := by
  have e : l.take (k + 1) = l.take k ++ [l[k]] := by rw [List.take_add_one, List.getElem?_eq_getElem h]; rfl
  unfold storeAll
  rw [e, List.foldl_append]
  simp [List.getD_eq_getElem?_getD, h]
def StoreMPost (v : Value) (bm b : Nat) (S : Nat → Nat) (L : List (Nat × Nat)) (w : World) (e : Ending) (w' : World) : Prop :=
  e = .returned (.int .i64 0) ∧ ∃ L', MemP w' v S bm b L' ∧ Frm (foot b L) w w' ∧ ∀ k, foot b L' k → foot b L k ∨ w.heap.size ≤ k
def cellsOk (l : List (Nat × Nat)) : Prop := ∀ x ∈ l, x.1 < 4294967296 ∧ x.2 < 4294967296
theorem cellsOk.at {l : List (Nat × Nat)} (h : cellsOk l) (k : Nat) : (l.getD k (0, 0)).1 < 4294967296 ∧ (l.getD k (0, 0)).2 < 4294967296 := by
  rw [List.getD_eq_getElem?_getD]
  cases e : l[k]? with
  | none => simp
  | some x => exact h x (List.mem_of_getElem? e)

set_option maxRecDepth 100000 in
set_option maxHeartbeats 2000000 in
theorem storeM_any (bm b : Nat) (v lv : Value) (l : List (Nat × Nat)) (S : Nat → Nat) (L : List (Nat × Nat)) (w : World) (hM : MemP w v S bm b L) (hl : CellsW (fun g => ¬ footP bm b L g) w lv l) (hok : cellsOk l) :
    Calls Tryd.prog 12 #[v, lv] w (StoreMPost v bm b (storeAll S l) L w) := by
  obtain rfl := hM.ptr
  have c0 := hM.c0
  have HN := Lib.hid (isNoneM_full bm b w c0)
  have HM := Lib.hid hM; clear hM
  have HL := Lib.hid hl
  have HOK := Lib.hid hok; clear hok
  obtain ⟨ao, cap, rfl, h1, h2, _⟩ := hl
  unfold maxLen at h2
  go_enter Tryd.func12, Tryd.ntmps12
  go_wp2_with fail
  refine wp_scope_fwd 0 rfl ?_
  go_wp2_with (go_at_call 26; refine HN.out.mono ?_; rintro e w1 ⟨rfl, rfl⟩)
  go_loopw [11] (fun i wr => ∃ (k : Nat) (Lk : List (Nat × Nat)), k ≤ l.length ∧ i = .int .i64 k ∧ MemP wr (.pointer (some ⟨bm, 0, none⟩)) (storeAll S (l.take k)) bm b Lk ∧ Frm (foot b L) w wr ∧ ∀ j, foot b Lk j → foot b L j ∨ w.heap.size ≤ j) (fun i _ => l.length - (intOf i).toNat)
  case atStart => exact ⟨0, L, Nat.zero_le _, rfl, HM.out, Frm.refl _ _, fun _ h => .inl h⟩
  case round =>
    obtain ⟨k, Lk, hk, rfl, hMr, hFr, hNr⟩ := hrel
    have HMr := Lib.hid hMr; have HFr := Lib.hid hFr; have HNr := Lib.hid hNr
    clear hMr hFr hNr
    by_cases hlt : k < l.length
    · obtain ⟨ao', cap', e, _, _, h3⟩ := (HL.out.frm HFr.out (fun g hg hm => hg (.inr hm)))
      simp only [Value.slice.injEq, true_and] at e
      obtain ⟨rfl, rfl⟩ := e
      obtain ⟨g, off, rfl, hg, hc⟩ := h3 (by rintro rfl; simp at hlt)
      obtain ⟨k0, k1⟩ := hc k hlt
      clear hc h3
      have hx := HOK.out.at k
      have HS := Lib.hid (storeAll_take S l k hlt)
      obtain ⟨x, hxe⟩ : ∃ x, l.getD k (0, 0) = x := ⟨_, rfl⟩
      rw [hxe] at k0 k1 hx HS
      clear hxe
      obtain ⟨xa, xv⟩ := x
      have HXA := Lib.hid hx.1; have HXV := Lib.hid hx.2
      simp only [u32V] at k0 k1 HS HXA HXV
      have cm := HMr.out.c0
      obtain ⟨w2, hw2⟩ : ∃ w2, wr.alloc (.cells #[.int .u32 ((xa : Nat) : Int), .int .u32 ((xv : Nat) : Int)] 31) = w2 := ⟨_, rfl⟩
      have HA2 := Lib.hid (show Adds wr w2 by rw [← hw2]; exact (Below.refl _ _).alloc (Nat.le_refl _) _)
      have HM2 := Lib.hid (HMr.out.adds HA2.out)
      have HSt := Lib.hid (store_any b xa xv _ Lk w2.drew HXA.out HXV.out (HM2.out.mem.same (fun _ _ => rfl)))
      have HW2 := Lib.hid hw2
      clear hx
      have k0' : w2.cell? ⟨wr.heap.size, 0, none⟩ = some (.int .u32 ((xa : Nat) : Int)) := by rw [← hw2]; simp
      have k1' : w2.cell? ⟨wr.heap.size, 1, none⟩ = some (.int .u32 ((xv : Nat) : Int)) := by rw [← hw2]; simp
      have cm2 := HM2.out.c0
      have HLT := Lib.hid hlt
      have HK := Lib.hid hk
      clear hw2
      go_wp2_with fail
      rw [HW2.out]
      have hltI : (k : Int) < l.length := by omega
      clear hlt hk cm k0 k1 hg HW2
      generalize wr.heap.size = sz at k0' k1' ⊢
      refine wp_calmM ?_
      go_region_with (go_at_call 27; refine HSt.out.mono ?_; rintro e w3 ⟨rfl, L3, m3, f3, n3⟩; have M3 := Lib.hid m3; have F3 := Lib.hid f3; have N3 := Lib.hid n3; clear m3 f3 n3)
      all_goals
        simp only [Exit.then]
        go_simp
        go_wp2_with fail
        go_roundw
        case rel => exact ⟨k + 1, L3, HLT.out, rfl, ⟨rfl, (((Frm.drew _ _).trans F3.out).block bm HM2.out.lt HM2.out.ne).trans HM2.out.cell, by rw [HS.out]; exact M3.out⟩, ((HFr.out.trans (Frm.of_adds _ HA2.out)).then ((Frm.drew _ _).trans F3.out) (fun i h => HNr.out i h)), fun j hj => (N3.out j hj).elim (fun h => HNr.out j h) (fun h => .inr (Nat.le_trans HFr.out.size (Nat.le_trans HA2.out.size h)))⟩
        case measure => simp [intOf]; have := HLT.out; omega
    · obtain rfl : k = l.length := by omega
      go_wp2_with fail
      simp only [Exit.jump]
      go_ret
      have hfin := HMr.out
      rw [List.take_length] at hfin
      exact ⟨rfl, _, hfin, HFr.out, HNr.out⟩
end Go.Proofs.YtleihmmkonakhaaDoor
