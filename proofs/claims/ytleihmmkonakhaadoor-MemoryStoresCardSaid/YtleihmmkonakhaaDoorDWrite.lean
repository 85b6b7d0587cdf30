/- Write: its contract. -/
import Derived.StillTailTactics
import Derived.Test.YtleihmmkonakhaaDoorDFold
namespace Go.Proofs.YtleihmmkonakhaaDoor
open Go Go.RowKit

theorem digK_int {k bits many i : Nat} {v : Value} (h : (digK k bits many)[i]? = some v) : ∃ kd z, v = .int kd z := by
  unfold digK at h
  rcases Nat.lt_or_ge i 256 with hi | hi
  · rw [List.getElem?_append_left (by simpa using hi)] at h
    simp only [List.getElem?_map, List.getElem?_range hi, Option.map_some, Option.some.injEq] at h
    exact ⟨_, _, h.symm⟩
  · rw [List.getElem?_append_right (by simpa using hi)] at h
    simp only [List.length_map, List.length_range] at h
    match hj : i - 256, h with
    | 0, h => simp at h; exact ⟨_, _, h.symm⟩
    | 1, h => simp at h; exact ⟨_, _, h.symm⟩
    | m + 2, h => simp at h
theorem digK_u8 {k bits many i : Nat} {z : Int} : (digK k bits many)[i]? ≠ some (.int .u8 z) := by
  intro h
  unfold digK at h
  rcases Nat.lt_or_ge i 256 with hi | hi
  · rw [List.getElem?_append_left (by simpa using hi)] at h
    simp [hi, tabV] at h
  · rw [List.getElem?_append_right (by simpa using hi)] at h
    simp only [List.length_map, List.length_range] at h
    match hj : i - 256, h with
    | 0, h => simp at h
    | 1, h => simp at h
    | m + 2, h => simp at h

/-- Bytes, and lists of them, lie apart from a digest. -/
theorem Bytes.turns {n k bits many b : Nat} {w w' : World} {v : Value} {l : List UInt8} (h : Bytes n w v l) (hB : Blk w b (digK k bits many)) (ht : Turns b w w') : Bytes n w' v l := by
  obtain ⟨ao, cap, rfl, h1, h2, h3⟩ := h
  refine ⟨ao, cap, rfl, h1, h2, fun hl => ?_⟩
  obtain ⟨g, off, e, hgn, hc⟩ := h3 hl
  have hne : g ≠ b := by
    rintro rfl
    have := hc 0 (List.length_pos_iff.2 hl)
    rw [hB.cell] at this
    exact digK_u8 this
  exact ⟨g, off, e, hgn, fun i hi => ht.cell (hc i hi) (fun e => hne (Option.some.inj e))⟩
theorem Lists.turns {n k bits many b : Nat} {w w' : World} {v : Value} {ls : List (List UInt8)} (h : Lists n w v ls) (hB : Blk w b (digK k bits many)) (ht : Turns b w w') : Lists n w' v ls := by
  obtain ⟨ao, cap, rfl, h1, h2, h3⟩ := h
  refine ⟨ao, cap, rfl, h1, h2, fun hl => ?_⟩
  obtain ⟨g, off, e, hc⟩ := h3 hl
  have hne : g ≠ b := by
    rintro rfl
    obtain ⟨u, hu, hb⟩ := hc 0 (List.length_pos_iff.2 hl)
    rw [hB.cell] at hu
    obtain ⟨kd, z, rfl⟩ := digK_int hu
    obtain ⟨_, _, e, _⟩ := hb
    cases e
  refine ⟨g, off, e, fun i hi => ?_⟩
  obtain ⟨u, hu, hb⟩ := hc i hi
  exact ⟨u, ht.cell hu (fun e => hne (Option.some.inj e)), hb.turns hB ht⟩
theorem Lists.below {n : Nat} {w w' : World} {v : Value} {ls : List (List UInt8)} (h : Lists n w v ls) (ha : Adds w w') (hn : n ≤ w.heap.size) : Lists n w' v ls := by
  obtain ⟨ao, cap, rfl, h1, h2, h3⟩ := h
  refine ⟨ao, cap, rfl, h1, h2, fun hl => ?_⟩
  obtain ⟨g, off, e, hc⟩ := h3 hl
  refine ⟨g, off, e, fun i hi => ?_⟩
  obtain ⟨u, hu, hb⟩ := hc i hi
  exact ⟨u, (ha.cell (p := ⟨g, off + i, none⟩) (World.block_lt_of_cell? w _ hu)).trans hu, hb.below (Below.mono ha hn)⟩

def WritePost (b bits many : Nat) (w : World) (e : Ending) (w' : World) : Prop := e = .returned (.int .i64 0) ∧ Blk w' b (digK 256 bits many) ∧ Turns b w w'
theorem flat_take (ls : List (List UInt8)) (k : Nat) (h : k < ls.length) : (ls.take (k + 1)).flatten.length = (ls.take k).flatten.length + (ls.getD k []).length := by
  rw [List.take_succ_eq_append_getElem h, List.flatten_append]
  simp [h]
theorem flat_le (ls : List (List UInt8)) (k : Nat) : (ls.take k).flatten.length ≤ ls.flatten.length := by
  conv => rhs; rw [← List.take_append_drop k ls, List.flatten_append, List.length_append]
  omega

set_option maxRecDepth 100000 in
set_option maxHeartbeats 1000000 in
theorem write_any (b bits many : Nat) (hs : U64 bits) {n : Nat} (v : Value) (ls : List (List UInt8)) (w : World) (hv : Lists n w v ls) (hB : Blk w b (digK 256 bits many)) (hm : many + ls.flatten.length ≤ 9223372036854775807) :
    Calls Tryd.prog 47 #[.pointer (some ⟨b, 0, none⟩), v] w (WritePost b (foldL bits ls) (many + ls.flatten.length) w) := by
  have HN := Lib.hid (isNone_full b bits many w hB)
  have HF := Lib.hid ((foldL_any b bits many bits hs v ls w.drew hv hB).mono (R' := fun e w'' => e = .returned (.int .u64 (foldL bits ls)) ∧ w'' = w.drew) fun _ _ h => ⟨h.1, h.2.symm⟩)
  have HL := Lib.hid hv; clear hv
  have HB := Lib.hid hB; clear hB
  have c0 := (HB.out.cell 256).trans (digK_bits _ _ _)
  have HS := Lib.hid hs; clear hs
  have hfr : w.frozen? ⟨b, 256, none⟩ = false := HB.out.free 256
  go_enter Tryd.func47, Tryd.ntmps47
  go_wp2
  refine wp_scope_fwd 0 rfl ?_
  go_wp2_with (go_at_call 45; refine HN.out.mono ?_; rintro e w' ⟨rfl, rfl⟩)
  go_still_tail 13, (by kernel_rfl)
  still_call HF.out
  repeat still_step
  refine wpStill_nil ?_
  change wpList _ _ _ _ _ w.drew
  have hfr2 : w.drew.frozen? ⟨b, 256, none⟩ = false := hfr
  have c02 : w.drew.cell? ⟨b, 256, none⟩ = some (.int .u64 bits) := c0
  have HBd := Lib.hid (show Blk w.drew b (digK 256 bits many) from HB.out)
  have HTd := Lib.hid (Turns.drew b w)
  have HLd := Lib.hid (HL.out.turns HB.out HTd.out)
  generalize w.drew = w2 at *
  have HB3 := Lib.hid (digK_set_bits 256 bits many (foldL bits ls) ▸ HBd.out.set 256 (.int .u64 (foldL bits ls : Nat)))
  have HT3 := Lib.hid (HTd.out.trans (Turns.setCell b 256 w2 (.int .u64 (foldL bits ls : Nat))))
  have HL3 := Lib.hid (HLd.out.turns HBd.out (Turns.setCell b 256 w2 (.int .u64 (foldL bits ls : Nat))))
  clear c0 hfr
  obtain ⟨bits', hb'⟩ : ∃ y, foldL bits ls = y := ⟨_, rfl⟩
  rw [hb'] at HB3 HT3 HL3 ⊢
  have HB' := Lib.hid hb'; clear hb'
  obtain ⟨ao, cap, rfl, h1, h2, _⟩ := id HL.out
  unfold maxLen at h2
  go_wp2_with fail
  generalize w2.setCell ⟨b, 256, none⟩ (Value.int IntKind.u64 bits') = w3 at *
  go_loopw [6, 24] (fun _ i wr => ∃ k : Nat, k ≤ ls.length ∧ i = .int .i64 k ∧ Blk wr b (digK 256 bits' (many + (ls.take k).flatten.length)) ∧ Turns b w3 wr) (fun _ i _ => ls.length - (intOf i).toNat)
  case atStart => exact ⟨0, Nat.zero_le _, rfl, HB3.out, Turns.refl _ _⟩
  case round =>
    obtain ⟨k, hk, rfl, hBr, hTr⟩ := hrel
    have HBr := Lib.hid hBr; clear hBr
    have HTr := Lib.hid hTr; clear hTr
    have HLr := Lib.hid (HL3.out.turns HB3.out HTr.out)
    by_cases hlt : k < ls.length
    · obtain ⟨ao', cap', e, _, _, h3⟩ := HLr.out
      simp only [Value.slice.injEq, true_and] at e
      obtain ⟨rfl, rfl⟩ := e
      obtain ⟨b1, off, rfl, hc1⟩ := h3 (by rintro rfl; simp at hlt)
      obtain ⟨u, hcell, hu⟩ := hc1 k hlt
      clear hc1 h3
      obtain ⟨ao2, cap2, rfl, h21, h22, _⟩ := hu
      have c7 := (HBr.out.cell 257).trans (digK_many _ _ _)
      have hfr7 : wr.frozen? ⟨b, 257, none⟩ = false := HBr.out.free 257
      have hf1 := flat_take ls k hlt
      have hf2 := flat_le ls (k + 1)
      have HB4 := Lib.hid (digK_set_many 256 bits' (many + (ls.take k).flatten.length) (many + (ls.take (k + 1)).flatten.length) ▸ HBr.out.set 257 (.int .i64 (many + (ls.take (k + 1)).flatten.length : Nat)))
      have HT4 := Lib.hid (HTr.out.trans (Turns.setCell b 257 wr (.int .i64 (many + (ls.take (k + 1)).flatten.length : Nat))))
      have HE := Lib.hid (show ((many + (ls.take k).flatten.length : Nat) : Int) + ((ls.getD k []).length : Int) = ((many + (ls.take (k + 1)).flatten.length : Nat) : Int) by rw [hf1]; omega)
      have hle : many + (ls.take k).flatten.length + (ls.getD k []).length ≤ 9223372036854775807 := by omega
      obtain ⟨m1, hm1⟩ : ∃ y, many + (ls.take k).flatten.length = y := ⟨_, rfl⟩
      obtain ⟨m2, hm2⟩ : ∃ y, many + (ls.take (k + 1)).flatten.length = y := ⟨_, rfl⟩
      obtain ⟨m3, hm3⟩ : ∃ y, (ls.getD k []).length = y := ⟨_, rfl⟩
      rw [hm1] at c7 hle HE
      rw [hm2] at HB4 HT4 HE
      rw [hm3] at HE hle hcell
      clear hf1 hf2 hm1 hm3 h21 h22
      have HM2 := Lib.hid hm2; clear hm2
      go_wp2_with fail
      rw [HE.out]
      go_roundw
      case rel => exact ⟨k + 1, by omega, by go_num, by rw [HM2.out]; exact HB4.out, HT4.out⟩
      case measure => simp [intOf]; omega
    · obtain rfl : k = ls.length := by omega
      go_wp2_with fail
      simp only [Exit.jump]
      go_ret
      refine ⟨rfl, ?_, HT3.out.trans HTr.out⟩
      have hfin := HBr.out
      rw [List.take_length] at hfin
      rw [HB'.out]
      exact hfin
end Go.Proofs.YtleihmmkonakhaaDoor
