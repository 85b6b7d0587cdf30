/- The law DigestHolds, walked. -/
import Derived.Test.YtbhggjgghngeeaaDoorDWorks
import Derived.Test.YtbhggjgghngeeaaDoorW7
namespace Go.Proofs.YtbhggjgghngeeaaDoor
open Go Go.RowKit

theorem byteV_map_set (l : List UInt8) (i : Nat) (b : UInt8) : (l.map byteV).set i (byteV b) = (l.set i b).map byteV := by
  rw [List.map_set]
/-- A byte of an own row is written. -/
theorem OwnB.set {w : World} {base g cap n : Nat} {l : List UInt8} (h : OwnB w base (.slice (some ⟨g, 0, none⟩) n cap) l) (i : Nat) (b : UInt8) :
    OwnB (w.setCell ⟨g, i, none⟩ (byteV b)) base (.slice (some ⟨g, 0, none⟩) n cap) (l.set i b) := by
  refine ⟨by simp, .inr ?_⟩
  rcases h.2 with ⟨e, _⟩ | ⟨g', cap', cur, e, hb, hg, hn, hm, hs, ht⟩
  · cases e
  · simp only [Value.slice.injEq, Option.some.injEq, Addr.mk.injEq, and_true] at e
    obtain ⟨rfl, hnl, rfl⟩ := e
    refine ⟨g, cap, cur.setIfInBounds i (byteV b), by rw [List.length_set, hnl], hb, ?_, by rw [List.length_set]; exact hn, hm, by simpa using hs, ?_⟩
    · simp only [World.setCell, Array.getElem?_modify, hg]
      simp
    · rw [List.length_set, ← byteV_map_set, ← ht, Array.toList_setIfInBounds, List.take_set]
theorem own_cell {w : World} {base g cap n : Nat} {l : List UInt8} (h : OwnB w base (.slice (some ⟨g, 0, none⟩) n cap) l) (i : Nat) (hi : i < l.length) : w.cell? ⟨g, i, none⟩ = some (.int .u8 (l.getD i 0).toNat) := by
  obtain ⟨ao, cap', e, h1, h2, h3⟩ := h.bytes
  simp only [Value.slice.injEq] at e
  obtain ⟨rfl, rfl, rfl⟩ := e
  obtain ⟨b, off, e, _, hc⟩ := h3 (by rintro rfl; simp at hi)
  simp only [Option.some.injEq, Addr.mk.injEq] at e
  obtain ⟨rfl, rfl, _⟩ := e
  have := hc i hi
  rwa [Nat.zero_add] at this
theorem own_free {w : World} {base g cap n : Nat} {l : List UInt8} (h : OwnB w base (.slice (some ⟨g, 0, none⟩) n cap) l) (i : Nat) : w.frozen? ⟨g, i, none⟩ = false := by
  rcases h.2 with ⟨e, _⟩ | ⟨g', cap', cur, e, hb, hg, _⟩
  · cases e
  · simp only [Value.slice.injEq, Option.some.injEq, Addr.mk.injEq, and_true] at e
    obtain ⟨rfl, _, _⟩ := e
    simp [World.frozen?, hg]
theorem xor_byte (x y : UInt8) : bits .xor .u8 (x.toNat : Int) (y.toNat : Int) = ((x ^^^ y).toNat : Int) := by
  rw [u8_xor_nat _ _ x.toNat_lt y.toNat_lt, UInt8.toNat_xor]
theorem xor_ne {x y : UInt8} (h : y ≠ 0) : x ^^^ y ≠ x := by
  intro e
  have h1 : x ^^^ (x ^^^ y) = x ^^^ x := by rw [e]
  rw [← UInt8.xor_assoc, UInt8.xor_self, UInt8.zero_xor] at h1
  exact h h1

set_option maxRecDepth 100000 in
set_option maxHeartbeats 4000000 in
theorem law_dholds {nb : Nat} (v : Value) (l : List UInt8) (x : Int) (y : UInt8) (w : World) (hv : Bytes nb w v l) (hw : Widths w) :
    Calls Tryd.prog 8 #[v, .int .i64 x, .int .u8 y.toNat] w (TrueAdds w) := by
  obtain ⟨ao, cap, rfl, h1, h2, h3⟩ := id hv
  have HV := Lib.hid hv; clear hv h3
  have HW := Lib.hid hw; clear hw
  unfold maxLen at h2
  have HK := Lib.hid (works2_any w HW.out)
  by_cases hlen : 400 < l.length
  · go_enter Tryd.func8, Tryd.ntmps8
    go_wp2_with (go_at_call 12; refine HK.out.mono ?_; rintro e w1 ⟨rfl, a1⟩; have A1 := Lib.hid a1; clear a1)
    go_ret
    exact ⟨rfl, A1.out⟩
  by_cases hx0 : x < 0
  · go_enter Tryd.func8, Tryd.ntmps8
    go_wp2_with (go_at_call 12; refine HK.out.mono ?_; rintro e w1 ⟨rfl, a1⟩; have A1 := Lib.hid a1; clear a1)
    go_ret
    exact ⟨rfl, A1.out⟩
  obtain ⟨i, rfl⟩ : ∃ i : Nat, x = i := ⟨x.toNat, by omega⟩
  by_cases hxl : l.length ≤ i
  · have hxi : (l.length : Int) ≤ i := by omega
    go_enter Tryd.func8, Tryd.ntmps8
    go_wp2_with (go_at_call 12; refine HK.out.mono ?_; rintro e w1 ⟨rfl, a1⟩; have A1 := Lib.hid a1; clear a1)
    go_ret
    exact ⟨rfl, A1.out⟩
  by_cases hy : y = 0
  · subst hy
    go_enter Tryd.func8, Tryd.ntmps8
    go_wp2_with (go_at_call 12; refine HK.out.mono ?_; rintro e w1 ⟨rfl, a1⟩; have A1 := Lib.hid a1; clear a1)
    go_ret
    exact ⟨rfl, A1.out⟩
  have hil : i < l.length := by omega
  have hyz : ((y.toNat : Int) == 0) = false := by
    rw [beq_eq_false_iff_ne]
    intro e
    exact hy (UInt8.toNat.inj (show y.toNat = 0 by omega))
  have HY := Lib.hid (xor_ne (x := l.getD i 0) hy)
  clear hy HK
  have HNE := Lib.hid (show l ≠ [] from by rintro rfl; simp at hil)
  have HE := Lib.hid (own_empty w)
  have BA := Lib.hid (below_alloc w (.cells #[] 5))
  go_enter Tryd.func8, Tryd.ntmps8
  go_wp2_with (at_builtin; refine wp_append_bytes rfl (.tmp 26) (.tmp 27) rfl w.heap.size _ [] rfl (by exact HE.out) _ l _ rfl (by exact HV.out.here.below BA.out) (by simp; omega) (by simp) ?_; intro v5 w5 o5 b5; rw [List.nil_append] at o5; obtain ⟨g5, cap5, rfl, hg5, _⟩ := OwnB.form o5 HNE.out; have O5 := Lib.hid o5; clear o5; have B5 := Lib.hid (BA.out.trans b5); clear b5; obtain ⟨xo, hxo⟩ : ∃ xo, l.getD i 0 = xo := ⟨_, rfl⟩; have hc := own_cell O5.out i hil; rw [hxo] at hc; have hfr := own_free O5.out i; have hxy := xor_byte xo y; have HXO := Lib.hid hxo; clear hxo; obtain ⟨z, hz⟩ : ∃ z, xo ^^^ y = z := ⟨_, rfl⟩; rw [hz] at hxy; have HZ := Lib.hid hz; clear hz)
  have O6 := Lib.hid (O5.out.set i z)
  have B6 := Lib.hid (B5.out.setCell (p := ⟨g5, i, none⟩) hg5 (byteV z))
  have HL := lists_1 (w5.setCell ⟨g5, i, none⟩ (byteV z)) _ l (by have := B6.out.size; exact this) (HV.out.here.below B6.out)
  rw [World.size_setCell] at HL
  have hs6 : w.heap.size ≤ w5.heap.size := B5.out.size
  refine (of_any _ _ _ HL (by rw [World.size_alloc, World.size_setCell]; omega) (by simp; omega)).mono ?_
  have HFL := Lib.hid (show ([l] : List (List UInt8)).flatten = l by simp)
  rw [HFL.out]
  clear HL
  rintro e w7 ⟨rfl, a7⟩
  have A7 := Lib.hid ((adds_new _ _).trans a7); clear a7
  have O7 := Lib.hid (O6.out.adds A7.out)
  have B7 := Lib.hid (B6.out.trans (Below.mono A7.out (by rw [World.size_setCell]; omega)))
  have HLS := Lib.hid (show (l.set i z).length = l.length from List.length_set)
  have HL := lists_1 w7 _ (l.set i z) (Nat.le_refl _) O7.out.bytes
  have HNQ := Lib.hid (sumS_ne l i hil z (by rw [← HZ.out, ← HXO.out]; exact HY.out))
  obtain ⟨l2, hl2⟩ : ∃ l2, l.set i z = l2 := ⟨_, rfl⟩
  rw [hl2] at HL HLS HNQ
  have hlen2 : l2.length ≤ 400 := by rw [HLS.out]; omega
  have HL2 := Lib.hid HL; clear HL hl2
  go_wp2_with fail
  refine (of_any _ _ _ HL2.out (by simp) (by simp; omega)).mono ?_
  have HFL2 := Lib.hid (show ([l2] : List (List UInt8)).flatten = l2 by simp)
  rw [HFL2.out]
  rintro e w8 ⟨rfl, a8⟩
  have A8 := Lib.hid ((adds_new _ _).trans a8); clear a8
  have B8 := Lib.hid (B7.out.trans (Below.mono A8.out B7.out.size))
  have hnq : (((sumS l : Nat) : Int) != ((sumS l2 : Nat) : Int)) = true := by
    rw [bne_iff_ne]
    intro e
    exact HNQ.out (Int.ofNat.inj e)
  obtain ⟨s1, hs1⟩ : ∃ s1, sumS l = s1 := ⟨_, rfl⟩
  obtain ⟨s2, hs2⟩ : ∃ s2, sumS l2 = s2 := ⟨_, rfl⟩
  rw [hs1, hs2] at hnq
  rw [hs1, hs2]
  clear hs1 hs2
  have HK := Lib.hid (works2_any w8 (HW.out.below B8.out))
  go_wp2_with (go_at_call 12; refine HK.out.mono ?_; rintro e w9 ⟨rfl, a9⟩; have A9 := Lib.hid a9; clear a9)
  go_ret
  exact ⟨rfl, B8.out.trans (Below.mono A9.out B8.out.size)⟩
end Go.Proofs.YtbhggjgghngeeaaDoor
