/- Merged: AMem, AF2. -/
import Derived.Test.YthhegcngkpfcoaaGreatY0
import Derived.Test.YthhegcngkpfcoaaGreatRows
import Derived.Test.YthhegcngkpfcoaaGreatY12
import Derived.Shelf.Abstract
namespace Go.Proofs.YthhegcngkpfcoaaGreat
open Go Go.RowKit

theorem adds_cell {w w' : World} (h : Adds w w') {b o : Nat} {v : Value} (hc : w.cell? ⟨b, o, none⟩ = some v) : w'.cell? ⟨b, o, none⟩ = some v :=
  (h.cell (p := ⟨b, o, none⟩) (World.block_lt_of_cell? w _ hc)).trans hc

def cellV (b : UInt32) : Value := .int .u32 (b.toNat : Nat)

/-- v is a slice whose words read l in w; they lie in blocks below n. -/
def Cells32 (n : Nat) (w : World) (v : Value) (l : List UInt32) : Prop :=
  ∃ ao cap, v = .slice ao l.length cap ∧ l.length ≤ cap ∧ cap ≤ maxLen ∧
    (l ≠ [] → ∃ b off, ao = some ⟨b, off, none⟩ ∧ b < n ∧ ∀ i, i < l.length → w.cell? ⟨b, off + i, none⟩ = some (cellV (l.getD i 0)))

theorem Cells32.below {n : Nat} {w w' : World} {v : Value} {l : List UInt32} (h : Cells32 n w v l) (hb : Below n w w') : Cells32 n w' v l := by
  obtain ⟨ao, cap, rfl, h1, h2, h3⟩ := h
  refine ⟨ao, cap, rfl, h1, h2, fun hl => ?_⟩
  obtain ⟨b, off, e, hbn, hc⟩ := h3 hl
  exact ⟨b, off, e, hbn, fun i hi => (hb.cell (p := ⟨b, off + i, none⟩) hbn).trans (hc i hi)⟩
theorem Cells32.mono {n m : Nat} {w : World} {v : Value} {l : List UInt32} (h : Cells32 n w v l) (hm : n ≤ m) : Cells32 m w v l := by
  obtain ⟨ao, cap, rfl, h1, h2, h3⟩ := h
  refine ⟨ao, cap, rfl, h1, h2, fun hl => ?_⟩
  obtain ⟨b, off, e, hbn, hc⟩ := h3 hl
  exact ⟨b, off, e, by omega, hc⟩
/-- The blocks are those that are there. -/
theorem Cells32.here {n : Nat} {w : World} {v : Value} {l : List UInt32} (h : Cells32 n w v l) : Cells32 w.heap.size w v l := by
  obtain ⟨ao, cap, rfl, h1, h2, h3⟩ := h
  refine ⟨ao, cap, rfl, h1, h2, fun hl => ?_⟩
  obtain ⟨b, off, e, hbn, hc⟩ := h3 hl
  exact ⟨b, off, e, World.block_lt_of_cell? w _ (hc 0 (List.length_pos_iff.2 hl)), hc⟩
theorem Cells32.nil {n : Nat} (w : World) : Cells32 n w (.slice none 0 0) [] := ⟨none, 0, rfl, by simp, by simp, fun h => absurd rfl h⟩

theorem Cells32.adds {w w' : World} {v : Value} {l : List UInt32} (h : Cells32 w.heap.size w v l) (ha : Adds w w') : Cells32 w'.heap.size w' v l := (h.below ha).here
theorem cells32_adds {n : Nat} {w w' : World} {v : Value} {l : List UInt32} (h : Cells32 n w v l) (ha : Adds w w') : Cells32 w'.heap.size w' v l := h.here.adds ha

theorem Cells32.len {n : Nat} {w : World} {ao : Option Addr} {len cap : Nat} {l : List UInt32} (h : Cells32 n w (.slice ao len cap) l) : len = l.length ∧ l.length ≤ cap ∧ cap ≤ 9223372036854775807 := by
  obtain ⟨_, _, e, h1, h2, _⟩ := h
  cases e
  exact ⟨rfl, h1, h2⟩

theorem cells32_lit (w : World) (l : List UInt32) (hl : l.length ≤ maxLen) : Cells32 (w.heap.size + 1) (w.alloc (.cells (l.map cellV).toArray 22)) (.slice (some ⟨w.heap.size, 0, none⟩) l.length l.length) l := by
  refine ⟨_, _, rfl, Nat.le_refl _, hl, fun _ => ⟨w.heap.size, 0, rfl, by omega, fun i hi => ?_⟩⟩
  rw [cell_of_row _ w.heap.size (0 + i) _ _ _ (heap_alloc_new w _)]
  simp [hi]
end Go.Proofs.YthhegcngkpfcoaaGreat
namespace Go.Proofs.YthhegcngkpfcoaaGreat
open Go Go.RowKit

theorem divides_any (k a b : Nat) (hk : k ≤ 12) (hb : b < 4294967296) (w : World) :
    Calls Tryz.prog 117 #[pairV a b, .int .i64 k] w fun e w' => e = .returned (.bool (byNone k b)) ∧ Adds w w' := by
  unfold pairV byNone
  by_cases h0 : b = 0
  · subst h0
    by_cases h4 : k = 4
    · subst h4
      go_enter Tryz.func117, Tryz.ntmps117
      go_wp2
      go_ret
      exact ⟨rfl, adds_box _ _⟩
    · by_cases h5 : k = 5
      · subst h5
        go_enter Tryz.func117, Tryz.ntmps117
        go_wp2
        go_ret
        exact ⟨rfl, adds_box _ _⟩
      · have e4 : ((k : Int) == 4) = false := by rw [beq_eq_false_iff_ne]; omega
        have e5 : ((k : Int) == 5) = false := by rw [beq_eq_false_iff_ne]; omega
        go_enter Tryz.func117, Tryz.ntmps117
        go_wp2
        go_ret
        exact ⟨ret_bool (by simp [h4, h5]), adds_box _ _⟩
  · have e0 : ((b : Int) == 0) = false := by rw [beq_eq_false_iff_ne]; omega
    go_enter Tryz.func117, Tryz.ntmps117
    go_wp2
    go_ret
    exact ⟨ret_bool (by simp [h0]), adds_box _ _⟩

theorem enter_kind (k : Nat) (h1 : 1 ≤ k) (h12 : k ≤ 12) (v : Value) (w : World) : (callFunc (recF k) #[v]).run Tryz.prog w = .ok (.enter (recF k) #[v]) w := by
  match k, h1, h12 with
  | 1, _, _ => exact enters_of Tryz.func121 (by kernel_rfl) rfl _ _
  | 2, _, _ => exact enters_of Tryz.func122 (by kernel_rfl) rfl _ _
  | 3, _, _ => exact enters_of Tryz.func123 (by kernel_rfl) rfl _ _
  | 4, _, _ => exact enters_of Tryz.func124 (by kernel_rfl) rfl _ _
  | 5, _, _ => exact enters_of Tryz.func125 (by kernel_rfl) rfl _ _
  | 6, _, _ => exact enters_of Tryz.func126 (by kernel_rfl) rfl _ _
  | 7, _, _ => exact enters_of Tryz.func127 (by kernel_rfl) rfl _ _
  | 8, _, _ => exact enters_of Tryz.func128 (by kernel_rfl) rfl _ _
  | 9, _, _ => exact enters_of Tryz.func129 (by kernel_rfl) rfl _ _
  | 10, _, _ => exact enters_of Tryz.func131 (by kernel_rfl) rfl _ _
  | 11, _, _ => exact enters_of Tryz.func133 (by kernel_rfl) rfl _ _
  | 12, _, _ => exact enters_of Tryz.func135 (by kernel_rfl) rfl _ _

/-- What the closure answers. -/
def takeN (k a b : Nat) : Nat := if byNone k b then 0 else doN k a b
def takeE (k b : Nat) : Int := if byNone k b then 150 else 0
set_option maxRecDepth 100000 in
theorem take_it (k a b : Nat) (h1 : 1 ≤ k) (h12 : k ≤ 12) (ha : a < 4294967296) (hb : b < 4294967296) (b3 b9 : Nat) (w : World) (h3 : w.cell? ⟨b3, 0, none⟩ = some (.int .i64 k)) (h9 : w.cell? ⟨b9, 0, none⟩ = some (.func (.func (recF k)) #[] #[])) :
    Calls Tryz.prog 116 #[.int .u32 a, .int .u32 b, .pointer (some ⟨b3, 0, none⟩), .pointer (some ⟨b9, 0, none⟩)] w
      fun e w' => e = .returned (.tuple #[.int .u32 (takeN k a b : Nat), .int .i64 (takeE k b)]) ∧ Adds w w' := by
  have HD := Lib.hid (fun W => divides_any k a b h12 hb W)
  have A0 := Lib.hid (adds_box w (.cells #[.int .u32 a, .int .u32 b] 159))
  have h3a := adds_cell A0.out h3
  have H9 := Lib.hid (adds_cell A0.out h9)
  have HB0 := Lib.hid (cell_of_row _ w.heap.size 0 _ _ _ (heap_alloc_new w (.cells #[.int .u32 a, .int .u32 b] 159)))
  have HB1 := Lib.hid (cell_of_row _ w.heap.size 1 _ _ _ (heap_alloc_new w (.cells #[.int .u32 a, .int .u32 b] 159)))
  clear h3 h9
  unfold takeN takeE
  cases hz : byNone k b with
  | true =>
    rw [hz] at HD
    go_enter Tryz.func116, Tryz.ntmps116
    go_wp2
    refine wp_scope_fwd 0 rfl ?_
    go_wp2_with (go_at_call 117; refine (HD.out _).mono ?_; rintro e w1 ⟨rfl, a1⟩; have A1 := Lib.hid a1; clear a1)
    go_step3
    refine ⟨rfl, ?_⟩
    go_wp2
    rw [Exit.noGoto_ret]
    go_ret2
    exact ⟨rfl, A0.out.trans A1.out⟩
  | false =>
    rw [hz] at HD
    have hcf := enter_kind k h1 h12
    have HK := Lib.hid (fun W => kindA_any k a b h1 h12 ha hb hz W)
    go_enter Tryz.func116, Tryz.ntmps116
    go_wp2
    refine wp_scope_fwd 0 rfl ?_
    go_wp2_with (go_at_call 117; refine (HD.out _).mono ?_; rintro e w1 ⟨rfl, a1⟩; have c0 := adds_cell a1 HB0.out; have c1 := adds_cell a1 HB1.out; have h9 := adds_cell a1 H9.out; have A1 := Lib.hid a1; clear a1)
    refine (HK.out _).mono ?_
    rintro e w2 ⟨rfl, a2⟩
    have A2 := Lib.hid a2; clear a2
    go_wp2
    simp only [Exit.jump]
    go_ret2
    exact ⟨rfl, A0.out.trans (A1.out.trans A2.out)⟩

/-- What several words come to: the last word, how many were taken, an error. -/
def foldN (k : Nat) : Nat → List UInt32 → Nat × Nat × Int
  | a, [] => (a, 0, 0)
  | a, b :: l => if byNone k b.toNat then (a, 0, 150) else ((foldN k (doN k a b.toNat) l).1, (foldN k (doN k a b.toNat) l).2.1 + 1, (foldN k (doN k a b.toNat) l).2.2)
theorem foldN_at (k so : Nat) (l : List UInt32) (i : Nat) (h : i < l.length) : foldN k so (l.drop i) = if byNone k (l.getD i 0).toNat then (so, 0, 150) else
    ((foldN k (doN k so (l.getD i 0).toNat) (l.drop (i + 1))).1, (foldN k (doN k so (l.getD i 0).toNat) (l.drop (i + 1))).2.1 + 1, (foldN k (doN k so (l.getD i 0).toNat) (l.drop (i + 1))).2.2) := by
  rw [List.drop_eq_getElem_cons h, foldN]
  simp [h]
theorem foldN_end (k so : Nat) (l : List UInt32) (i : Nat) (h : ¬ i < l.length) : foldN k so (l.drop i) = (so, 0, 0) := by
  rw [List.drop_eq_nil_of_le (by omega), foldN]
/-- So far: the word that is left, and how many were taken. -/
def SoFar (k a : Nat) (l : List UInt32) (i so : Nat) : Prop := i ≤ l.length ∧ so < 4294967296 ∧ foldN k a l = ((foldN k so (l.drop i)).1, (foldN k so (l.drop i)).2.1 + i, (foldN k so (l.drop i)).2.2)
theorem SoFar.start (k a : Nat) (l : List UInt32) (ha : a < 4294967296) : SoFar k a l 0 a := ⟨Nat.zero_le _, ha, by simp⟩
theorem SoFar.next {k a : Nat} {l : List UInt32} {i so : Nat} (h : SoFar k a l i so) (hi : i < l.length) (hz : byNone k (l.getD i 0).toNat = false) : SoFar k a l (i + 1) (doN k so (l.getD i 0).toNat) := by
  obtain ⟨_, h2, h3⟩ := h
  refine ⟨hi, doN_lt h2 (l.getD i 0).toNat_lt hz, ?_⟩
  rw [h3, foldN_at k so l i hi, hz]
  simp
  omega
theorem SoFar.refused {k a : Nat} {l : List UInt32} {i so : Nat} (h : SoFar k a l i so) (hi : i < l.length) (hz : byNone k (l.getD i 0).toNat = true) : foldN k a l = (so, i, 150) := by
  rw [h.2.2, foldN_at k so l i hi, hz]
  simp
theorem SoFar.done {k a : Nat} {l : List UInt32} {i so : Nat} (h : SoFar k a l i so) (hi : ¬ i < l.length) : foldN k a l = (so, l.length, 0) := by
  have := h.1
  rw [h.2.2, foldN_end k so l i hi]
  simp
  omega
def FoldPost (r : Nat × Nat × Int) (w : World) (e : Ending) (w' : World) : Prop := e = .returned (.tuple #[.int .u32 r.1, .int .i64 r.2.1, .int .i64 r.2.2]) ∧ Adds w w'

set_option maxRecDepth 100000 in
theorem fold_it (k a : Nat) (h1 : 1 ≤ k) (h12 : k ≤ 12) (ha : a < 4294967296) {n : Nat} (v : Value) (l : List UInt32) (b3 b9 : Nat) (w : World) (hv : Cells32 n w v l) (h3 : w.cell? ⟨b3, 0, none⟩ = some (.int .i64 k)) (h9 : w.cell? ⟨b9, 0, none⟩ = some (.func (.func (recF k)) #[] #[])) :
    Calls Tryz.prog 115 #[.int .u32 a, v, .func (.func 116) #[] #[.pointer (some ⟨b3, 0, none⟩), .pointer (some ⟨b9, 0, none⟩)]] w (FoldPost (foldN k a l) w) := by
  have HT := Lib.hid (fun a b ha hb W (h : Adds w W) => take_it k a b h1 h12 ha hb b3 b9 W (adds_cell h h3) (adds_cell h h9))
  have HV := Lib.hid hv; clear hv h3 h9
  obtain ⟨ao, cap, rfl, hc1, hc2, _⟩ := id HV.out
  have HS := Lib.hid (SoFar.start k a l ha); clear ha
  unfold maxLen at hc2
  go_enter Tryz.func115, Tryz.ntmps115
  go_wp2_with fail
  go_loopw [0, 9, 10, 11, 12, 15] (fun s _ _ _ _ i wr => ∃ m so : Nat, s = .int .u32 so ∧ i = .int .i64 m ∧ SoFar k a l m so ∧ Adds w wr) (fun _ _ _ _ _ i _ => l.length - (intOf i).toNat)
  case atStart => exact ⟨0, a, rfl, rfl, HS.out, Adds.refl _⟩
  case round =>
    obtain ⟨m, so, rfl, rfl, hso, har⟩ := hrel
    have HSO := Lib.hid hso
    have HA := Lib.hid har
    have hso32 := hso.2.1
    clear hso har
    by_cases hlt : m < l.length
    · obtain ⟨_, _, e, _, _, hh3⟩ := cells32_adds HV.out HA.out
      cases e
      obtain ⟨b1, off, rfl, _, hcs⟩ := hh3 (by rintro rfl; simp at hlt)
      have hcell := hcs m hlt
      unfold cellV at hcell
      clear hcs hh3
      have HN := Lib.hid (fun hz => HSO.out.next hlt hz)
      have HR := Lib.hid (fun hz => HSO.out.refused hlt hz)
      have hx32 := (l.getD m 0).toNat_lt
      obtain ⟨x, hx⟩ : ∃ x, (l.getD m 0).toNat = x := ⟨_, rfl⟩
      rw [hx] at HN HR hcell hx32
      clear hx
      have HC := Lib.hid (HT.out so x hso32 hx32 wr HA.out)
      unfold takeN takeE at HC
      cases hz : byNone k x with
      | true =>
        rw [hz] at HC
        go_wp2_with (go_at_call 116; refine HC.out.mono ?_; rintro e w2 ⟨rfl, a2⟩; have A2 := Lib.hid a2; clear a2)
        go_ret3
        exact ⟨by rw [HR.out hz]; rfl, HA.out.trans A2.out⟩
      | false =>
        rw [hz] at HC
        go_wp2_with (go_at_call 116; refine HC.out.mono ?_; rintro e w2 ⟨rfl, a2⟩; have A2 := Lib.hid a2; clear a2)
        go_roundw
        case rel => exact ⟨m + 1, doN k so x, rfl, by go_num, HN.out hz, HA.out.trans A2.out⟩
        case measure => simp [intOf]; omega
    · have HD := Lib.hid (HSO.out.done hlt)
      go_wp2_with fail
      go_ret3
      exact ⟨by rw [HD.out]; rfl, HA.out⟩

end Go.Proofs.YthhegcngkpfcoaaGreat
