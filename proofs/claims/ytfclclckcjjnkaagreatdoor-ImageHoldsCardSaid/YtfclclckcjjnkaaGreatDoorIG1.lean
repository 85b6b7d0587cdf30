/- The document's answers: what an Op names; which may be. Contracts. -/
import Derived.Test.YtfclclckcjjnkaaGreatDoorIR5
import Derived.Test.YtfclclckcjjnkaaGreatDoorIStr
namespace Go.Proofs.YtfclclckcjjnkaaGreatDoor
open Go Go.RowKit Go.Shelf

/-- What an Op names, by letters. -/
def lettN : Nat → List UInt8
  | 1 => [97, 105] | 2 => [97, 98] | 3 => [97, 98, 99, 107] | 4 => [105] | 5 => [97, 105] | 6 => [97, 98] | 7 => [97, 98] | 8 => [97, 98, 110, 102] | 9 => [97] | 10 => [98, 110, 102]
  | 11 => [97] | 12 => [97] | 13 => [97] | 14 => [97] | 15 => [97] | 16 => [97] | 17 => [97, 98] | 18 => [97] | 19 => [] | _ => [45]
theorem lett_cell (w : World) (k : Nat) (h : k < 19) : (w.alloc (.cells #[.string ⟨#[97, 105]⟩, .string ⟨#[97, 98]⟩, .string ⟨#[97, 98, 99, 107]⟩, .string ⟨#[105]⟩, .string ⟨#[97, 105]⟩, .string ⟨#[97, 98]⟩, .string ⟨#[97, 98]⟩, .string ⟨#[97, 98, 110, 102]⟩, .string ⟨#[97]⟩, .string ⟨#[98, 110, 102]⟩, .string ⟨#[97]⟩, .string ⟨#[97]⟩, .string ⟨#[97]⟩, .string ⟨#[97]⟩, .string ⟨#[97]⟩, .string ⟨#[97]⟩, .string ⟨#[97, 98]⟩, .string ⟨#[97]⟩, .string ⟨#[]⟩] 9)).cell? ⟨w.heap.size, k, none⟩ = some (.string (str (lettN (k + 1)))) := by
  rw [cell_of_row _ w.heap.size k _ _ _ (heap_new w _)]
  match k, h with
  | 0, _ | 1, _ | 2, _ | 3, _ | 4, _ | 5, _ | 6, _ | 7, _ | 8, _ | 9, _ | 10, _ | 11, _ | 12, _ | 13, _ | 14, _ | 15, _ | 16, _ | 17, _ | 18, _ => rfl
  | k + 19, h => exact absurd h (by omega)
set_option maxRecDepth 100000 in
set_option maxHeartbeats 4000000 in
theorem refNamesI_any (op : Nat) (h1 : 1 ≤ op) (h2 : op ≤ 19) (w : World) : Calls Tryz.prog 99 #[.int .i64 op] w fun e w' => e = .returned (.string (str (lettN op))) ∧ Adds w w' := by
  obtain ⟨k, rfl⟩ : ∃ k, op = k + 1 := ⟨op - 1, by omega⟩
  obtain ⟨w1, hw1⟩ : ∃ w1, w.alloc (.cells #[.string ⟨#[97, 105]⟩, .string ⟨#[97, 98]⟩, .string ⟨#[97, 98, 99, 107]⟩, .string ⟨#[105]⟩, .string ⟨#[97, 105]⟩, .string ⟨#[97, 98]⟩, .string ⟨#[97, 98]⟩, .string ⟨#[97, 98, 110, 102]⟩, .string ⟨#[97]⟩, .string ⟨#[98, 110, 102]⟩, .string ⟨#[97]⟩, .string ⟨#[97]⟩, .string ⟨#[97]⟩, .string ⟨#[97]⟩, .string ⟨#[97]⟩, .string ⟨#[97]⟩, .string ⟨#[97, 98]⟩, .string ⟨#[97]⟩, .string ⟨#[]⟩] 9) = w1 := ⟨_, rfl⟩
  have c := lett_cell w k (by omega)
  rw [hw1] at c
  have HA := Lib.hid (show Adds w w1 by rw [← hw1]; exact Adds.new _ _)
  obtain ⟨s, hs⟩ : ∃ s, str (lettN (k + 1)) = s := ⟨_, rfl⟩
  rw [hs] at c ⊢
  have e : ((k + 1 : Nat) : Int) - 1 = (k : Int) := by omega
  have l1 : ¬ ((k + 1 : Nat) : Int) < 1 := by omega
  have l2 : ¬ (19 : Int) < ((k + 1 : Nat) : Int) := by omega
  have l3 : (k : Int) < 19 := by omega
  clear h1 h2 hs
  go_enter Tryz.func99, Tryz.ntmps99
  go_wp2
  go_ret
  exact ⟨rfl, HA.out⟩
theorem str_at (l : List UInt8) (j : Nat) (_hj : j < l.length) (h : j < (str l).size) : (str l)[j]'h = l[j] := by
  rfl
theorem has_take {l : List UInt8} {b c : UInt8} {j : Nat} (hj : l[j]? = some b) (h : (l.take j).contains c = false) (hne : b ≠ c) : (l.take (j + 1)).contains c = false := by
  rw [List.take_add_one, hj]
  show (l.take j ++ [b]).contains c = false
  simp only [List.contains_eq_mem, List.mem_append, List.mem_singleton, decide_eq_false_iff_not] at h ⊢
  rintro (h2 | h2)
  · exact h h2
  · exact hne h2.symm
set_option maxRecDepth 100000 in
set_option maxHeartbeats 4000000 in
theorem refIn_any (op : Nat) (h1 : 1 ≤ op) (h2 : op ≤ 19) (c : UInt8) (w : World) : Calls Tryz.prog 124 #[.int .i64 op, .int .u8 c.toNat] w fun e w' => e = .returned (.bool ((lettN op).contains c)) ∧ Adds w w' := by
  have HN := Lib.hid (refNamesI_any op h1 h2 w)
  have hlen : (lettN op).length ≤ 4 := by
    have h : ∀ k : Fin 20, (lettN k.val).length ≤ 4 := by decide
    exact h ⟨op, by omega⟩
  generalize lettN op = l at HN hlen ⊢
  obtain ⟨s, hs⟩ : ∃ s, str l = s := ⟨_, rfl⟩
  rw [hs] at HN
  have hsz : (s.size : Int) = (l.length : Nat) := by rw [← hs, str_size8]
  have HSt := Lib.hid hs
  have HLen := Lib.hid hlen
  clear h1 h2 hs hlen
  go_enter Tryz.func124, Tryz.ntmps124
  go_wp2_with (go_at_call 99; refine HN.out.mono ?_; rintro e w1 ⟨rfl, q⟩; have HA := Lib.hid q; clear q)
  go_loopw [6] (fun i wr => ∃ j : Nat, i = .int .i64 j ∧ j ≤ l.length ∧ wr = w1 ∧ Hid ((l.take j).contains c = false)) (fun i _ => l.length + 1 - (intOf i).toNat)
  case atStart => exact ⟨0, rfl, Nat.zero_le _, rfl, Lib.hid (by simp)⟩
  case round =>
    obtain ⟨j, rfl, hj, rfl, HT⟩ := hrel
    have hj4 : (j : Int) ≤ 4 := by have := HLen.out; omega
    by_cases hlt : j < l.length
    · have hltI : (j : Int) < (l.length : Nat) := by omega
      have hb : ∀ h : j < s.size, s[j]'h = l[j] := fun h => by
        have := HSt.out
        subst this
        exact str_at l j hlt h
      obtain ⟨b, hbb⟩ : ∃ b, l[j] = b := ⟨_, rfl⟩
      rw [hbb] at hb
      have HB := Lib.hid (show l[j]? = some b by rw [← hbb]; exact List.getElem?_eq_getElem hlt)
      have HLt := Lib.hid hlt
      have hj2 : j < s.size := by omega
      have hbx : (s[j]'hj2).toNat = b.toNat := by rw [hb]
      by_cases he : b = c
      · subst he
        have HR := Lib.hid (show l.contains b = true by have := List.mem_of_getElem? HB.out; simpa using this)
        clear hbb hlt hb
        go_wp2
        go_ret
        rw [HR.out]
        exact ⟨rfl, HA.out⟩
      · have hne : ((b.toNat : Int) == (c.toNat : Int)) = false := by
          rw [beq_eq_false_iff_ne]
          intro h
          exact he (UInt8.toNat_inj.1 (by omega))
        have HT2 := Lib.hid (has_take HB.out HT.out he)
        clear hbb hlt hb he
        go_wp2
        go_roundw
        case rel => exact ⟨j + 1, by go_num, HLt.out, (by first | rfl | trivial), HT2⟩
        case measure => simp [intOf]; have := HLt.out; omega
    · have HR := Lib.hid (show l.contains c = false by have := HT.out; rwa [List.take_of_length_le (by omega)] at this)
      have hjn : (j : Int) = (l.length : Nat) := by omega
      clear hlt
      go_wp2
      go_ret
      rw [HR.out]
      exact ⟨rfl, HA.out⟩
set_option maxRecDepth 100000 in
theorem refReg_any (n : Int) (z : Bool) (w : World) : Calls Tryz.prog 145 #[.int .i64 n, .bool z] w fun e w' => e = .returned (.bool (decide (n = 0) || (z && decide (0 ≤ n ∧ n ≤ 15)))) ∧ w = w' := by
  by_cases h0 : n = 0
  · subst h0
    cases z <;> (
      go_enter Tryz.func145, Tryz.ntmps145
      go_wp2
      go_ret
      exact ⟨by simp, rfl⟩)
  · have hz : (n == 0) = false := beq_eq_false_iff_ne.2 h0
    cases z
    · go_enter Tryz.func145, Tryz.ntmps145
      go_wp2
      go_ret
      exact ⟨by simp [h0], rfl⟩
    · by_cases h1 : 0 ≤ n
      · by_cases h2 : n ≤ 15
        · go_enter Tryz.func145, Tryz.ntmps145
          go_wp2
          go_ret
          exact ⟨by simp [h0, h1, h2], rfl⟩
        · go_enter Tryz.func145, Tryz.ntmps145
          go_wp2
          go_ret
          exact ⟨by simp []; omega, rfl⟩
      · go_enter Tryz.func145, Tryz.ntmps145
        go_wp2
        go_ret
        exact ⟨by simp []; omega, rfl⟩
end Go.Proofs.YtfclclckcjjnkaaGreatDoor
