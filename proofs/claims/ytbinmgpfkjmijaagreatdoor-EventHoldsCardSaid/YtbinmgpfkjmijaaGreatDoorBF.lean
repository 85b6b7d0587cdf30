/- Merged: W7, W8. -/
import Derived.Test.YtbinmgpfkjmijaaGreatDoorBA
import Derived.Test.YtbinmgpfkjmijaaGreatDoorBB
namespace Go.Proofs.YtbinmgpfkjmijaaGreatDoor
open Go.RowKit

theorem number_fin {w wr w1 : World} {v : Value} {pre : List UInt8} {m n : Nat} (hp : pre ++ numB m = numB n) (hm : m < 128) (ho : OwnB w1 w.heap.size v (pre ++ [UInt8.ofNat m])) (h1 : Below w.heap.size w wr) (h2 : Below w.heap.size wr w1) :
    GivesB (numB n) (fun v => v) w (.returned v) w1 := by
  rw [← hp, numB_lt hm]
  exact ⟨v, rfl, ho, h1.trans h2⟩
theorem number_step {pre : List UInt8} {m n : Nat} (hp : pre ++ numB m = numB n) (hm : ¬ m < 128) : (pre ++ [UInt8.ofNat (m % 128 + 128)]) ++ numB (m / 128) = numB n := by
  rw [← hp, numB_ge hm, List.append_assoc, List.singleton_append]
theorem number_room {pre : List UInt8} {m n : Nat} (hp : pre ++ numB m = numB n) (hl : (numB n).length ≤ 10) : pre.length + 1 ≤ 10 := by
  have h2 := numB_pos m
  rw [← hp, List.length_append] at hl
  omega

theorem lit1 (w : World) (z : Int) (b : UInt8) (hz : z = b.toNat) : OwnB (w.alloc (.cells #[.int .u8 z] 5)) w.heap.size (.slice (some ⟨w.heap.size, 0, none⟩) 1 1) [b] := by
  subst hz
  exact OwnB.lit w [b] (by simp [maxLen])
theorem below_alloc (w : World) (o : Obj) : Below w.heap.size w (w.alloc o) := (Below.refl _ _).alloc (Nat.le_refl _) _
end Go.Proofs.YtbinmgpfkjmijaaGreatDoor
namespace Go.Proofs.YtbinmgpfkjmijaaGreatDoor
open Go.RowKit

theorem row_fin {w wr : World} {x n : Nat} (hown : wr.ownsRow w.heap.size 5 1 (.slice (some ⟨w.heap.size, 0, none⟩) x x) x (rowK x x n)) : OwnB wr w.heap.size (.slice (some ⟨w.heap.size, 0, none⟩) x x) (leB x n) := by
  rw [rowK_end] at hown
  simpa [OwnB, leB_length] using hown
theorem row_start (w : World) (x n : Nat) (hx : x ≤ 8) : (w.alloc (.cells (madeCells #[.int .u8 0] x) 5)).ownsRow w.heap.size 5 1 (.slice (some ⟨w.heap.size, 0, none⟩) x x) x (rowK x 0 n) := by
  have := World.ownsRow_lit (size := 1) (e := 5) w (madeCells #[.int .u8 0] x) x (Nat.le_refl _) (by unfold maxLen; omega) (by rw [size_madeCells]; omega)
  rw [madeCells_toList] at this
  simpa [rowK, leB] using this

set_option maxRecDepth 100000 in
set_option maxHeartbeats 2000000 in
theorem refFixed_any (n : Nat) (hu : U64 n) (x : Int) (w : World) :
    Calls Tryz.prog 83 #[.int .u64 n, .int .i64 x] w (GivesB (fixB n x) (fun v => .tuple #[v, .int .i64 (fixE n x)]) w) := by
  cases h : isW x with
  | false =>
    have e1 : fixE n x = 2 := by simp [fixE, h]
    have e2 : fixB n x = [] := by simp [fixB, e1]
    rw [e1, e2]; clear e1 e2
    have H := Lib.hid h; clear h
    go_enter Tryz.func83, Tryz.ntmps83
    go_wp2_with (go_at_call 82; refine (right_any _ _).mono ?_; rintro e w' ⟨rfl, rfl⟩; rw [H.out])
    go_ret2
    exact ⟨.slice none 0 0, rfl, OwnB.nil _ _, Adds.refl _⟩
  | true =>
    obtain ⟨k, rfl, hk⟩ := isW_nat h
    have HU := Lib.hid hu; clear hu
    by_cases hn : n < 256 ^ k
    · have e1 : fixE n k = 0 := by simp [fixE, h, hn]
      have e2 : fixB n k = leB k n := by simp [fixB, e1]
      rw [e1, e2]; clear e1 e2
      have H := Lib.hid h; clear h
      have HN := Lib.hid hn; clear hn
      have hmk := run_mk k (by omega)
      go_enter Tryz.func83, Tryz.ntmps83
      go_wp2_with (go_at_call 82; refine (right_any _ _).mono ?_; rintro e w' ⟨rfl, rfl⟩; rw [H.out])
      clear hmk
      go_loopw [0, 7] (fun a i wr => ∃ j : Nat, j ≤ k ∧ i = .int .i64 j ∧ a = .int .u64 ((n / 256 ^ j : Nat) : Int) ∧ wr.ownsRow w.heap.size 5 1 (.slice (some ⟨w.heap.size, 0, none⟩) k k) k (rowK k j n) ∧ Below w.heap.size w wr) (fun _ i _ => k - (intOf i).toNat)
      case atStart => exact ⟨0, Nat.zero_le _, rfl, by simp, row_start w k n hk, below_alloc _ _⟩
      case round =>
        obtain ⟨j, hj, rfl, rfl, hown, hb⟩ := hrel
        by_cases hlt : j < k
        · have hc : wr.cell? ⟨w.heap.size, j, none⟩ = some (.int .u8 0) := by rw [hown.cellAt j (by omega), rowK_at k j n hlt]
          have hf := hown.frozenAt j
          have HO := Lib.hid hown; clear hown
          have hdle : n / 256 ^ j ≤ n := Nat.div_le_self _ _
          obtain ⟨m, hm⟩ : ∃ m, n / 256 ^ j = m := ⟨_, rfl⟩
          rw [hm] at hdle ⊢
          have HM := Lib.hid hm; clear hm
          have hwr : IntKind.u64.wrap ((m : Int) / 256) = (m : Int) / 256 := u64_in (a := m / 256) (by have := HU.out; unfold U64 at this; omega)
          clear hdle
          go_wp2
          go_roundw
          case rel =>
            refine ⟨j + 1, by omega, by go_num, int_eq (by rw [← div256, HM.out]; omega), ?_, hb.setCell (by simp) _⟩
            have := (HO.out.stored j (.int .u8 ((m % 256 : Nat) : Int))).1
            rw [← HM.out, rowK_set k j n hlt, HM.out] at this
            exact this
          case measure => simp [intOf]; omega
        · obtain rfl : j = k := by omega
          have HO := Lib.hid (row_fin hown); clear hown
          have hz : n / 256 ^ j = 0 := Nat.div_eq_of_lt HN.out
          rw [hz]
          clear hz
          go_wp2
          go_ret2
          exact ⟨.slice (some ⟨w.heap.size, 0, none⟩) j j, rfl, HO.out, hb⟩
    · have e1 : fixE n k = 4 := by simp [fixE, h, hn]
      have e2 : fixB n k = [] := by simp [fixB, e1]
      rw [e1, e2]; clear e1 e2
      have H := Lib.hid h; clear h
      have HN := Lib.hid hn; clear hn
      have hmk := run_mk k (by omega)
      go_enter Tryz.func83, Tryz.ntmps83
      go_wp2_with (go_at_call 82; refine (right_any _ _).mono ?_; rintro e w' ⟨rfl, rfl⟩; rw [H.out])
      clear hmk
      go_loopw [0, 7] (fun a i wr => ∃ j : Nat, j ≤ k ∧ i = .int .i64 j ∧ a = .int .u64 ((n / 256 ^ j : Nat) : Int) ∧ wr.ownsRow w.heap.size 5 1 (.slice (some ⟨w.heap.size, 0, none⟩) k k) k (rowK k j n) ∧ Below w.heap.size w wr) (fun _ i _ => k - (intOf i).toNat)
      case atStart => exact ⟨0, Nat.zero_le _, rfl, by simp, row_start w k n hk, below_alloc _ _⟩
      case round =>
        obtain ⟨j, hj, rfl, rfl, hown, hb⟩ := hrel
        by_cases hlt : j < k
        · have hc : wr.cell? ⟨w.heap.size, j, none⟩ = some (.int .u8 0) := by rw [hown.cellAt j (by omega), rowK_at k j n hlt]
          have hf := hown.frozenAt j
          have HO := Lib.hid hown; clear hown
          have hdle : n / 256 ^ j ≤ n := Nat.div_le_self _ _
          obtain ⟨m, hm⟩ : ∃ m, n / 256 ^ j = m := ⟨_, rfl⟩
          rw [hm] at hdle ⊢
          have HM := Lib.hid hm; clear hm
          have hwr : IntKind.u64.wrap ((m : Int) / 256) = (m : Int) / 256 := u64_in (a := m / 256) (by have := HU.out; unfold U64 at this; omega)
          clear hdle
          go_wp2
          go_roundw
          case rel =>
            refine ⟨j + 1, by omega, by go_num, int_eq (by rw [← div256, HM.out]; omega), ?_, hb.setCell (by simp) _⟩
            have := (HO.out.stored j (.int .u8 ((m % 256 : Nat) : Int))).1
            rw [← HM.out, rowK_set k j n hlt, HM.out] at this
            exact this
          case measure => simp [intOf]; omega
        · obtain rfl : j = k := by omega
          have HO := Lib.hid (row_fin hown); clear hown
          obtain ⟨m, hm⟩ : ∃ m, n / 256 ^ j = m := ⟨_, rfl⟩
          have hm0 : 0 < m := by rw [← hm]; exact Nat.div_pos (Nat.le_of_not_lt HN.out) (Nat.pow_pos (by decide))
          rw [hm]
          clear hm
          go_wp2
          go_ret2
          exact ⟨.slice none 0 0, rfl, OwnB.nil _ _, hb⟩

theorem unB_step (l : List UInt8) (k i : Nat) (y : UInt8) (hi : i < k) (hk : k ≤ l.length) (h8 : k ≤ 8) (hy : l.getD i 0 = y) :
    IntKind.u64.wrap (IntKind.u64.wrap (256 * (unB ((l.take k).drop (i + 1)) : Int)) + (y.toNat : Int)) = (unB ((l.take k).drop i) : Int) := by
  have hl : i < (l.take k).length := by simp; omega
  have e : (l.take k).drop i = y :: (l.take k).drop (i + 1) := by
    rw [List.drop_eq_getElem_cons hl]
    congr 1
    rw [← hy]; simp [List.getElem_take, List.getD_eq_getElem?_getD, List.getElem?_eq_getElem (show i < l.length by omega)]
  have hlt := unB_lt ((l.take k).drop i)
  have hp : 256 ^ ((l.take k).drop i).length ≤ 256 ^ 8 := Nat.pow_le_pow_right (by decide) (by simp; omega)
  have h2 : (256 : Nat) ^ 8 = 18446744073709551616 := by decide
  have hlt2 := Nat.lt_of_lt_of_le hlt hp
  rw [e] at hlt2 ⊢
  clear hlt hp e
  simp only [unB] at hlt2 ⊢
  have h3 : y.toNat + 256 * unB ((l.take k).drop (i + 1)) < 18446744073709551616 := by omega
  rw [IntKind.wrap_u64, IntKind.wrap_u64]
  omega

set_option maxRecDepth 100000 in
set_option maxHeartbeats 2000000 in
theorem refReadFixed_any {n0 : Nat} (v : Value) (l : List UInt8) (x : Int) (w : World) (hv : Bytes n0 w v l) :
    Calls Tryz.prog 50 #[v, .int .i64 x] w fun e w' => e = .returned (.tuple #[.int .u64 (rfN l x), .int .i64 (rfE l x)]) ∧ w = w' := by
  obtain ⟨ao, cap, rfl, h1, h2, h3⟩ := hv
  have HH := Lib.hid h3; clear h3
  unfold maxLen at h2
  cases h : isW x with
  | false =>
    have e1 : rfE l x = 2 := by simp [rfE, h]
    have e2 : rfN l x = 0 := by simp [rfN, e1]
    rw [e1, e2]; clear e1 e2
    have H := Lib.hid h; clear h
    go_enter Tryz.func50, Tryz.ntmps50
    go_wp2_with (go_at_call 82; refine (right_any _ _).mono ?_; rintro e w' ⟨rfl, rfl⟩; rw [H.out])
    go_ret2
    exact ⟨rfl, rfl⟩
  | true =>
    obtain ⟨k, rfl, hk⟩ := isW_nat h
    by_cases hl : l.length < k
    · have e1 : rfE l k = 110 := by simp [rfE, h, hl]
      have e2 : rfN l k = 0 := by simp [rfN, e1]
      rw [e1, e2]; clear e1 e2
      have H := Lib.hid h; clear h
      go_enter Tryz.func50, Tryz.ntmps50
      go_wp2_with (go_at_call 82; refine (right_any _ _).mono ?_; rintro e w' ⟨rfl, rfl⟩; rw [H.out])
      go_ret2
      exact ⟨rfl, rfl⟩
    · have e1 : rfE l k = 0 := by simp [rfE, h, hl]
      have e2 : rfN l k = unB (l.take k) := by simp [rfN, e1]
      rw [e1, e2]; clear e1 e2
      have H := Lib.hid h; clear h
      go_enter Tryz.func50, Tryz.ntmps50
      go_wp2_with (go_at_call 82; refine (right_any _ _).mono ?_; rintro e w' ⟨rfl, rfl⟩; rw [H.out])
      go_loop [6, 7] (fun a i => ∃ j : Nat, j ≤ k ∧ i = .int .i64 ((j : Int) - 1) ∧ a = .int .u64 (unB ((l.take k).drop j))) (fun _ i => (intOf i + 1).toNat)
      case atStart => exact ⟨k, Nat.le_refl _, rfl, by simp [unB]⟩
      case round =>
        obtain ⟨j, hj, rfl, rfl⟩ := hrel
        rcases Nat.eq_zero_or_pos j with rfl | hj0
        · go_wp2
          go_ret2
          exact ⟨by simp, rfl⟩
        · obtain ⟨i, rfl⟩ : ∃ i, j = i + 1 := ⟨j - 1, by omega⟩
          obtain ⟨b, off, rfl, _, hc⟩ := HH.out (by rintro rfl; simp at hl; omega)
          obtain ⟨y, hy⟩ : ∃ y, l.getD i 0 = y := ⟨_, rfl⟩
          have hcell : w.cell? ⟨b, off + i, none⟩ = some (.int .u8 y.toNat) := by have := hc i (by omega); rwa [hy] at this
          clear hc
          have HY := Lib.hid hy; clear hy
          have hy8 : y.toNat < 256 := y.toNat_lt
          go_wp2
          go_round
          case rel => exact ⟨i, by omega, rfl, int_eq (unB_step l k i y (by omega) (by omega) hk HY.out)⟩
          case measure => simp [intOf]
end Go.Proofs.YtbinmgpfkjmijaaGreatDoor
