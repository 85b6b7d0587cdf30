/- Merged: M7, BF. -/
import Derived.Test.YthhegcngkpfcoaaGreatDoorF17
import Derived.Test.YthhegcngkpfcoaaGreatDoorF19
import Derived.Test.YthhegcngkpfcoaaGreatDoorF0
import Derived.Test.YthhegcngkpfcoaaGreatDoorF4
namespace Go.Proofs.YthhegcngkpfcoaaGreatDoor
open Go Go.RowKit Go.Lib

theorem WAt.adds {lb : Nat} {w w' : World} {l : List UInt8} (h : WAt lb w l) (ha : Adds w w') : WAt lb w' l := by
  obtain ⟨v, hc, hf, ho, hl⟩ := h
  exact ⟨v, (ha.cell (p := ⟨lb, 0, none⟩) hl).trans hc, (ha.frozen (p := ⟨lb, 0, none⟩) hl).trans hf, ho.adds ha, Nat.lt_of_lt_of_le hl ha.size⟩
theorem WAt.lt {lb : Nat} {w : World} {l : List UInt8} (h : WAt lb w l) : lb < w.heap.size := h.choose_spec.2.2.2
/-- The method value put. -/
def putMv (lb : Nat) : Value := .func (.func 35) #[.pointer (some ⟨lb, 0, none⟩)] #[]
/-- The bytes of numbers of a width, one behind the other. -/
def tellB (ns : List Nat) (wd : Nat) : List UInt8 := ns.flatMap fun x => fixB x wd
/-- A row of ints in a block. -/
def IntsAt (g : Nat) (w : World) (ns : List Nat) : Prop := ∀ j, j < ns.length → w.cell? ⟨g, j, none⟩ = some (.int .i64 ((ns.getD j 0 : Nat) : Int))
theorem tellB_take (ns : List Nat) (wd j : Nat) (h : j < ns.length) : tellB (ns.take (j + 1)) wd = tellB (ns.take j) wd ++ fixB (ns.getD j 0) wd := by
  unfold tellB
  rw [List.take_succ_eq_append_getElem h, List.flatMap_append]
  simp [List.getD, h]
theorem fixB_le8 (x wd : Nat) : (fixB x wd).length ≤ 8 := by
  unfold fixB
  split
  · rename_i h
    rw [leB_length]
    unfold fixE at h
    split at h
    · rename_i h2
      unfold isW at h2
      simp at h2
      omega
    · cases h
  · simp
theorem tellB_len (wd : Nat) : ∀ ns, (tellB ns wd).length ≤ 8 * ns.length
  | [] => by simp [tellB]
  | x :: ns => by
    have h1 := tellB_len wd ns
    have h2 := fixB_le8 x wd
    unfold tellB at h1 ⊢
    rw [List.flatMap_cons, List.length_append, List.length_cons]
    omega

set_option maxRecDepth 100000 in
set_option maxHeartbeats 2000000 in
theorem mtellI (lb g : Nat) (l : List UInt8) (ns : List Nat) (wd : Nat) (w : World) (hl : WAt lb w l) (hw : Widths w) (hgw : 1 < lb) (hf : Far lb w g) (hrow : IntsAt g w ns) (hns : ∀ j, ns.getD j 0 < 9223372036854775808) (hlen : l.length + 8 * ns.length ≤ 140737488355328) :
    Calls Tryz.prog 36 #[putMv lb, .int .i64 (wd : Int), .slice (some ⟨g, 0, none⟩) ns.length ns.length] w fun e w' => e = .returned (.tuple #[]) ∧ WAt lb w' (l ++ tellB ns wd) ∧ Below lb w w' ∧ Keeps lb w w' := by
  have HL := Lib.hid hl; have HW := Lib.hid hw; have HGw := Lib.hid hgw; have HF := Lib.hid hf; have HRow := Lib.hid hrow; have HNs := Lib.hid hns; have HLen := Lib.hid hlen
  have hm : ns.length ≤ 17592186044416 := by omega
  clear hl hw hgw hf hrow hns hlen
  unfold putMv
  go_enter Tryz.func36, Tryz.ntmps36
  go_wp2
  go_loopw [12] (fun i wr => ∃ j : Nat, i = .int .i64 (j : Int) ∧ j ≤ ns.length ∧ Hid (WAt lb wr (l ++ tellB (ns.take j) wd) ∧ Below lb w wr ∧ Keeps lb w wr)) (fun i _ => ns.length - (RowKit.intOf i).toNat)
  case atStart => exact ⟨0, rfl, Nat.zero_le _, Lib.hid ⟨by simpa [tellB] using HL.out, Below.refl _ _, Keeps.refl _ _⟩⟩
  case round =>
    obtain ⟨j, rfl, hj, HJ⟩ := hrel
    by_cases hlt : j < ns.length
    · have hltI : (j : Int) < (ns.length : Int) := by omega
      have hc : wr.cell? ⟨g, j, none⟩ = some (.int .i64 ((ns.getD j 0 : Nat) : Int)) := by
        rw [← HRow.out j hlt]
        have h := (HJ.out.2.2 g HF.out).2
        unfold World.cell?
        rw [h]
      obtain ⟨x, hx⟩ : ∃ x, ns.getD j 0 = x := ⟨_, rfl⟩
      have HX := Lib.hid hx
      rw [hx] at hc
      have hx2 : x < 9223372036854775808 := by rw [← hx]; exact HNs.out j
      clear hx
      have HLj := Lib.hid (show (l ++ tellB (ns.take j) wd).length + (fixB x wd).length ≤ 140737488355328 by
        have h1 := tellB_len wd (ns.take j)
        have h2 := fixB_le8 x wd
        have h3 := HLen.out
        rw [List.length_take] at h1
        rw [List.length_append]
        omega)
      have HWr := Lib.hid (show Widths wr from HW.out.low HJ.out.2.1 HGw.out)
      have HFi := Lib.hid (fixed_any x (wd : Int) wr HWr.out)
      go_wp2_with (first
        | (go_at_call 61; refine HFi.out.mono ?_; rintro e w1 ⟨v1, rfl, o1, a1⟩; obtain ⟨ao1, cap1, e1, _⟩ := id o1.bytes; subst e1; have HO1 := Lib.hid o1; have HA1 := Lib.hid a1; clear o1 a1)
        | (go_at_call 35; refine (mput (n := w1.heap.size) lb w1.heap.size (l ++ tellB (ns.take j) wd) (fixB x wd) _ _ (HJ.out.1.adds (HA1.out.trans (adds_alloc _ _))) ((BkS.new 27 w1 [_]).cell 0) (HO1.out.bytes.below (adds_alloc _ _)) HLj.out).mono ?_; rintro e w3 ⟨rfl, q1, q2, q3⟩; have HQ1 := Lib.hid q1; have HQ2 := Lib.hid (((HA1.out.trans (adds_alloc w1 _)).mono (Nat.le_of_lt HJ.out.1.lt)).trans q2); have HQ3 := Lib.hid ((Keeps.adds HJ.out.1.lt (HA1.out.trans (adds_alloc _ _))).trans q3); clear q1 q2 q3))
      go_roundw
      case rel => exact ⟨j + 1, by go_num, hlt, Lib.hid ⟨by rw [tellB_take ns wd j hlt, ← List.append_assoc, HX.out]; exact HQ1.out, HJ.out.2.1.trans HQ2.out, HJ.out.2.2.trans HQ3.out⟩⟩
      case measure => simp [RowKit.intOf]; omega
    · have : j = ns.length := by omega
      subst this
      go_wp2
      refine bodyPost_end (results_none rfl _ _ _) rfl ?_
      have h := HJ.out
      rw [List.take_length] at h
      exact ⟨rfl, h⟩
end Go.Proofs.YthhegcngkpfcoaaGreatDoor
namespace Go.Proofs.YthhegcngkpfcoaaGreatDoor
open Go.RowKit

theorem lit1 (w : World) (z : Int) (b : UInt8) (hz : z = b.toNat) : OwnB (w.alloc (.cells #[.int .u8 z] 5)) w.heap.size (.slice (some ⟨w.heap.size, 0, none⟩) 1 1) [b] := by
  subst hz
  exact OwnB.lit w [b] (by simp [maxLen])
theorem below_alloc (w : World) (o : Obj) : Below w.heap.size w (w.alloc o) := (Below.refl _ _).alloc (Nat.le_refl _) _
end Go.Proofs.YthhegcngkpfcoaaGreatDoor
namespace Go.Proofs.YthhegcngkpfcoaaGreatDoor
open Go.RowKit

theorem row_fin {w wr : World} {x n : Nat} (hown : wr.ownsRow w.heap.size 5 1 (.slice (some ⟨w.heap.size, 0, none⟩) x x) x (rowK x x n)) : OwnB wr w.heap.size (.slice (some ⟨w.heap.size, 0, none⟩) x x) (leB x n) := by
  rw [rowK_end] at hown
  simpa [OwnB, leB_length] using hown
theorem row_start (w : World) (x n : Nat) (hx : x ≤ 8) : (w.alloc (.cells (madeCells #[.int .u8 0] x) 5)).ownsRow w.heap.size 5 1 (.slice (some ⟨w.heap.size, 0, none⟩) x x) x (rowK x 0 n) := by
  have := World.ownsRow_lit (size := 1) (e := 5) w (madeCells #[.int .u8 0] x) x (Nat.le_refl _) (by unfold maxLen; omega) (by rw [size_madeCells]; omega)
  rw [madeCells_toList] at this
  simpa [rowK, leB] using this

set_option maxRecDepth 100000 in
set_option maxHeartbeats 2000000 in
theorem refFixed_any (n : Nat) (hu : U64 n) (x : Int) (w : World) :
    Calls Tryz.prog 27 #[.int .u64 n, .int .i64 x] w (GivesB (fixB n x) (fun v => .tuple #[v, .int .i64 (fixE n x)]) w) := by
  cases h : isW x with
  | false =>
    have e1 : fixE n x = 2 := by simp [fixE, h]
    have e2 : fixB n x = [] := by simp [fixB, e1]
    rw [e1, e2]; clear e1 e2
    have H := Lib.hid h; clear h
    go_enter Tryz.func27, Tryz.ntmps27
    go_wp2_with (go_at_call 49; refine (right_any _ _).mono ?_; rintro e w' ⟨rfl, rfl⟩; rw [H.out])
    go_ret2
    exact ⟨.slice none 0 0, rfl, OwnB.nil _ _, Adds.refl _⟩
  | true =>
    obtain ⟨k, rfl, hk⟩ := isW_nat h
    have HU := Lib.hid hu; clear hu
    by_cases hn : n < 256 ^ k
    · have e1 : fixE n k = 0 := by simp [fixE, h, hn]
      have e2 : fixB n k = leB k n := by simp [fixB, e1]
      rw [e1, e2]; clear e1 e2
      have H := Lib.hid h; clear h
      have HN := Lib.hid hn; clear hn
      have hmk := run_mk k (by omega)
      go_enter Tryz.func27, Tryz.ntmps27
      go_wp2_with (go_at_call 49; refine (right_any _ _).mono ?_; rintro e w' ⟨rfl, rfl⟩; rw [H.out])
      clear hmk
      go_loopw [0, 7] (fun a i wr => ∃ j : Nat, j ≤ k ∧ i = .int .i64 j ∧ a = .int .u64 ((n / 256 ^ j : Nat) : Int) ∧ wr.ownsRow w.heap.size 5 1 (.slice (some ⟨w.heap.size, 0, none⟩) k k) k (rowK k j n) ∧ Below w.heap.size w wr) (fun _ i _ => k - (intOf i).toNat)
      case atStart => exact ⟨0, Nat.zero_le _, rfl, by simp, row_start w k n hk, below_alloc _ _⟩
      case round =>
        obtain ⟨j, hj, rfl, rfl, hown, hb⟩ := hrel
        by_cases hlt : j < k
        · have hc : wr.cell? ⟨w.heap.size, j, none⟩ = some (.int .u8 0) := by rw [hown.cellAt j (by omega), rowK_at k j n hlt]
          have hf := hown.frozenAt j
          have HO := Lib.hid hown; clear hown
          have hdle : n / 256 ^ j ≤ n := Nat.div_le_self _ _
          obtain ⟨m, hm⟩ : ∃ m, n / 256 ^ j = m := ⟨_, rfl⟩
          rw [hm] at hdle ⊢
          have HM := Lib.hid hm; clear hm
          have hwr : IntKind.u64.wrap ((m : Int) / 256) = (m : Int) / 256 := u64_in (a := m / 256) (by have := HU.out; unfold U64 at this; omega)
          clear hdle
          go_wp2
          go_roundw
          case rel =>
            refine ⟨j + 1, by omega, by go_num, int_eq (by rw [← div256, HM.out]; omega), ?_, hb.setCell (by simp) _⟩
            have := (HO.out.stored j (.int .u8 ((m % 256 : Nat) : Int))).1
            rw [← HM.out, rowK_set k j n hlt, HM.out] at this
            exact this
          case measure => simp [intOf]; omega
        · obtain rfl : j = k := by omega
          have HO := Lib.hid (row_fin hown); clear hown
          have hz : n / 256 ^ j = 0 := Nat.div_eq_of_lt HN.out
          rw [hz]
          clear hz
          go_wp2
          go_ret2
          exact ⟨.slice (some ⟨w.heap.size, 0, none⟩) j j, rfl, HO.out, hb⟩
    · have e1 : fixE n k = 4 := by simp [fixE, h, hn]
      have e2 : fixB n k = [] := by simp [fixB, e1]
      rw [e1, e2]; clear e1 e2
      have H := Lib.hid h; clear h
      have HN := Lib.hid hn; clear hn
      have hmk := run_mk k (by omega)
      go_enter Tryz.func27, Tryz.ntmps27
      go_wp2_with (go_at_call 49; refine (right_any _ _).mono ?_; rintro e w' ⟨rfl, rfl⟩; rw [H.out])
      clear hmk
      go_loopw [0, 7] (fun a i wr => ∃ j : Nat, j ≤ k ∧ i = .int .i64 j ∧ a = .int .u64 ((n / 256 ^ j : Nat) : Int) ∧ wr.ownsRow w.heap.size 5 1 (.slice (some ⟨w.heap.size, 0, none⟩) k k) k (rowK k j n) ∧ Below w.heap.size w wr) (fun _ i _ => k - (intOf i).toNat)
      case atStart => exact ⟨0, Nat.zero_le _, rfl, by simp, row_start w k n hk, below_alloc _ _⟩
      case round =>
        obtain ⟨j, hj, rfl, rfl, hown, hb⟩ := hrel
        by_cases hlt : j < k
        · have hc : wr.cell? ⟨w.heap.size, j, none⟩ = some (.int .u8 0) := by rw [hown.cellAt j (by omega), rowK_at k j n hlt]
          have hf := hown.frozenAt j
          have HO := Lib.hid hown; clear hown
          have hdle : n / 256 ^ j ≤ n := Nat.div_le_self _ _
          obtain ⟨m, hm⟩ : ∃ m, n / 256 ^ j = m := ⟨_, rfl⟩
          rw [hm] at hdle ⊢
          have HM := Lib.hid hm; clear hm
          have hwr : IntKind.u64.wrap ((m : Int) / 256) = (m : Int) / 256 := u64_in (a := m / 256) (by have := HU.out; unfold U64 at this; omega)
          clear hdle
          go_wp2
          go_roundw
          case rel =>
            refine ⟨j + 1, by omega, by go_num, int_eq (by rw [← div256, HM.out]; omega), ?_, hb.setCell (by simp) _⟩
            have := (HO.out.stored j (.int .u8 ((m % 256 : Nat) : Int))).1
            rw [← HM.out, rowK_set k j n hlt, HM.out] at this
            exact this
          case measure => simp [intOf]; omega
        · obtain rfl : j = k := by omega
          have HO := Lib.hid (row_fin hown); clear hown
          obtain ⟨m, hm⟩ : ∃ m, n / 256 ^ j = m := ⟨_, rfl⟩
          have hm0 : 0 < m := by rw [← hm]; exact Nat.div_pos (Nat.le_of_not_lt HN.out) (Nat.pow_pos (by decide))
          rw [hm]
          clear hm
          go_wp2
          go_ret2
          exact ⟨.slice none 0 0, rfl, OwnB.nil _ _, hb⟩

theorem unB_step (l : List UInt8) (k i : Nat) (y : UInt8) (hi : i < k) (hk : k ≤ l.length) (h8 : k ≤ 8) (hy : l.getD i 0 = y) :
    IntKind.u64.wrap (IntKind.u64.wrap (256 * (unB ((l.take k).drop (i + 1)) : Int)) + (y.toNat : Int)) = (unB ((l.take k).drop i) : Int) := by
  have hl : i < (l.take k).length := by simp; omega
  have e : (l.take k).drop i = y :: (l.take k).drop (i + 1) := by
    rw [List.drop_eq_getElem_cons hl]
    congr 1
    rw [← hy]; simp [List.getElem_take, List.getD_eq_getElem?_getD, List.getElem?_eq_getElem (show i < l.length by omega)]
  have hlt := unB_lt ((l.take k).drop i)
  have hp : 256 ^ ((l.take k).drop i).length ≤ 256 ^ 8 := Nat.pow_le_pow_right (by decide) (by simp; omega)
  have h2 : (256 : Nat) ^ 8 = 18446744073709551616 := by decide
  have hlt2 := Nat.lt_of_lt_of_le hlt hp
  rw [e] at hlt2 ⊢
  clear hlt hp e
  simp only [unB] at hlt2 ⊢
  have h3 : y.toNat + 256 * unB ((l.take k).drop (i + 1)) < 18446744073709551616 := by omega
  rw [IntKind.wrap_u64, IntKind.wrap_u64]
  omega

set_option maxRecDepth 100000 in
set_option maxHeartbeats 2000000 in
theorem refReadFixed_any {n0 : Nat} (v : Value) (l : List UInt8) (x : Int) (w : World) (hv : Bytes n0 w v l) :
    Calls Tryz.prog 71 #[v, .int .i64 x] w fun e w' => e = .returned (.tuple #[.int .u64 (rfN l x), .int .i64 (rfE l x)]) ∧ w = w' := by
  obtain ⟨ao, cap, rfl, h1, h2, h3⟩ := hv
  have HH := Lib.hid h3; clear h3
  unfold maxLen at h2
  cases h : isW x with
  | false =>
    have e1 : rfE l x = 2 := by simp [rfE, h]
    have e2 : rfN l x = 0 := by simp [rfN, e1]
    rw [e1, e2]; clear e1 e2
    have H := Lib.hid h; clear h
    go_enter Tryz.func71, Tryz.ntmps71
    go_wp2_with (go_at_call 49; refine (right_any _ _).mono ?_; rintro e w' ⟨rfl, rfl⟩; rw [H.out])
    go_ret2
    exact ⟨rfl, rfl⟩
  | true =>
    obtain ⟨k, rfl, hk⟩ := isW_nat h
    by_cases hl : l.length < k
    · have e1 : rfE l k = 110 := by simp [rfE, h, hl]
      have e2 : rfN l k = 0 := by simp [rfN, e1]
      rw [e1, e2]; clear e1 e2
      have H := Lib.hid h; clear h
      go_enter Tryz.func71, Tryz.ntmps71
      go_wp2_with (go_at_call 49; refine (right_any _ _).mono ?_; rintro e w' ⟨rfl, rfl⟩; rw [H.out])
      go_ret2
      exact ⟨rfl, rfl⟩
    · have e1 : rfE l k = 0 := by simp [rfE, h, hl]
      have e2 : rfN l k = unB (l.take k) := by simp [rfN, e1]
      rw [e1, e2]; clear e1 e2
      have H := Lib.hid h; clear h
      go_enter Tryz.func71, Tryz.ntmps71
      go_wp2_with (go_at_call 49; refine (right_any _ _).mono ?_; rintro e w' ⟨rfl, rfl⟩; rw [H.out])
      go_loop [6, 7] (fun a i => ∃ j : Nat, j ≤ k ∧ i = .int .i64 ((j : Int) - 1) ∧ a = .int .u64 (unB ((l.take k).drop j))) (fun _ i => (intOf i + 1).toNat)
      case atStart => exact ⟨k, Nat.le_refl _, rfl, by simp [unB]⟩
      case round =>
        obtain ⟨j, hj, rfl, rfl⟩ := hrel
        rcases Nat.eq_zero_or_pos j with rfl | hj0
        · go_wp2
          go_ret2
          exact ⟨by simp, rfl⟩
        · obtain ⟨i, rfl⟩ : ∃ i, j = i + 1 := ⟨j - 1, by omega⟩
          obtain ⟨b, off, rfl, _, hc⟩ := HH.out (by rintro rfl; simp at hl; omega)
          obtain ⟨y, hy⟩ : ∃ y, l.getD i 0 = y := ⟨_, rfl⟩
          have hcell : w.cell? ⟨b, off + i, none⟩ = some (.int .u8 y.toNat) := by have := hc i (by omega); rwa [hy] at this
          clear hc
          have HY := Lib.hid hy; clear hy
          have hy8 : y.toNat < 256 := y.toNat_lt
          go_wp2
          go_round
          case rel => exact ⟨i, by omega, rfl, int_eq (unB_step l k i y (by omega) (by omega) hk HY.out)⟩
          case measure => simp [intOf]
end Go.Proofs.YthhegcngkpfcoaaGreatDoor
