/- Contracts of Fixed, the program's and the document's. -/
import Derived.Test.YtoeoeeomnbggkaaGreatDoorW1
namespace Go.Proofs.YtoeoeeomnbggkaaGreatDoor
open Go.RowKit

theorem run_mk (n : Nat) (hn : n ≤ 65536) (w : World) :
    (Instr.makeSlice 47 (.int .i64 (n : Int)) (.int .i64 (n : Int))).run Tryz.prog w = .ok (.slice (some ⟨w.heap.size, 0, none⟩) n n) (w.alloc (.cells (madeCells #[.int .u8 0] n) 5)) := by
  obtain ⟨i0, hi, hz, hs, hb⟩ := info_parts (show (Tryz.prog.info? 5).map (fun i => (i.zero, i.size, i.bytes)) = some (some (.int .u8 0), 1, 1) by kernel_rfl)
  have h := run_make (P := Tryz.prog) w 47 5 i0 (.int .u8 0) Tryz.underlying47 hi hz .i64 .i64 n n (by omega) (by omega) (by rw [hb]; omega) (by omega)
  rw [hs] at h
  simpa [Value.cells] using h

theorem madeCells_toList (n : Nat) : (madeCells #[.int .u8 0] n).toList = List.replicate n (.int .u8 0) := by
  unfold madeCells
  apply List.ext_getElem
  · simp
  · intro i h1 h2
    simp [Nat.mod_one]

/-- A row in the making: k bytes are there, zeros behind them. -/
def rowK (x k n : Nat) : List Value := (leB k n).map byteV ++ List.replicate (x - k) (.int .u8 0)
theorem rowK_length (x k n : Nat) (h : k ≤ x) : (rowK x k n).length = x := by simp [rowK, leB_length]; omega
theorem rowK_at (x k n : Nat) (h : k < x) : (rowK x k n)[k]? = some (.int .u8 0) := by
  rw [rowK, List.getElem?_append_right (by simp [leB_length])]
  simp only [leB_length, List.length_map, Nat.sub_self]
  rw [List.getElem?_replicate, if_pos (by omega)]
theorem byteV_ofNat (m : Nat) : byteV (UInt8.ofNat m) = .int .u8 ((m % 256 : Nat) : Int) := by
  unfold byteV; rw [show (UInt8.ofNat m).toNat = m % 256 from UInt8.toNat_ofNat']
theorem rowK_set (x k n : Nat) (h : k < x) : (rowK x k n).set k (.int .u8 ((n / 256 ^ k % 256 : Nat) : Int)) = rowK x (k + 1) n := by
  have e : x - k = (x - (k + 1)) + 1 := by omega
  unfold rowK
  rw [List.set_append_right _ _ (by simp [leB_length]), leB_snoc, e, List.replicate_succ]
  simp [leB_length, byteV_ofNat]
theorem rowK_end (x n : Nat) : rowK x x n = (leB x n).map byteV := by simp [rowK]

/-- What a call hands back: bytes in memory that it has made, in the place of v. -/
def GivesB (l : List UInt8) (mk : Value → Value) (w : World) (e : Ending) (w' : World) : Prop := ∃ v, e = .returned (mk v) ∧ OwnB w' w.heap.size v l ∧ Adds w w'

theorem div256 (n k : Nat) : n / 256 ^ k / 256 = n / 256 ^ (k + 1) := by rw [Nat.div_div_eq_div_mul, Nat.pow_succ]
theorem byte_wrap (m : Nat) : IntKind.u8.wrap (m : Int) = ((m % 256 : Nat) : Int) := by rw [IntKind.wrap_u8']; omega

set_option maxHeartbeats 1000000 in
theorem lowestFirst_any (n x : Nat) (hx : x ≤ 8) (w : World) :
    Calls Tryz.prog 48 #[.int .u64 n, .int .i64 x] w (GivesB (leB x n) (fun v => v) w) := by
  have hmk := run_mk x (by omega)
  go_enter Tryz.func48, Tryz.ntmps48
  go_wp2
  clear hmk
  go_loopw [0, 11] (fun a i wr => ∃ k : Nat, k ≤ x ∧ i = .int .i64 k ∧ a = .int .u64 ((n / 256 ^ k : Nat) : Int) ∧ wr.ownsRow w.heap.size 5 1 (.slice (some ⟨w.heap.size, 0, none⟩) x x) x (rowK x k n) ∧ Below w.heap.size w wr) (fun _ i _ => x - (intOf i).toNat)
  case atStart =>
    refine ⟨0, Nat.zero_le _, rfl, by simp, ?_, (Below.refl _ _).alloc (Nat.le_refl _) _⟩
    have := World.ownsRow_lit (size := 1) (e := 5) w (madeCells #[.int .u8 0] x) x (Nat.le_refl _) (by unfold maxLen; omega) (by rw [size_madeCells]; omega)
    rw [madeCells_toList] at this
    simpa [rowK, leB] using this
  case round =>
    obtain ⟨k, hk, rfl, rfl, hown, hb⟩ := hrel
    by_cases hlt : k < x
    · have hc : wr.cell? ⟨w.heap.size, k, none⟩ = some (.int .u8 0) := by rw [hown.cellAt k (by omega), rowK_at x k n hlt]
      have hf := hown.frozenAt k
      have HO := Lib.hid hown; clear hown
      obtain ⟨m, hm⟩ : ∃ m, n / 256 ^ k = m := ⟨_, rfl⟩
      rw [hm]
      have HM := Lib.hid hm; clear hm
      go_wp2
      go_round
      case rel =>
        refine ⟨k + 1, by omega, by go_num, int_eq (by rw [← div256, HM.out]; omega), ?_, hb.setCell (by simp) _⟩
        have := (HO.out.stored k (.int .u8 ((m % 256 : Nat) : Int))).1
        rw [← HM.out, rowK_set x k n hlt, HM.out] at this
        exact this
      case measure => simp [intOf]; omega
    · go_wp2
      go_ret
      obtain rfl : k = x := by omega
      rw [rowK_end] at hown
      exact ⟨.slice (some ⟨w.heap.size, 0, none⟩) k k, rfl, by simpa [OwnB, leB_length] using hown, hb⟩

def fixE (n : Nat) (x : Int) : Int := if isW x then (if n < 256 ^ x.toNat then 0 else 4) else 2
def fixB (n : Nat) (x : Int) : List UInt8 := if fixE n x = 0 then leB x.toNat n else []

theorem fits_any (n : Nat) (x : Int) (h : isW x = true) (w : World) :
    Calls Tryz.prog 47 #[.int .u64 n, .int .i64 x] w fun e w' => e = .returned (.bool (decide (n < 256 ^ x.toNat))) ∧ w = w' := by
  have hx : x = 1 ∨ x = 2 ∨ x = 4 ∨ x = 8 := by simpa [isW, or_assoc] using h
  rcases hx with rfl | rfl | rfl | rfl
  · exact fits_1 n w
  · exact fits_2 n w
  · exact fits_4 n w
  · exact fits_8 n w

theorem isW_nat {x : Int} (h : isW x = true) : ∃ k : Nat, x = k ∧ k ≤ 8 := by
  have hx : x = 1 ∨ x = 2 ∨ x = 4 ∨ x = 8 := by simpa [isW, or_assoc] using h
  exact ⟨x.toNat, by omega, by omega⟩

set_option maxHeartbeats 1000000 in
theorem fixed_any (n : Nat) (x : Int) (w : World) (hw : Widths w) :
    Calls Tryz.prog 32 #[.int .u64 n, .int .i64 x] w (GivesB (fixB n x) (fun v => .tuple #[v, .int .i64 (fixE n x)]) w) := by
  have HW := Lib.hid hw; clear hw
  cases h : isW x with
  | false =>
    have e1 : fixE n x = 2 := by simp [fixE, h]
    have e2 : fixB n x = [] := by simp [fixB, e1]
    rw [e1, e2]; clear e1 e2
    have H := Lib.hid h; clear h
    go_enter Tryz.func32, Tryz.ntmps32
    go_wp2
    refine wp_scope_fwd 0 rfl ?_
    go_wp2_with (go_at_call 46; refine (isWidth_any _ _ HW.out).mono ?_; rintro e w' ⟨rfl, rfl⟩; rw [H.out])
    go_step3
    refine ⟨rfl, ?_⟩
    go_wp2
    rw [Exit.noGoto_ret]
    go_ret2
    exact ⟨.slice none 0 0, rfl, OwnB.nil _ _, Adds.refl _⟩
  | true =>
    by_cases hn : n < 256 ^ x.toNat
    · have e1 : fixE n x = 0 := by simp [fixE, h, hn]
      have e2 : fixB n x = leB x.toNat n := by simp [fixB, e1]
      rw [e1, e2]; clear e1 e2
      obtain ⟨k, rfl, hk⟩ := isW_nat h
      have hd : decide (n < 256 ^ ((k : Nat) : Int).toNat) = true := by simpa using hn
      have H := Lib.hid h; clear h
      have HD := Lib.hid hd; clear hd hn
      simp only [Int.toNat_natCast]
      go_enter Tryz.func32, Tryz.ntmps32
      go_wp2
      refine wp_scope_fwd 0 rfl ?_
      go_wp2_with (first
        | (go_at_call 46; refine (isWidth_any _ _ HW.out).mono ?_; rintro e w' ⟨rfl, rfl⟩; rw [H.out])
        | (go_at_call 47; refine (fits_any _ _ H.out _).mono ?_; rintro e w' ⟨rfl, rfl⟩; rw [HD.out])
        | (go_at_call 48; refine (lowestFirst_any n k hk _).mono ?_; rintro e w' ⟨v, rfl, hv, ha⟩; have HV := Lib.hid hv; clear hv; have HA := Lib.hid ha; clear ha))
      simp only [Exit.jump]
      go_ret2
      rename_i v w1 HV HA
      exact ⟨v, rfl, HV.out, HA.out⟩
    · have e1 : fixE n x = 4 := by simp [fixE, h, hn]
      have e2 : fixB n x = [] := by simp [fixB, e1]
      rw [e1, e2]; clear e1 e2
      have hd : decide (n < 256 ^ x.toNat) = false := by simpa using hn
      have H := Lib.hid h; clear h
      have HD := Lib.hid hd; clear hd hn
      go_enter Tryz.func32, Tryz.ntmps32
      go_wp2
      refine wp_scope_fwd 0 rfl ?_
      go_wp2_with (first
        | (go_at_call 46; refine (isWidth_any _ _ HW.out).mono ?_; rintro e w' ⟨rfl, rfl⟩; rw [H.out])
        | (go_at_call 47; refine (fits_any _ _ H.out _).mono ?_; rintro e w' ⟨rfl, rfl⟩; rw [HD.out]))
      go_step3
      refine ⟨rfl, ?_⟩
      go_wp2
      rw [Exit.noGoto_ret]
      go_ret2
      exact ⟨.slice none 0 0, rfl, OwnB.nil _ _, Adds.refl _⟩
end Go.Proofs.YtoeoeeomnbggkaaGreatDoor
