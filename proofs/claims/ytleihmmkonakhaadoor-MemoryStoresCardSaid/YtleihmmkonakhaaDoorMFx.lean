/- Merged: W3, W4, W5, W7, W8. -/
import Derived.Deep.QuietTactic
import Derived.BigQuiet
import Derived.Test.YtleihmmkonakhaaDoorW2
import Derived.Test.YtleihmmkonakhaaDoorApp
namespace Go.Proofs.YtleihmmkonakhaaDoor
open Go.RowKit

theorem quiet_left {P : Program} {f : FuncId} {args : Array Value} {w : World} {n : Nat} {v : Value}
    (h : Calls P f args (w.drewN n) fun e w' => e = .returned v ∧ w.drewN n = w') : Calls P f args (w.drewN n) fun e w'' => e = .returned v ∧ ∃ m, w'' = w.drewN m :=
  h.mono fun _ _ ⟨he, hm⟩ => ⟨he, n, hm.symm⟩

/-- What a cut is, as a value. -/
def cutV (ao : Option Addr) (i many : Nat) : Value := .slice (if many = 0 then ao else ao.map (·.add i)) many many
theorem cutV_bytes {n : Nat} {w : World} {ao : Option Addr} {cap : Nat} {l : List UInt8} (hv : Bytes n w (.slice ao l.length cap) l) (i many : Nat) (h : i + many ≤ l.length) : Bytes n w (cutV ao i many) ((l.drop i).take many) := by
  have h1 : l.length ≤ cap := by
    obtain ⟨_, _, e, h1, _⟩ := hv
    simp only [Value.slice.injEq] at e
    omega
  have hs := hv.sliced i (i + many) (i + many) (by omega) h (by omega) (by omega)
  rw [show i + many - i = many by omega, Nat.mul_one] at hs
  unfold cutV
  by_cases h0 : many = 0
  · subst h0; simpa using hs
  · rw [if_neg (by omega)] at hs; rw [if_neg h0]; exact hs

theorem quiet_add_left {P : Program} {f : FuncId} {args : Array Value} {w : World} {a n : Nat} {v : Value}
    (h : Calls P f args (w.drewN (a + n)) fun e w' => e = .returned v ∧ w.drewN (a + n) = w') :
    Calls P f args (w.drewN (a + n)) fun e w'' => e = .returned v ∧ ∃ m, w'' = w.drewN (a + m) :=
  h.mono fun _ _ ⟨he, hm⟩ => ⟨he, n, hm.symm⟩

/-- The reader in its block: the bytes, the place, the width. -/
structure Rd (w : World) (br : Nat) (v : Value) (i : Nat) (wd : Int) : Prop where
  c0 : w.cell? ⟨br, 0, none⟩ = some v
  c1 : w.cell? ⟨br, 1, none⟩ = some (.int .i64 i)
  c2 : w.cell? ⟨br, 2, none⟩ = some (.int .i64 wd)
  f1 : w.frozen? ⟨br, 1, none⟩ = false

def TakeYes (n : Nat) (br : Nat) (v : Value) (wd : Int) (i : Nat) (l : List UInt8) (w : World) (e : Ending) (w' : World) : Prop :=
  ∃ v', e = .returned (.tuple #[v', .int .i64 0]) ∧ Bytes n w' v' l ∧ Rd w' br v i wd ∧ Below n w w'

theorem take_fin {n br : Nat} {v v' : Value} {wd : Int} {j : Int} {l : List UInt8} {w : World} {vi : Value} (hn : n ≤ br) (hv : Bytes n w v' l)
    (hr : w.cell? ⟨br, 0, none⟩ = some v ∧ w.cell? ⟨br, 1, none⟩ = some vi ∧ w.cell? ⟨br, 2, none⟩ = some (.int .i64 wd) ∧ w.frozen? ⟨br, 1, none⟩ = false) (k : Nat) {m : Nat} (hm : (m : Int) = j) :
    Bytes n ((w.drewN k).setCell ⟨br, 1, none⟩ (.int .i64 j)) v' l ∧ Rd ((w.drewN k).setCell ⟨br, 1, none⟩ (.int .i64 j)) br v m wd ∧ Below n w ((w.drewN k).setCell ⟨br, 1, none⟩ (.int .i64 j)) := by
  obtain ⟨c0, c1, c2, f1⟩ := hr
  subst hm
  have hb : Below n w (w.drewN k) := ⟨rfl, rfl, rfl, Nat.le_refl _, fun _ _ => rfl⟩
  have hb2 := hb.setCell (p := ⟨br, 1, none⟩) hn (.int .i64 m)
  refine ⟨hv.below hb2, ⟨?_, ?_, ?_, ?_⟩, hb2⟩
  · exact (World.cell?_setCell_other (w.drewN k) _ _ _ (by simp)).trans c0
  · exact World.cell?_setCell_same (w.drewN k) _ _ (u := vi) c1
  · exact (World.cell?_setCell_other (w.drewN k) _ _ _ (by simp)).trans c2
  · exact (World.frozen?_setCell (w.drewN k) _ _ _).trans f1

end Go.Proofs.YtleihmmkonakhaaDoor
namespace Go.Proofs.YtleihmmkonakhaaDoor
open Go.RowKit

theorem one_byte {n : Nat} {w : World} {v : Value} {x : UInt8} (h : Bytes n w v [x]) : ∃ b off cap, v = .slice (some ⟨b, off, none⟩) 1 cap ∧ w.cell? ⟨b, off, none⟩ = some (.int .u8 x.toNat) := by
  obtain ⟨ao, cap, rfl, h1, h2, h3⟩ := h
  obtain ⟨b, off, rfl, _, hc⟩ := h3 (by simp)
  exact ⟨b, off, cap, rfl, hc 0 (by simp)⟩

theorem rdF_bad {k acc : Nat} {b : UInt8} {r : List UInt8} (h : (0 < k ∧ b.toNat = 0) ∨ (k = 9 ∧ 1 < b.toNat)) : rdF k acc (b :: r) = (0, 0, 111) := by rw [rdF, if_pos h]
theorem rdF_end {k acc : Nat} {b : UInt8} {r : List UInt8} (h : ¬ ((0 < k ∧ b.toNat = 0) ∨ (k = 9 ∧ 1 < b.toNat))) (h2 : b.toNat < 128) : rdF k acc (b :: r) = (acc + b.toNat * 128 ^ k, k + 1, 0) := by rw [rdF, if_neg h, if_pos h2]
theorem rdF_on {k acc : Nat} {b : UInt8} {r : List UInt8} (h : ¬ ((0 < k ∧ b.toNat = 0) ∨ (k = 9 ∧ 1 < b.toNat))) (h2 : ¬ b.toNat < 128) : rdF k acc (b :: r) = rdF (k + 1) (acc + b.toNat % 128 * 128 ^ k) r := by rw [rdF, if_neg h, if_neg h2]
theorem drop_atB {l : List UInt8} {k : Nat} (h : k < l.length) : l.drop k = l.getD k 0 :: l.drop (k + 1) := by
  rw [List.drop_eq_getElem_cons h]; simp [h]

/-- What the reader's 'number' leaves. -/
def NumPostF (n br : Nat) (v : Value) (wd : Int) (l : List UInt8) (w : World) (e : Ending) (w' : World) : Prop :=
  e = .returned (.tuple #[.int .u64 ((rdN l).1 : Nat), .int .i64 (rdN l).2.2]) ∧ (∃ i, Rd w' br v i wd ∧ ((rdN l).2.2 = 0 → i = (rdN l).2.1) ∧ i ≤ l.length) ∧ Below n w w'

theorem num_close_bad {n br k acc i : Nat} {v : Value} {wd : Int} {l : List UInt8} {x : UInt8} {w w1 w2 : World} (hD : rdF k acc (l.drop k) = rdN l) (hX : l.drop k = x :: l.drop (k + 1))
    (h : (0 < k ∧ x.toNat = 0) ∨ (k = 9 ∧ 1 < x.toNat)) (hr : Rd w2 br v i wd) (hi : i ≤ l.length) (h1 : Below n w w1) (h2 : Below n w1 w2) :
    NumPostF n br v wd l w (.returned (.tuple #[.int .u64 0, .int .i64 111])) w2 := by
  have e : rdN l = (0, 0, 111) := by rw [← hD, hX, rdF_bad h]
  refine ⟨by rw [e]; rfl, ⟨i, hr, fun h0 => ?_, hi⟩, h1.trans h2⟩
  rw [e] at h0; simp at h0
theorem num_close_end {n br k acc : Nat} {v : Value} {wd : Int} {l : List UInt8} {x : UInt8} {w w1 w2 : World} {val : Int} (hD : rdF k acc (l.drop k) = rdN l) (hX : l.drop k = x :: l.drop (k + 1))
    (h : ¬ ((0 < k ∧ x.toNat = 0) ∨ (k = 9 ∧ 1 < x.toNat))) (hx : x.toNat < 128) (hv : val = ((acc + x.toNat * 128 ^ k : Nat) : Int)) (hr : Rd w2 br v (k + 1) wd) (hi : k < l.length) (h1 : Below n w w1) (h2 : Below n w1 w2) :
    NumPostF n br v wd l w (.returned (.tuple #[.int .u64 val, .int .i64 0])) w2 := by
  have e : rdN l = (acc + x.toNat * 128 ^ k, k + 1, 0) := by rw [← hD, hX, rdF_end h hx]
  refine ⟨by rw [e, hv], ⟨k + 1, hr, fun _ => by rw [e], by omega⟩, h1.trans h2⟩
theorem num_close_none {n br k acc i : Nat} {v : Value} {wd : Int} {l : List UInt8} {w w1 w2 : World} (hD : rdF k acc (l.drop k) = rdN l) (hX : l.length ≤ k)
    (hr : Rd w2 br v i wd) (hi : i ≤ l.length) (h1 : Below n w w1) (h2 : Below n w1 w2) :
    NumPostF n br v wd l w (.returned (.tuple #[.int .u64 0, .int .i64 110])) w2 := by
  have e : rdN l = (0, 0, 110) := by rw [← hD, List.drop_eq_nil_of_le hX]; rfl
  refine ⟨by rw [e]; rfl, ⟨i, hr, fun h0 => ?_, hi⟩, h1.trans h2⟩
  rw [e] at h0; simp at h0
theorem num_on {k acc : Nat} {l : List UInt8} {x : UInt8} (hD : rdF k acc (l.drop k) = rdN l) (hX : l.drop k = x :: l.drop (k + 1))
    (h : ¬ ((0 < k ∧ x.toNat = 0) ∨ (k = 9 ∧ 1 < x.toNat))) (hx : ¬ x.toNat < 128) : rdF (k + 1) (acc + x.toNat % 128 * 128 ^ k) (l.drop (k + 1)) = rdN l := by
  rw [← hD, hX, rdF_on h hx]
theorem acc_on {k acc x : Nat} (ha : acc < 128 ^ k) : acc + x % 128 * 128 ^ k < 128 ^ (k + 1) := by
  rw [Nat.pow_succ]
  have : x % 128 * 128 ^ k ≤ 127 * 128 ^ k := Nat.mul_le_mul_right _ (by omega)
  omega
theorem or_mod (a k : Nat) (x : UInt8) (hk : k ≤ 9) (ha : a < 128 ^ k) (h9 : k = 9 → x.toNat ≤ 1) :
    bits .or .u64 (a : Int) (IntKind.u64.wrap ((x.toNat : Int) % 128 * 2 ^ (7 * k))) = ((a + x.toNat % 128 * 128 ^ k : Nat) : Int) := by
  have := or_shl7 a (x.toNat % 128) k hk ha (by omega) (by omega)
  rwa [Int.natCast_emod] at this
theorem or_end (a k : Nat) (x : UInt8) (hk : k ≤ 9) (ha : a < 128 ^ k) (h9 : k = 9 → x.toNat ≤ 1) (hx : x.toNat < 128) :
    bits .or .u64 (a : Int) (IntKind.u64.wrap ((x.toNat : Int) % 128 * 2 ^ (7 * k))) = ((a + x.toNat * 128 ^ k : Nat) : Int) := by
  rw [or_mod a k x hk ha h9, Nat.mod_eq_of_lt hx]
theorem or_nine (a : Nat) (x : UInt8) (ha : a < 128 ^ 9) (hx : x.toNat ≤ 1) :
    bits .or .u64 (a : Int) ((x.toNat : Int) % 128 * 9223372036854775808) = ((a + x.toNat * 128 ^ 9 : Nat) : Int) := by
  have h := or_end a 9 x (by omega) ha (fun _ => hx) (by omega)
  have e : (2 : Int) ^ (7 * 9) = 9223372036854775808 := by decide
  rw [e] at h
  rwa [IntKind.wrap_u64, Int.emod_eq_of_lt (by omega) (by omega)] at h

end Go.Proofs.YtleihmmkonakhaaDoor
namespace Go.Proofs.YtleihmmkonakhaaDoor
open Go.RowKit

def rfE (l : List UInt8) (x : Int) : Int := if isW x then (if l.length < x.toNat then 110 else 0) else 2
def rfN (l : List UInt8) (x : Int) : Nat := if rfE l x = 0 then unB (l.take x.toNat) else 0

def ReadPost (n br : Nat) (v : Value) (wd : Int) (val : Nat) (err : Int) (m : Nat → Prop) (w : World) (e : Ending) (w' : World) : Prop :=
  e = .returned (.tuple #[.int .u64 val, .int .i64 err]) ∧ (∃ i, Rd w' br v i wd ∧ m i) ∧ Below n w w'

/-- What a read hands back: the thing and how many bytes, or the error alone. -/
def ReadU (val : Nat) (err : Int) (m : Nat → Prop) (w : World) (e : Ending) (w' : World) : Prop :=
  ∃ i, m i ∧ e = .returned (.tuple #[.int .u64 (if err = 0 then val else 0 : Nat), .int .i64 (if err = 0 then i else 0 : Nat), .int .i64 err]) ∧ Adds w w'

end Go.Proofs.YtleihmmkonakhaaDoor
namespace Go.Proofs.YtleihmmkonakhaaDoor
open Go.RowKit

theorem number_fin {w wr w1 : World} {v : Value} {pre : List UInt8} {m n : Nat} (hp : pre ++ numB m = numB n) (hm : m < 128) (ho : OwnB w1 w.heap.size v (pre ++ [UInt8.ofNat m])) (h1 : Below w.heap.size w wr) (h2 : Below w.heap.size wr w1) :
    GivesB (numB n) (fun v => v) w (.returned v) w1 := by
  rw [← hp, numB_lt hm]
  exact ⟨v, rfl, ho, h1.trans h2⟩
theorem number_step {pre : List UInt8} {m n : Nat} (hp : pre ++ numB m = numB n) (hm : ¬ m < 128) : (pre ++ [UInt8.ofNat (m % 128 + 128)]) ++ numB (m / 128) = numB n := by
  rw [← hp, numB_ge hm, List.append_assoc, List.singleton_append]
theorem number_room {pre : List UInt8} {m n : Nat} (hp : pre ++ numB m = numB n) (hl : (numB n).length ≤ 10) : pre.length + 1 ≤ 10 := by
  have h2 := numB_pos m
  rw [← hp, List.length_append] at hl
  omega

theorem lit1 (w : World) (z : Int) (b : UInt8) (hz : z = b.toNat) : OwnB (w.alloc (.cells #[.int .u8 z] 5)) w.heap.size (.slice (some ⟨w.heap.size, 0, none⟩) 1 1) [b] := by
  subst hz
  exact OwnB.lit w [b] (by simp [maxLen])
theorem below_alloc (w : World) (o : Obj) : Below w.heap.size w (w.alloc o) := (Below.refl _ _).alloc (Nat.le_refl _) _
end Go.Proofs.YtleihmmkonakhaaDoor
namespace Go.Proofs.YtleihmmkonakhaaDoor
open Go.RowKit

theorem row_fin {w wr : World} {x n : Nat} (hown : wr.ownsRow w.heap.size 5 1 (.slice (some ⟨w.heap.size, 0, none⟩) x x) x (rowK x x n)) : OwnB wr w.heap.size (.slice (some ⟨w.heap.size, 0, none⟩) x x) (leB x n) := by
  rw [rowK_end] at hown
  simpa [OwnB, leB_length] using hown
theorem row_start (w : World) (x n : Nat) (hx : x ≤ 8) : (w.alloc (.cells (madeCells #[.int .u8 0] x) 5)).ownsRow w.heap.size 5 1 (.slice (some ⟨w.heap.size, 0, none⟩) x x) x (rowK x 0 n) := by
  have := World.ownsRow_lit (size := 1) (e := 5) w (madeCells #[.int .u8 0] x) x (Nat.le_refl _) (by unfold maxLen; omega) (by rw [size_madeCells]; omega)
  rw [madeCells_toList] at this
  simpa [rowK, leB] using this

set_option maxRecDepth 100000 in
set_option maxHeartbeats 2000000 in
theorem refFixed_any (n : Nat) (hu : U64 n) (x : Int) (w : World) :
    Calls Tryd.prog 36 #[.int .u64 n, .int .i64 x] w (GivesB (fixB n x) (fun v => .tuple #[v, .int .i64 (fixE n x)]) w) := by
  cases h : isW x with
  | false =>
    have e1 : fixE n x = 2 := by simp [fixE, h]
    have e2 : fixB n x = [] := by simp [fixB, e1]
    rw [e1, e2]; clear e1 e2
    have H := Lib.hid h; clear h
    go_enter Tryd.func36, Tryd.ntmps36
    go_wp2_with (go_at_call 48; refine (right_any _ _).mono ?_; rintro e w' ⟨rfl, rfl⟩; rw [H.out])
    go_ret2
    exact ⟨.slice none 0 0, rfl, OwnB.nil _ _, Adds.refl _⟩
  | true =>
    obtain ⟨k, rfl, hk⟩ := isW_nat h
    have HU := Lib.hid hu; clear hu
    by_cases hn : n < 256 ^ k
    · have e1 : fixE n k = 0 := by simp [fixE, h, hn]
      have e2 : fixB n k = leB k n := by simp [fixB, e1]
      rw [e1, e2]; clear e1 e2
      have H := Lib.hid h; clear h
      have HN := Lib.hid hn; clear hn
      have hmk := run_mk k (by omega)
      go_enter Tryd.func36, Tryd.ntmps36
      go_wp2_with (go_at_call 48; refine (right_any _ _).mono ?_; rintro e w' ⟨rfl, rfl⟩; rw [H.out])
      clear hmk
      go_loopw [0, 7] (fun a i wr => ∃ j : Nat, j ≤ k ∧ i = .int .i64 j ∧ a = .int .u64 ((n / 256 ^ j : Nat) : Int) ∧ wr.ownsRow w.heap.size 5 1 (.slice (some ⟨w.heap.size, 0, none⟩) k k) k (rowK k j n) ∧ Below w.heap.size w wr) (fun _ i _ => k - (intOf i).toNat)
      case atStart => exact ⟨0, Nat.zero_le _, rfl, by simp, row_start w k n hk, below_alloc _ _⟩
      case round =>
        obtain ⟨j, hj, rfl, rfl, hown, hb⟩ := hrel
        by_cases hlt : j < k
        · have hc : wr.cell? ⟨w.heap.size, j, none⟩ = some (.int .u8 0) := by rw [hown.cellAt j (by omega), rowK_at k j n hlt]
          have hf := hown.frozenAt j
          have HO := Lib.hid hown; clear hown
          have hdle : n / 256 ^ j ≤ n := Nat.div_le_self _ _
          obtain ⟨m, hm⟩ : ∃ m, n / 256 ^ j = m := ⟨_, rfl⟩
          rw [hm] at hdle ⊢
          have HM := Lib.hid hm; clear hm
          have hwr : IntKind.u64.wrap ((m : Int) / 256) = (m : Int) / 256 := u64_in (a := m / 256) (by have := HU.out; unfold U64 at this; omega)
          clear hdle
          go_wp2
          go_roundw
          case rel =>
            refine ⟨j + 1, by omega, by go_num, int_eq (by rw [← div256, HM.out]; omega), ?_, hb.setCell (by simp) _⟩
            have := (HO.out.stored j (.int .u8 ((m % 256 : Nat) : Int))).1
            rw [← HM.out, rowK_set k j n hlt, HM.out] at this
            exact this
          case measure => simp [intOf]; omega
        · obtain rfl : j = k := by omega
          have HO := Lib.hid (row_fin hown); clear hown
          have hz : n / 256 ^ j = 0 := Nat.div_eq_of_lt HN.out
          rw [hz]
          clear hz
          go_wp2
          go_ret2
          exact ⟨.slice (some ⟨w.heap.size, 0, none⟩) j j, rfl, HO.out, hb⟩
    · have e1 : fixE n k = 4 := by simp [fixE, h, hn]
      have e2 : fixB n k = [] := by simp [fixB, e1]
      rw [e1, e2]; clear e1 e2
      have H := Lib.hid h; clear h
      have HN := Lib.hid hn; clear hn
      have hmk := run_mk k (by omega)
      go_enter Tryd.func36, Tryd.ntmps36
      go_wp2_with (go_at_call 48; refine (right_any _ _).mono ?_; rintro e w' ⟨rfl, rfl⟩; rw [H.out])
      clear hmk
      go_loopw [0, 7] (fun a i wr => ∃ j : Nat, j ≤ k ∧ i = .int .i64 j ∧ a = .int .u64 ((n / 256 ^ j : Nat) : Int) ∧ wr.ownsRow w.heap.size 5 1 (.slice (some ⟨w.heap.size, 0, none⟩) k k) k (rowK k j n) ∧ Below w.heap.size w wr) (fun _ i _ => k - (intOf i).toNat)
      case atStart => exact ⟨0, Nat.zero_le _, rfl, by simp, row_start w k n hk, below_alloc _ _⟩
      case round =>
        obtain ⟨j, hj, rfl, rfl, hown, hb⟩ := hrel
        by_cases hlt : j < k
        · have hc : wr.cell? ⟨w.heap.size, j, none⟩ = some (.int .u8 0) := by rw [hown.cellAt j (by omega), rowK_at k j n hlt]
          have hf := hown.frozenAt j
          have HO := Lib.hid hown; clear hown
          have hdle : n / 256 ^ j ≤ n := Nat.div_le_self _ _
          obtain ⟨m, hm⟩ : ∃ m, n / 256 ^ j = m := ⟨_, rfl⟩
          rw [hm] at hdle ⊢
          have HM := Lib.hid hm; clear hm
          have hwr : IntKind.u64.wrap ((m : Int) / 256) = (m : Int) / 256 := u64_in (a := m / 256) (by have := HU.out; unfold U64 at this; omega)
          clear hdle
          go_wp2
          go_roundw
          case rel =>
            refine ⟨j + 1, by omega, by go_num, int_eq (by rw [← div256, HM.out]; omega), ?_, hb.setCell (by simp) _⟩
            have := (HO.out.stored j (.int .u8 ((m % 256 : Nat) : Int))).1
            rw [← HM.out, rowK_set k j n hlt, HM.out] at this
            exact this
          case measure => simp [intOf]; omega
        · obtain rfl : j = k := by omega
          have HO := Lib.hid (row_fin hown); clear hown
          obtain ⟨m, hm⟩ : ∃ m, n / 256 ^ j = m := ⟨_, rfl⟩
          have hm0 : 0 < m := by rw [← hm]; exact Nat.div_pos (Nat.le_of_not_lt HN.out) (Nat.pow_pos (by decide))
          rw [hm]
          clear hm
          go_wp2
          go_ret2
          exact ⟨.slice none 0 0, rfl, OwnB.nil _ _, hb⟩

theorem unB_step (l : List UInt8) (k i : Nat) (y : UInt8) (hi : i < k) (hk : k ≤ l.length) (h8 : k ≤ 8) (hy : l.getD i 0 = y) :
    IntKind.u64.wrap (IntKind.u64.wrap (256 * (unB ((l.take k).drop (i + 1)) : Int)) + (y.toNat : Int)) = (unB ((l.take k).drop i) : Int) := by
  have hl : i < (l.take k).length := by simp; omega
  have e : (l.take k).drop i = y :: (l.take k).drop (i + 1) := by
    rw [List.drop_eq_getElem_cons hl]
    congr 1
    rw [← hy]; simp [List.getElem_take, List.getD_eq_getElem?_getD, List.getElem?_eq_getElem (show i < l.length by omega)]
  have hlt := unB_lt ((l.take k).drop i)
  have hp : 256 ^ ((l.take k).drop i).length ≤ 256 ^ 8 := Nat.pow_le_pow_right (by decide) (by simp; omega)
  have h2 : (256 : Nat) ^ 8 = 18446744073709551616 := by decide
  have hlt2 := Nat.lt_of_lt_of_le hlt hp
  rw [e] at hlt2 ⊢
  clear hlt hp e
  simp only [unB] at hlt2 ⊢
  have h3 : y.toNat + 256 * unB ((l.take k).drop (i + 1)) < 18446744073709551616 := by omega
  rw [IntKind.wrap_u64, IntKind.wrap_u64]
  omega

end Go.Proofs.YtleihmmkonakhaaDoor
