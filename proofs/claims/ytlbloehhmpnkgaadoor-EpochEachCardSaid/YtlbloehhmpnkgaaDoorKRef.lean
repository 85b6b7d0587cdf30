/- Contracts of the document's own answers on epochs. -/
import Derived.Test.YtlbloehhmpnkgaaDoorKFmt
import Derived.Test.YtlbloehhmpnkgaaDoorKF2
import Derived.OpenShut
namespace Go.Proofs.YtlbloehhmpnkgaaDoor
open Go Go.RowKit

set_option maxHeartbeats 400000 in
theorem num3_any (x : Int) (w : World) :
    Calls Tryd.prog 27 #[.int .i64 x] w fun e w' => e = .returned (.int .i64 x) ∧ w = w' := by
  go_enter Tryd.func27, Tryd.ntmps27
  go_wp2
  go_ret
  exact ⟨rfl, rfl⟩

set_option maxHeartbeats 400000 in
theorem refPack_yes (i c : Nat) (hi : i < 65536) (hc : c < 281474976710656) (w : World) :
    Calls Tryd.prog 24 #[.int .i64 i, .int .u64 c] w fun e w' => e = .returned (.tuple #[.int .u64 (epN i c : Nat), .int .i64 0]) ∧ w = w' := by
  obtain ⟨x, hx⟩ : ∃ x : Int, (i : Int) = x := ⟨_, rfl⟩
  obtain ⟨y, hy⟩ : ∃ y : Int, (c : Int) = y := ⟨_, rfl⟩
  obtain ⟨z, hz⟩ : ∃ z : Int, ((epN i c : Nat) : Int) = z := ⟨_, rfl⟩
  rw [hx, hy, hz]
  have h0 : 0 ≤ x := by omega
  have h1 : x ≤ 65535 := by omega
  have h2 : y ≤ 281474976710655 := by omega
  have h3 : x * 281474976710656 + y = z := by rw [← hz]; unfold epN; omega
  have h4 : 0 ≤ y := by omega
  clear hx hy hz hi hc
  go_enter Tryd.func24, Tryd.ntmps24
  go_wp2
  go_ret2
  exact ⟨rfl, rfl⟩

set_option maxHeartbeats 400000 in
theorem refPack_no (x : Int) (c : Nat) (h : ¬ (0 ≤ x ∧ x ≤ 65535 ∧ c < 281474976710656)) (w : World) :
    Calls Tryd.prog 24 #[.int .i64 x, .int .u64 c] w fun e w' => e = .returned (.tuple #[.int .u64 0, .int .i64 2]) ∧ w = w' := by
  obtain ⟨y, hy⟩ : ∃ y : Int, (c : Int) = y := ⟨_, rfl⟩
  rw [hy]
  by_cases h1 : x < 0
  · clear h hy
    go_enter Tryd.func24, Tryd.ntmps24
    go_wp2
    go_ret2
    exact ⟨rfl, rfl⟩
  · by_cases h2 : 65535 < x
    · have h0 : 0 ≤ x := by omega
      clear h hy h1
      go_enter Tryd.func24, Tryd.ntmps24
      go_wp2
      go_ret2
      exact ⟨rfl, rfl⟩
    · have h0 : 0 ≤ x := by omega
      have h3 : x ≤ 65535 := by omega
      have h4 : 281474976710655 < y := by omega
      clear h hy h1 h2
      go_enter Tryd.func24, Tryd.ntmps24
      go_wp2
      go_ret2
      exact ⟨rfl, rfl⟩

set_option maxHeartbeats 400000 in
theorem refParts_int (x a : Int) (h0 : 0 ≤ x) (ha : x / 281474976710656 = a) (h1 : 0 ≤ a) (h2 : a ≤ 65535) (w : World) :
    Calls Tryd.prog 26 #[.int .u64 x] w fun e w' => e = .returned (.tuple #[.int .i64 a, .int .u64 (x % 281474976710656)]) ∧ w = w' := by
  go_enter Tryd.func26, Tryd.ntmps26
  go_wp2
  go_ret2
  exact ⟨rfl, rfl⟩
theorem refParts_any (e : Nat) (he : e < 18446744073709551616) (w : World) :
    Calls Tryd.prog 26 #[.int .u64 e] w fun x w' => x = .returned (.tuple #[.int .i64 (eI e : Nat), .int .u64 (eC e : Nat)]) ∧ w = w' := by
  have h := refParts_int (e : Int) ((eI e : Nat) : Int) (by omega) (eI_cast e) (by omega) (by have := eI_lt he; omega) w
  have h2 : ((e : Int) % 281474976710656) = ((eC e : Nat) : Int) := by unfold eC; omega
  rw [h2] at h
  exact h

set_option maxHeartbeats 400000 in
theorem refNext_arg (e n : Nat) (h : ¬ (1 ≤ n ∧ n < 281474976710656)) (w : World) :
    Calls Tryd.prog 31 #[.int .u64 e, .int .u64 n] w fun x w' => x = .returned (.tuple #[.int .u64 0, .int .i64 2]) ∧ w = w' := by
  obtain ⟨y, hy⟩ : ∃ y : Int, (n : Int) = y := ⟨_, rfl⟩
  rw [hy]
  by_cases h1 : y < 1
  · clear h hy
    go_enter Tryd.func31, Tryd.ntmps31
    go_wp2
    go_ret2
    exact ⟨rfl, rfl⟩
  · have h2 : 281474976710655 < y := by omega
    have h3 : 1 ≤ y := by omega
    clear h hy h1
    go_enter Tryd.func31, Tryd.ntmps31
    go_wp2
    go_ret2
    exact ⟨rfl, rfl⟩

set_option maxHeartbeats 400000 in
theorem refNext_full (e n : Nat) (he : e < 18446744073709551616) (h0 : 1 ≤ n) (h1 : n < 281474976710656) (h : n ≤ eC e) (w : World) :
    Calls Tryd.prog 31 #[.int .u64 e, .int .u64 n] w fun x w' => x = .returned (.tuple #[.int .u64 0, .int .i64 130]) ∧ w = w' := by
  have HK := Lib.hid (refParts_any e he)
  obtain ⟨a, c, ha, hc⟩ := gets e
  obtain ⟨y, hy⟩ : ∃ y : Int, (n : Int) = y := ⟨_, rfl⟩
  rw [← ha, ← hc] at HK
  rw [hy]
  have g0 : 1 ≤ y := by omega
  have g1 : y ≤ 281474976710655 := by omega
  have g2 : y ≤ c := by omega
  clear ha hc hy h0 h1 h he
  go_enter Tryd.func31, Tryd.ntmps31
  go_wp2_with (go_at_call 26; refine (HK.out _).mono ?_; rintro e w1 ⟨rfl, rfl⟩)
  go_ret2
  exact ⟨rfl, rfl⟩

set_option maxHeartbeats 400000 in
theorem refNext_yes (e n : Nat) (he : e < 18446744073709551616) (h0 : 1 ≤ n) (h1 : n < 281474976710656) (h : eC e < n) (w : World) :
    Calls Tryd.prog 31 #[.int .u64 e, .int .u64 n] w fun x w' => x = .returned (.tuple #[.int .u64 (e + 1 : Nat), .int .i64 0]) ∧ w = w' := by
  have HK := Lib.hid (refParts_any e he)
  have hlt : e + 1 < 18446744073709551616 := by unfold eC at h; omega
  obtain ⟨a, c, ha, hc⟩ := gets e
  obtain ⟨y, hy⟩ : ∃ y : Int, (n : Int) = y := ⟨_, rfl⟩
  obtain ⟨x, hx⟩ : ∃ x : Int, (e : Int) = x := ⟨_, rfl⟩
  obtain ⟨z, hz⟩ : ∃ z : Int, ((e + 1 : Nat) : Int) = z := ⟨_, rfl⟩
  have hw : IntKind.u64.wrap (x + 1) = z := by rw [IntKind.wrap_u64]; omega
  rw [← ha, ← hc, hx] at HK
  rw [hy, hx, hz]
  have g0 : 1 ≤ y := by omega
  have g1 : y ≤ 281474976710655 := by omega
  have g2 : c < y := by omega
  clear ha hc hy h0 h1 h he hx hz hlt
  go_enter Tryd.func31, Tryd.ntmps31
  go_wp2_with (go_at_call 26; refine (HK.out _).mono ?_; rintro e w1 ⟨rfl, rfl⟩)
  go_ret2
  exact ⟨rfl, rfl⟩

theorem str_size' (l : List UInt8) : (str l).size = l.length := by simp [str, ByteArray.size]
theorem str_app (a b : List UInt8) : str a ++ str b = str (a ++ b) := by
  apply ByteArray.ext; simp [str]
set_option maxHeartbeats 400000 in
theorem refText_any (e : Nat) (he : e < 18446744073709551616) (w : World) (hv : EpVars w) :
    Calls Tryd.prog 35 #[.int .u64 e] w fun x w' => x = .returned (.string (str (txtE e))) ∧ Below w.heap.size w w' := by
  have HK := Lib.hid (refParts_any e he)
  have HI := Lib.hid (itoa_any (eI e) (by have := eI_lt he; omega) w hv.tab)
  have HF := Lib.hid (fun W (h : Below w.heap.size w W) => fmtU_any (eC e) (by have := eC_lt e; omega) W (hv.below h).tab)
  obtain ⟨a, c, ha, hc⟩ := gets e
  obtain ⟨s1, hs1⟩ : ∃ s, decS (eI e) = s := ⟨_, rfl⟩
  obtain ⟨s2, hs2⟩ : ∃ s, decS (eC e) = s := ⟨_, rfl⟩
  obtain ⟨t, ht⟩ : ∃ t, str (txtE e) = t := ⟨_, rfl⟩
  rw [← ha, ← hc] at HK
  rw [← ha, hs1] at HI
  rw [← hc, hs2] at HF
  have hcat : s1 ++ (⟨#[64]⟩ : ByteArray) ++ s2 = t := by
    rw [← hs1, ← hs2, ← ht]
    show str _ ++ str [64] ++ str _ = _
    rw [str_app, str_app]
    congr 1
    unfold txtE eI eC
    simp
  have hz1 : s1.size ≤ 20 := by rw [← hs1]; show (str _).size ≤ 20; rw [str_size']; exact dec_le20 _ (by have := eI_lt he; omega)
  have hz2 : s2.size ≤ 20 := by rw [← hs2]; show (str _).size ≤ 20; rw [str_size']; exact dec_le20 _ (by have := eC_lt e; omega)
  rw [ht]
  clear ha hc hs1 hs2 ht he hv
  go_enter Tryd.func35, Tryd.ntmps35
  go_wp2_with (first
    | (go_at_call 26; refine (HK.out _).mono ?_; rintro e w1 ⟨rfl, rfl⟩)
    | (go_at_call 63; refine HI.out.mono ?_; rintro e w1 ⟨rfl, b1⟩; have A1 := Lib.hid b1; clear b1)
    | (go_at_call 64; refine (HF.out _ A1.out).mono ?_; rintro e w2 ⟨rfl, b2⟩; have A2 := Lib.hid (A1.out.trans (b2.mono A1.out.size)); clear b2))
  go_ret
  exact ⟨rfl, A2.out⟩

/-- Digits as the document reads them. -/
def DigPost (l : List UInt8) (w : World) (e : Ending) (w' : World) : Prop := w = w' ∧ ((∃ n, dgs l = some n ∧ e = .returned (.tuple #[.int .u64 (n : Nat), .bool true])) ∨ (dgs l = none ∧ e = .returned (.tuple #[.int .u64 0, .bool false])))

theorem int_eq3 {k : IntKind} {a b : Int} (h : a = b) : Value.int k a = .int k b := by rw [h]
theorem dgsF_take (l : List UInt8) (k : Nat) (hk : k < l.length) (acc : Nat) (h : dgsF 0 (l.take k) = some acc) :
    dgsF 0 (l.take (k + 1)) = if 48 ≤ (l[k].toNat : Int) ∧ (l[k].toNat : Int) ≤ 57 ∧ (acc : Int) ≤ 281474976710655 then some (10 * acc + (l[k].toNat - 48)) else none := by
  rw [List.take_succ_eq_append_getElem hk, dgsF_append _ _ _ _ h]
  simp only [dgsF]
  by_cases c : 48 ≤ l[k].toNat ∧ l[k].toNat ≤ 57 ∧ acc ≤ 281474976710655
  · rw [if_pos c, if_pos (by omega)]
  · rw [if_neg c, if_neg (by omega)]
theorem dgsF_none (l : List UInt8) (k : Nat) (h : dgsF 0 (l.take k) = none) : dgsF 0 l = none := by
  have gen : ∀ (a b : List UInt8) (acc : Nat), dgsF acc a = none → dgsF acc (a ++ b) = none := by
    intro a
    induction a with
    | nil => intro b acc h; simp [dgsF] at h
    | cons x a ih =>
      intro b acc h
      simp only [List.cons_append, dgsF] at h ⊢
      split
      · rename_i c; rw [if_pos c] at h; exact ih b _ h
      · rfl
  have := gen (l.take k) (l.drop k) 0 h
  rwa [List.take_append_drop] at this

set_option maxHeartbeats 2000000 in
theorem digits_any (s : ByteArray) (w : World) (hs : s.size ≤ 9223372036854775807) :
    Calls Tryd.prog 62 #[.string s] w (DigPost s.data.toList w) := by
  go_enter Tryd.func62, Tryd.ntmps62
  go_wp2
  go_loop [4, 5] (fun n i => ∃ k a : Nat, k ≤ s.size ∧ i = .int .i64 k ∧ n = .int .u64 a ∧ dgsF 0 (s.data.toList.take k) = some a) (fun _ i => s.size - (intOf i).toNat)
  case atStart => exact ⟨0, 0, Nat.zero_le _, rfl, rfl, rfl⟩
  case round =>
    obtain ⟨k, a, hk, rfl, rfl, hd⟩ := hrel
    by_cases hlt : k < s.size
    · have hlt2 : k < s.data.toList.length := by rw [← Lib.size_eq]; exact hlt
      have hold := dgsF_take s.data.toList k hlt2 a hd
      have hstep : dgsF 0 (s.data.toList.take (k + 1)) = if 48 ≤ ((s[k]'hlt).toNat : Int) ∧ ((s[k]'hlt).toNat : Int) ≤ 57 ∧ (a : Int) ≤ 281474976710655 then some (10 * a + ((s[k]'hlt).toNat - 48)) else none := hold
      have hne : s.data.toList ≠ [] := by intro h; rw [h] at hlt2; simp at hlt2
      have bad : ¬ (48 ≤ ((s[k]'hlt).toNat : Int) ∧ ((s[k]'hlt).toNat : Int) ≤ 57 ∧ (a : Int) ≤ 281474976710655) → dgs s.data.toList = none := fun h => by
        rw [if_neg h] at hstep
        unfold dgs; rw [if_neg hne]; exact dgsF_none _ _ hstep
      have HS := Lib.hid hstep
      have HB := Lib.hid bad
      clear hstep hold hd hne bad hlt2
      by_cases c1 : (s[k].toNat : Int) < 48
      · go_wp2
        go_ret2
        exact ⟨rfl, .inr ⟨HB.out (by omega), rfl⟩⟩
      · by_cases c2 : 57 < (s[k].toNat : Int)
        · have c1' : 48 ≤ (s[k].toNat : Int) := by omega
          clear c1
          go_wp2
          go_ret2
          exact ⟨rfl, .inr ⟨HB.out (by omega), rfl⟩⟩
        · by_cases c3 : 281474976710655 < (a : Int)
          · have c1' : 48 ≤ (s[k].toNat : Int) := by omega
            have c2' : (s[k].toNat : Int) ≤ 57 := by omega
            clear c1 c2
            go_wp2
            go_ret2
            exact ⟨rfl, .inr ⟨HB.out (by omega), rfl⟩⟩
          · have c1' : 48 ≤ (s[k].toNat : Int) := by omega
            have c2' : (s[k].toNat : Int) ≤ 57 := by omega
            have c3' : (a : Int) ≤ 281474976710655 := by omega
            clear c1 c2 c3
            go_wp2
            go_round
            case rel => exact ⟨k + 1, 10 * a + (s[k].toNat - 48), by omega, by go_num, int_eq3 (by omega), by rw [HS.out, if_pos ⟨c1', c2', c3'⟩]⟩
            case measure => simp [intOf]; omega
    · obtain rfl : k = s.size := by omega
      have hd2 : dgsF 0 s.data.toList = some a := by rw [Lib.size_eq, List.take_length] at hd; exact hd
      by_cases h0 : s.size = 0
      · have hl : s.data.toList = [] := List.eq_nil_of_length_eq_zero (by rw [← Lib.size_eq]; exact h0)
        have hn : dgs s.data.toList = none := by unfold dgs; rw [if_pos hl]
        rw [hl] at hd2
        simp only [dgsF] at hd2
        injection hd2 with hd2
        have HN := Lib.hid hn
        have HA := Lib.hid hd2
        rw [h0]
        clear hd hl hn hd2
        go_wp2
        go_ret2
        exact ⟨rfl, .inr ⟨HN.out, by rw [← HA.out]; rfl⟩⟩
      · have hl : s.data.toList ≠ [] := by intro h; apply h0; rw [Lib.size_eq, h]; rfl
        have hn : dgs s.data.toList = some a := by unfold dgs; rw [if_neg hl]; exact hd2
        have HN := Lib.hid hn
        have hpos : 0 < s.size := by omega
        clear hd hl hn hd2 h0
        go_wp2
        go_ret2
        exact ⟨rfl, .inl ⟨a, HN.out, rfl⟩⟩
end Go.Proofs.YtlbloehhmpnkgaaDoor
