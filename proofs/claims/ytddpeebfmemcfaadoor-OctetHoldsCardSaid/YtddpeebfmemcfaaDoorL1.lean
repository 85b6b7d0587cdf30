/- The law OctetFixed, walked. -/
import Derived.Test.YtddpeebfmemcfaaDoorApp2
import Derived.Test.YtddpeebfmemcfaaDoorW8
import Derived.Test.YtddpeebfmemcfaaDoorW10
namespace Go.Proofs.YtddpeebfmemcfaaDoor
open Go.RowKit

theorem rf_of_leB {k n : Nat} (l : List UInt8) (h : isW k = true) (hn : n < 256 ^ k) : rfE (leB k n ++ l) k = 0 ∧ rfN (leB k n ++ l) k = n := by
  have e : rfE (leB k n ++ l) k = 0 := by simp [rfE, h, leB_length]
  refine ⟨e, ?_⟩
  unfold rfN
  rw [if_pos e]
  simp only [Int.toNat_natCast]
  have : (leB k n ++ l).take k = leB k n := by
    rw [List.take_append_of_le_length (by rw [leB_length]; exact Nat.le_refl _), List.take_of_length_le (by rw [leB_length]; exact Nat.le_refl _)]
  rw [this, unB_leB, Nat.mod_eq_of_lt hn]
theorem own_empty (w : World) : OwnB (w.alloc (.cells #[] 5)) w.heap.size (.slice (some ⟨w.heap.size, 0, none⟩) 0 0) [] := OwnB.lit w [] (by simp [maxLen])
theorem fixE_cases (n : Nat) (x : Int) : (fixE n x = 0 ∧ ∃ k : Nat, x = k ∧ k ≤ 8 ∧ isW k = true ∧ n < 256 ^ k ∧ fixB n x = leB k n) ∨ (fixE n x ≠ 0 ∧ fixB n x = []) := by
  by_cases h0 : fixE n x = 0
  · refine .inl ⟨h0, ?_⟩
    have hb : fixB n x = leB x.toNat n := by rw [fixB, if_pos h0]
    unfold fixE at h0
    split at h0
    · rename_i hw
      split at h0
      · rename_i hlt
        obtain ⟨k, rfl, hk⟩ := isW_nat hw
        exact ⟨k, rfl, hk, hw, by simpa using hlt, by simpa using hb⟩
      · simp at h0
    · simp at h0
  · exact .inr ⟨h0, by rw [fixB, if_neg h0]⟩

set_option maxRecDepth 100000 in
set_option maxHeartbeats 4000000 in
theorem law_fixed {nb : Nat} (n : Nat) (hn : U64 n) (x : Int) (v : Value) (l : List UInt8) (w : World) (hv : Bytes nb w v l) (hw : Widths w) :
    Calls Tryd.prog 3 #[.int .u64 n, .int .i64 x, v] w (TrueAdds w) := by
  obtain ⟨ao, cap, rfl, h1, h2, h3⟩ := id hv
  have HV := Lib.hid hv; clear hv h3
  have HW := Lib.hid hw; clear hw
  have HU := Lib.hid hn; clear hn
  obtain ⟨i0, hi, hz0, hz1, hz2⟩ := info_parts info8
  unfold maxLen at h2
  by_cases hlen : 200 < l.length
  · have HK := Lib.hid (works_any w HW.out)
    go_enter Tryd.func3, Tryd.ntmps3
    go_wp2_with (go_at_call 8; refine HK.out.mono ?_; rintro e w1 ⟨rfl, a1⟩; have A1 := Lib.hid a1; clear a1)
    go_ret
    exact ⟨rfl, A1.out⟩
  · have F1 := Lib.hid (fixed_any n x w HW.out)
    have F2 := Lib.hid (fun W => refFixed_any n HU.out x W)
    rcases fixE_cases n x with ⟨h0, k, rfl, hk, hwk, hnk, hb⟩ | ⟨h0, hb⟩
    · rw [h0, hb] at F1 F2
      clear h0 hb
      have RF := rf_of_leB l hwk hnk
      have RFE := Lib.hid RF.1
      have RFN := Lib.hid RF.2
      clear RF hnk
      have HWK := Lib.hid hwk; clear hwk
      go_enter Tryd.func3, Tryd.ntmps3
      go_wp2_with fail
      refine F1.out.mono ?_
      rintro e w1 ⟨v1, rfl, o1, a1⟩
      have A1 := Lib.hid a1; clear a1
      have O1 := Lib.hid o1.bytes; clear o1
      go_wp2_with fail
      refine (F2.out _).mono ?_
      rintro e w2 ⟨v2, rfl, o2, a2⟩
      have O1' := Lib.hid (O1.out.adds a2); clear O1
      have A2 := Lib.hid (A1.out.trans a2); clear a2
      have O2 := Lib.hid o2.bytes; clear o2
      go_wp2_with fail
      refine (readFixed_any _ l k _ (bytes_adds HV.out A2.out) (HW.out.adds A2.out)).mono ?_
      rintro e w3 ⟨rfl, a3⟩
      have O1 := Lib.hid (O1'.out.adds a3); clear O1'
      have O2' := Lib.hid (O2.out.adds a3); clear O2
      have A3 := Lib.hid (A2.out.trans a3); clear a3
      have S1 : (convert 23 9 v1).run Tryd.prog w3 = .ok (.string (str (leB k n))) w3 := strAt O1.out
      have S2 : (convert 23 9 v2).run Tryd.prog w3 = .ok (.string (str (leB k n))) w3 := strAt O2'.out
      go_wp2_with fail
      refine (refReadFixed_any _ l k _ (bytes_adds HV.out A3.out)).mono ?_
      rintro e w4 ⟨rfl, rfl⟩
      obtain ⟨rn, hrn⟩ : ∃ rn, rfN l k = rn := ⟨_, rfl⟩
      obtain ⟨re, hre⟩ : ∃ re, rfE l k = re := ⟨_, rfl⟩
      rw [hrn, hre]
      clear hrn hre
      have HE := Lib.hid (own_empty w3)
      have BA := Lib.hid (below_alloc w3 (.cells #[] 5))
      have hle := leB_length k n
      have HLE := Lib.hid hle; clear hle
      go_wp2_with (first
        | (go_at_call 13; refine (num_any _ _).mono ?_; rintro e w' ⟨rfl, rfl⟩)
        | (at_builtin; refine wp_append_bytes rfl (.tmp 71) (.tmp 72) rfl w3.heap.size _ [] rfl (by exact HE.out) _ (leB k n) _ rfl (by exact O1.out.below BA.out) (by rw [HLE.out]; simp; omega) (by simp) ?_; intro v5 w5 o5 b5; have O5 := Lib.hid o5; clear o5; have B5 := Lib.hid (BA.out.trans b5); clear b5)
        | (at_builtin; refine wp_append_bytes rfl (.tmp 73) (.tmp 74) rfl w3.heap.size _ ([] ++ leB k n) rfl (by exact O5.out) _ l _ rfl (by exact (bytes_adds HV.out A3.out).below B5.out) (by rw [List.nil_append, HLE.out]; omega) (by exact B5.out.size) ?_; intro v6 w6 o6 b6; have O6 := Lib.hid o6; clear o6; have B6 := Lib.hid (B5.out.trans b6); clear b6))
      have A6 := Lib.hid (A3.out.trans B6.out)
      refine (readFixed_any v6 (leB k n ++ l) k _ O6.out.bytes (HW.out.adds A6.out)).mono ?_
      rw [RFE.out, RFN.out]
      rintro e w7 ⟨rfl, a7⟩
      have A7 := Lib.hid (A6.out.trans a7); clear a7
      have HK := Lib.hid (works_any _ (HW.out.adds A7.out))
      go_wp2_with (first
        | (go_at_call 13; refine (num_any _ _).mono ?_; rintro e w' ⟨rfl, rfl⟩)
        | (go_at_call 8; refine HK.out.mono ?_; rintro e w8 ⟨rfl, a8⟩; have A8 := Lib.hid a8; clear a8))
      go_ret
      exact ⟨rfl, A7.out.trans A8.out⟩
    · have H0 := Lib.hid h0; clear h0
      rw [hb] at F1 F2
      have hne : (fixE n x == 0) = false := by simpa using H0.out
      obtain ⟨bad, hbad⟩ : ∃ bad, fixE n x = bad := ⟨_, rfl⟩
      rw [hbad] at F1 F2 hne
      clear hbad hb H0
      go_enter Tryd.func3, Tryd.ntmps3
      go_wp2_with fail
      refine F1.out.mono ?_
      rintro e w1 ⟨v1, rfl, o1, a1⟩
      have A1 := Lib.hid a1; clear a1
      have O1 := Lib.hid o1.bytes; clear o1
      go_wp2_with fail
      refine (F2.out _).mono ?_
      rintro e w2 ⟨v2, rfl, o2, a2⟩
      have O1' := Lib.hid (O1.out.adds a2); clear O1
      have A2 := Lib.hid (A1.out.trans a2); clear a2
      have O2 := Lib.hid o2.bytes; clear o2
      go_wp2_with fail
      refine (readFixed_any _ l x _ (bytes_adds HV.out A2.out) (HW.out.adds A2.out)).mono ?_
      rintro e w3 ⟨rfl, a3⟩
      have O1 := Lib.hid (O1'.out.adds a3); clear O1'
      have O2' := Lib.hid (O2.out.adds a3); clear O2
      have A3 := Lib.hid (A2.out.trans a3); clear a3
      have S1 : (convert 23 9 v1).run Tryd.prog w3 = .ok (.string ⟨#[]⟩) w3 := strAt O1.out
      have S2 : (convert 23 9 v2).run Tryd.prog w3 = .ok (.string ⟨#[]⟩) w3 := strAt O2'.out
      go_wp2_with fail
      refine (refReadFixed_any _ l x _ (bytes_adds HV.out A3.out)).mono ?_
      rintro e w4 ⟨rfl, rfl⟩
      obtain ⟨rn, hrn⟩ : ∃ rn, rfN l x = rn := ⟨_, rfl⟩
      obtain ⟨re, hre⟩ : ∃ re, rfE l x = re := ⟨_, rfl⟩
      rw [hrn, hre]
      clear hrn hre
      have HK := Lib.hid (works_any _ (HW.out.adds A3.out))
      go_wp2_with (first
        | (go_at_call 13; refine (num_any _ _).mono ?_; rintro e w' ⟨rfl, rfl⟩)
        | (go_at_call 8; refine HK.out.mono ?_; rintro e w5 ⟨rfl, a5⟩; have A5 := Lib.hid a5; clear a5))
      go_ret
      exact ⟨rfl, A3.out.trans A5.out⟩
end Go.Proofs.YtddpeebfmemcfaaDoor
