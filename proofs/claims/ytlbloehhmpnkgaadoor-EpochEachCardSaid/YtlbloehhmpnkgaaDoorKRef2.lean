/- The document's way to read an epoch's text. -/
import Derived.Test.YtlbloehhmpnkgaaDoorKRef
import Derived.Test.YtlbloehhmpnkgaaDoorKParse
namespace Go.Proofs.YtlbloehhmpnkgaaDoor
open Go Go.RowKit

theorem at_cut (l : List UInt8) (k : Nat) (hk : k < l.length) (h : l[k].toNat = 64) (hno : ∀ j, (hj : j < k) → (l[j]'(by omega)).toNat ≠ 64) : Lib.cut l [64] = (l.take k, l.drop (k + 1), true) := by
  have e : l = l.take k ++ 64 :: l.drop (k + 1) := by
    have h1 : l[k] = 64 := UInt8.toNat.inj h
    rw [← h1, ← List.drop_eq_getElem_cons hk, List.take_append_drop]
  have hn : ∀ c ∈ l.take k, c ≠ 64 := by
    intro c hc e
    obtain ⟨j, hj, hjc⟩ := List.mem_iff_getElem.1 hc
    simp only [List.length_take] at hj
    rw [List.getElem_take] at hjc
    exact hno j (by omega) (by rw [hjc, e]; rfl)
  conv => lhs; rw [e]
  exact cut_at _ _ hn

theorem no_at_end (l : List UInt8) (x : Nat) (h : txtE x = l) (hno : ∀ j, (hj : j < l.length) → l[j].toNat ≠ 64) : False := by
  have : (64 : UInt8) ∈ l := by rw [← h]; unfold txtE; simp
  obtain ⟨j, hj, hjc⟩ := List.mem_iff_getElem.1 this
  exact hno j hj (by rw [hjc]; rfl)

/-- No mark ahead of place k. -/
def NoAt (s : ByteArray) (k : Nat) : Prop := ∀ j, (hj : j < s.size) → j < k → (s[j]'hj).toNat ≠ 64
theorem NoAt.zero (s : ByteArray) : NoAt s 0 := fun _ _ h => absurd h (Nat.not_lt_zero _)
theorem NoAt.succ {s : ByteArray} {k : Nat} (h : NoAt s k) (hk : k < s.size) (hc : (s[k]'hk).toNat ≠ 64) : NoAt s (k + 1) := fun j hj hjk => by
  rcases Nat.lt_or_ge j k with h1 | h1
  · exact h j hj h1
  · obtain rfl : j = k := by omega
    exact hc
theorem NoAt.cut {s : ByteArray} {k : Nat} (h : NoAt s k) (hk : k < s.size) (hc : (s[k]'hk).toNat = 64) : Lib.cut s.data.toList [64] = (s.data.toList.take k, s.data.toList.drop (k + 1), true) :=
  at_cut _ k (by rw [← Lib.size_eq]; exact hk) hc fun j hj => h j (by omega) hj
theorem NoAt.none {s : ByteArray} {x : Nat} (h : NoAt s s.size) (hx : txtE x = s.data.toList) : False :=
  no_at_end _ x hx fun j hj => h j (by rw [Lib.size_eq]; exact hj) (by rw [Lib.size_eq]; exact hj)

theorem dig_yes (s : ByteArray) (n : Nat) (h : dgs s.data.toList = some n) (hs : s.size ≤ 9223372036854775807) (w : World) :
    Calls Tryd.prog 62 #[.string s] w fun e w' => e = .returned (.tuple #[.int .u64 n, .bool true]) ∧ w = w' :=
  (digits_any s w hs).mono fun e w' ⟨h1, h2⟩ => by
    rcases h2 with ⟨m, h3, h4⟩ | ⟨h3, _⟩
    · rw [h] at h3; injection h3 with h3; subst h3; exact ⟨h4, h1⟩
    · rw [h] at h3; cases h3
theorem dig_no (s : ByteArray) (h : dgs s.data.toList = none) (hs : s.size ≤ 9223372036854775807) (w : World) :
    Calls Tryd.prog 62 #[.string s] w fun e w' => e = .returned (.tuple #[.int .u64 0, .bool false]) ∧ w = w' :=
  (digits_any s w hs).mono fun e w' ⟨h1, h2⟩ => by
    rcases h2 with ⟨m, h3, h4⟩ | ⟨_, h4⟩
    · rw [h] at h3; cases h3
    · exact ⟨h4, h1⟩
theorem ext_l (s : ByteArray) (k : Nat) : (s.extract 0 k).data.toList = s.data.toList.take k := by rw [Lib.extract_data]; simp
theorem ext_r (s : ByteArray) (k : Nat) : (s.extract k s.size).data.toList = s.data.toList.drop k := by
  rw [Lib.extract_data, Lib.size_eq]
  rw [List.take_of_length_le (by simp)]

set_option maxHeartbeats 2000000 in
theorem refParse_yes (s : ByteArray) (x : Nat) (hx : x < 18446744073709551616) (h : txtE x = s.data.toList) (w : World) (hv : EpVars w) :
    Calls Tryd.prog 34 #[.string s] w fun e w' => e = .returned (.tuple #[.int .u64 x, .int .i64 0]) ∧ Below w.heap.size w w' := by
  have hs : s.size ≤ 41 := by rw [Lib.size_eq, ← h]; exact txt_le x hx
  have HT := Lib.hid (refText_any x hx w hv)
  have HP := Lib.hid (refPack_yes (eI x) (eC x) (eI_lt hx) (eC_lt x))
  rw [epN_eIC] at HP
  have ht := str_eq h
  obtain ⟨t, hte⟩ : ∃ t, str (txtE x) = t := ⟨_, rfl⟩
  rw [hte] at HT ht
  have HX := Lib.hid h
  have HL := Lib.hid hx
  clear hte h hv hx
  go_enter Tryd.func34, Tryd.ntmps34
  go_wp2
  go_loop [4] (fun i => ∃ k : Nat, k ≤ s.size ∧ i = .int .i64 k ∧ NoAt s k) (fun i => s.size - (intOf i).toNat)
  case atStart => exact ⟨0, Nat.zero_le _, rfl, NoAt.zero s⟩
  case round =>
    obtain ⟨k, hk, rfl, hno⟩ := hrel
    have HN := Lib.hid hno; clear hno
    by_cases hlt : k < s.size
    · by_cases c : (s[k].toNat : Int) = 64
      · have hcut := HN.out.cut hlt (by omega)
        have hcx := cut_txt x
        rw [HX.out, hcut] at hcx
        injection hcx with e1 e2
        injection e2 with e2 _
        obtain ⟨a, d, ha, hd⟩ := gets x
        have H1 := Lib.hid (fun W => dig_yes (s.extract 0 k) (eI x) (by rw [ext_l, e1]; exact dgs_dec _ (by have := eI_lt HL.out; unfold eI at this; omega)) (by rw [Lib.size_eq, ext_l]; simp; omega) W)
        have H2 := Lib.hid (fun W => dig_yes (s.extract (k + 1) s.size) (eC x) (by rw [ext_r, e2]; exact dgs_dec _ (by have := eC_lt x; unfold eC at this; omega)) (by rw [Lib.size_eq, ext_r]; simp; omega) W)
        rw [← ha] at H1
        rw [← hd] at H2
        rw [← ha, ← hd] at HP
        have g0 : 0 ≤ a := by omega
        have g1 : a ≤ 65535 := by have := eI_lt HL.out; omega
        have g2 : 0 ≤ d := by omega
        have g3 : d ≤ 281474976710655 := by have := eC_lt x; omega
        clear hcut e1 e2 ha hd
        go_wp2_with fail
        refine (H1.out _).mono ?_
        rintro e w1 ⟨rfl, rfl⟩
        go_wp2_with fail
        refine (H2.out _).mono ?_
        rintro e w1 ⟨rfl, rfl⟩
        go_wp2_with (first
          | (go_at_call 24; refine (HP.out _).mono ?_; rintro e w1 ⟨rfl, rfl⟩)
          | (go_at_call 35; refine HT.out.mono ?_; rintro e w1 ⟨rfl, b1⟩; have A1 := Lib.hid b1; clear b1))
        go_ret2
        exact ⟨rfl, A1.out⟩
      · have c1 : ((s[k].toNat : Int) == 64) = false := by simpa using c
        have c2 : ((s[k].toNat : Int) != 64) = true := by simpa using c
        have HC := Lib.hid c; clear c
        go_wp2
        go_round
        case rel => exact ⟨k + 1, by omega, by go_num, HN.out.succ hlt (by have := HC.out; omega)⟩
        case measure => simp [intOf]; omega
    · exfalso
      obtain rfl : k = s.size := by omega
      exact HN.out.none HX.out

set_option maxHeartbeats 4000000 in
theorem refParse_none (s : ByteArray) (hs : s.size ≤ 1000) (h : ∀ x, x < 18446744073709551616 → txtE x ≠ s.data.toList) (w : World) (hv : EpVars w) :
    Calls Tryd.prog 34 #[.string s] w fun e w' => e = .returned (.tuple #[.int .u64 0, .int .i64 131]) ∧ Below w.heap.size w w' := by
  have HV := Lib.hid hv
  have HX := Lib.hid h
  clear h hv
  go_enter Tryd.func34, Tryd.ntmps34
  go_wp2
  go_loop [4] (fun i => ∃ k : Nat, k ≤ s.size ∧ i = .int .i64 k) (fun i => s.size - (intOf i).toNat)
  case atStart => exact ⟨0, Nat.zero_le _, rfl⟩
  case round =>
    obtain ⟨k, hk, rfl⟩ := hrel
    by_cases hlt : k < s.size
    · by_cases c : (s[k].toNat : Int) = 64
      · have hl1 : (s.extract 0 k).size ≤ 9223372036854775807 := by rw [Lib.size_eq, ext_l]; simp; omega
        have hl2 : (s.extract (k + 1) s.size).size ≤ 9223372036854775807 := by rw [Lib.size_eq, ext_r]; simp; omega
        cases h1 : dgs (s.extract 0 k).data.toList with
        | none =>
          have H1 := Lib.hid (dig_no _ h1 hl1)
          have H2 := Lib.hid (digits_any _ w hl2)
          clear h1 hl1 hl2
          go_wp2_with fail
          refine (H1.out _).mono ?_
          rintro e w1 ⟨rfl, rfl⟩
          go_wp2_with fail
          refine H2.out.mono ?_
          rintro e w1 ⟨rfl, (⟨n, _, rfl⟩ | ⟨_, rfl⟩)⟩
          all_goals
            go_wp2
            go_ret2
            exact ⟨rfl, Below.refl _ _⟩
        | some a =>
          have H1 := Lib.hid (dig_yes _ a h1 hl1)
          cases h2 : dgs (s.extract (k + 1) s.size).data.toList with
          | none =>
            have H2 := Lib.hid (dig_no _ h2 hl2)
            clear h1 h2 hl1 hl2
            go_wp2_with fail
            refine (H1.out _).mono ?_
            rintro e w1 ⟨rfl, rfl⟩
            go_wp2_with fail
            refine (H2.out _).mono ?_
            rintro e w1 ⟨rfl, rfl⟩
            go_wp2
            go_ret2
            exact ⟨rfl, Below.refl _ _⟩
          | some d =>
            have H2 := Lib.hid (dig_yes _ d h2 hl2)
            clear h1 h2 hl1 hl2
            by_cases m1 : 65535 < (a : Int)
            · go_wp2_with fail
              refine (H1.out _).mono ?_
              rintro e w1 ⟨rfl, rfl⟩
              go_wp2_with fail
              refine (H2.out _).mono ?_
              rintro e w1 ⟨rfl, rfl⟩
              go_wp2
              go_ret2
              exact ⟨rfl, Below.refl _ _⟩
            · by_cases m2 : 281474976710655 < (d : Int)
              · have m1' : (a : Int) ≤ 65535 := by omega
                clear m1
                go_wp2_with fail
                refine (H1.out _).mono ?_
                rintro e w1 ⟨rfl, rfl⟩
                go_wp2_with fail
                refine (H2.out _).mono ?_
                rintro e w1 ⟨rfl, rfl⟩
                go_wp2
                go_ret2
                exact ⟨rfl, Below.refl _ _⟩
              · have ha : a < 65536 := by omega
                have hd : d < 281474976710656 := by omega
                have HT := Lib.hid (refText_any (epN a d) (epN_lt ha hd) w HV.out)
                have HP := Lib.hid (refPack_yes a d ha hd)
                have ht := str_ne (HX.out (epN a d) (epN_lt ha hd))
                obtain ⟨t, hte⟩ : ∃ t, str (txtE (epN a d)) = t := ⟨_, rfl⟩
                rw [hte] at HT ht
                obtain ⟨x, hx⟩ : ∃ x : Int, (a : Int) = x := ⟨_, rfl⟩
                obtain ⟨y, hy⟩ : ∃ y : Int, (d : Int) = y := ⟨_, rfl⟩
                obtain ⟨z, hz⟩ : ∃ z : Int, ((epN a d : Nat) : Int) = z := ⟨_, rfl⟩
                rw [hx] at H1
                rw [hy] at H2
                rw [hx, hy, hz] at HP
                rw [hz] at HT
                have g0 : 0 ≤ x := by omega
                have g1 : x ≤ 65535 := by omega
                have g2 : 0 ≤ y := by omega
                have g3 : y ≤ 281474976710655 := by omega
                clear m1 m2 ha hd hx hy hz hte
                go_wp2_with fail
                refine (H1.out _).mono ?_
                rintro e w1 ⟨rfl, rfl⟩
                go_wp2_with fail
                refine (H2.out _).mono ?_
                rintro e w1 ⟨rfl, rfl⟩
                go_wp2_with (first
                  | (go_at_call 24; refine (HP.out _).mono ?_; rintro e w1 ⟨rfl, rfl⟩)
                  | (go_at_call 35; refine HT.out.mono ?_; rintro e w1 ⟨rfl, b1⟩; have A1 := Lib.hid b1; clear b1))
                go_ret2
                exact ⟨rfl, A1.out⟩
      · have c1 : ((s[k].toNat : Int) == 64) = false := by simpa using c
        have c2 : ((s[k].toNat : Int) != 64) = true := by simpa using c
        clear c
        go_wp2
        go_round
        case rel => exact ⟨k + 1, by omega, by go_num⟩
        case measure => simp [intOf]; omega
    · obtain rfl : k = s.size := by omega
      go_wp2
      go_ret2
      exact ⟨rfl, Below.refl _ _⟩
end Go.Proofs.YtlbloehhmpnkgaaDoor
