/- The document's own answers on sites: Right, Text, digits: contracts. -/
import Derived.Test.YtnhapmodgmkbjaaDoorSF6
namespace Go.Proofs.YtnhapmodgmkbjaaDoor
open Go Go.RowKit Go.Shelf Go.Sort

set_option maxRecDepth 100000 in
theorem refRight_any (s : Si) (w : World) : Calls Tryd.prog 11 #[siV s] w fun e w' => e = .returned (.bool (rightS s)) ∧ Gr w w' := by
  have hr := rightS_iff (s := s)
  obtain ⟨f, p⟩ := s
  simp only at hr
  by_cases h1 : 0 ≤ f
  · by_cases h2 : f < 32
    · by_cases h3 : 0 ≤ p
      · by_cases h4 : p < 512
        · rw [hr.2 ⟨h1, h2, h3, h4⟩]
          clear hr
          go_enter Tryd.func11, Tryd.ntmps11
          go_wp2
          go_ret
          exact ⟨rfl, Gr.new _ _⟩
        · rw [Bool.eq_false_iff.2 (fun h => h4 (hr.1 h).2.2.2)]
          clear hr
          go_enter Tryd.func11, Tryd.ntmps11
          go_wp2
          go_ret
          exact ⟨rfl, Gr.new _ _⟩
      · rw [Bool.eq_false_iff.2 (fun h => h3 (hr.1 h).2.2.1)]
        clear hr
        go_enter Tryd.func11, Tryd.ntmps11
        go_wp2
        go_ret
        exact ⟨rfl, Gr.new _ _⟩
    · rw [Bool.eq_false_iff.2 (fun h => h2 (hr.1 h).2.1)]
      clear hr
      go_enter Tryd.func11, Tryd.ntmps11
      go_wp2
      go_ret
      exact ⟨rfl, Gr.new _ _⟩
  · rw [Bool.eq_false_iff.2 (fun h => h1 (hr.1 h).1)]
    clear hr
    go_enter Tryd.func11, Tryd.ntmps11
    go_wp2
    go_ret
    exact ⟨rfl, Gr.new _ _⟩

set_option maxRecDepth 100000 in
set_option maxHeartbeats 2000000 in
theorem refText_nat (f p : Nat) (hf : f < 512) (hp : p < 512) (w : World) (hv : SVars w) :
    Calls Tryd.prog 13 #[.agg #[.int .i64 (f : Int), .int .i64 (p : Int)]] w fun e w' => e = .returned (.string (str (txtS ((f : Int), (p : Int))))) ∧ Gr w w' := by
  have hmx : Tryd.prog.follows .mixedOrders = true := by kernel_rfl
  have HIf := Lib.hid (fun n os => itoa7_any f (by omega) (grow ((w.alloc (.cells #[.int .i64 (f : Int), .int .i64 (p : Int)] 23)).drewN n) os) (hv.gr ((Gr.new w _).trans (Gr.grown _ n os))))
  have HIp := Lib.hid (fun n os => itoa7_any p (by omega) (grow ((w.alloc (.cells #[.int .i64 (f : Int), .int .i64 (p : Int)] 23)).drewN n) os) (hv.gr ((Gr.new w _).trans (Gr.grown _ n os))))
  obtain ⟨s1, hs1⟩ : ∃ s, str (Lib.decDigits f) = s := ⟨_, rfl⟩
  obtain ⟨s2, hs2⟩ : ∃ s, str (Lib.decDigits p) = s := ⟨_, rfl⟩
  have hz1 : s1.size ≤ 20 := by rw [← hs1, str_size]; exact dec_few f hf
  have hz2 : s2.size ≤ 20 := by rw [← hs2, str_size]; exact dec_few p hp
  have HX := Lib.hid (show ((⟨#[102]⟩ : ByteArray) ++ s1) ++ (⟨#[58]⟩ : ByteArray) ++ s2 = str (txtS ((f : Int), (p : Int))) by
    rw [← hs1, ← hs2]
    show str [102] ++ str _ ++ str [58] ++ str _ = _
    rw [str_app7, str_app7, str_app7]
    congr 1
    unfold txtS
    simp)
  rw [hs1] at HIf
  rw [hs2] at HIp
  have q1 : ¬ (9223372036854775807 < 1 + s1.size) := by omega
  have q2 : ¬ (9223372036854775807 < 1 + s1.size + 1) := by omega
  have q3 : ¬ (9223372036854775807 < 1 + s1.size + 1 + s2.size) := by omega
  clear hv hf hp hs1 hs2 hz1 hz2
  go_enter Tryd.func13, Tryd.ntmps13
  go_wp2_with fail
  obtain ⟨k0, hk0⟩ : ∃ k, w.heap.size = k := ⟨_, rfl⟩
  obtain ⟨w1, hw1⟩ : ∃ w1, w.alloc (.cells #[.int .i64 (f : Int), .int .i64 (p : Int)] 23) = w1 := ⟨_, rfl⟩
  have HG1 := Lib.hid (show Gr w w1 by rw [← hw1]; exact Gr.new _ _)
  have g0 := grc (show w1.cell? ⟨k0, 0, none⟩ = some (.int .i64 (f : Int)) by rw [← hw1, ← hk0]; simp)
  have g1 := grc (show w1.cell? ⟨k0, 1, none⟩ = some (.int .i64 (p : Int)) by rw [← hw1, ← hk0]; simp)
  rw [hw1] at HIf HIp ⊢
  rw [hk0]
  clear hw1 hk0
  go_quiet_grown (first | (go_at_call 24; exact Calls.grown_of (HIf.out _ _)) | (go_at_call 24; exact Calls.grown_of (HIp.out _ _)))
  have HW := Lib.hid (HG1.out.trans (Gr.grown w1 nq osq))
  simp only [Exit.then]
  go_simp
  go_wp2_with fail
  go_ret
  exact ⟨by rw [← HX.out]; rfl, HW.out⟩
theorem refText_any (s : Si) (h : rightS s = true) (w : World) (hv : SVars w) : Calls Tryd.prog 13 #[siV s] w fun e w' => e = .returned (.string (str (txtS s))) ∧ Gr w w' := by
  obtain ⟨f, p⟩ := s
  have hr := rightS_iff.1 h
  simp only at hr
  obtain ⟨f, rfl⟩ : ∃ n : Nat, f = n := ⟨f.toNat, by omega⟩
  obtain ⟨p, rfl⟩ : ∃ n : Nat, p = n := ⟨p.toNat, by omega⟩
  exact refText_nat f p (by omega) (by omega) w hv

/-- Digits as the document reads them. -/
def DigP7 (l : List UInt8) (w : World) (e : Ending) (w' : World) : Prop := w = w' ∧ ((∃ n, digR l = some n ∧ e = .returned (.tuple #[.int .i64 (n : Nat), .bool true])) ∨ (digR l = none ∧ e = .returned (.tuple #[.int .i64 0, .bool false])))

theorem int_eq7 {k : IntKind} {a b : Int} (h : a = b) : Value.int k a = .int k b := by rw [h]
theorem digF_take (l : List UInt8) (k : Nat) (hk : k < l.length) (acc : Nat) (h : digF 0 (l.take k) = some acc) :
    digF 0 (l.take (k + 1)) = if 48 ≤ (l[k].toNat : Int) ∧ (l[k].toNat : Int) ≤ 57 ∧ (acc : Int) ≤ 999 then some (10 * acc + (l[k].toNat - 48)) else none := by
  rw [List.take_succ_eq_append_getElem hk, digF_append _ _ _ _ h]
  simp only [digF]
  by_cases c : 48 ≤ l[k].toNat ∧ l[k].toNat ≤ 57 ∧ acc ≤ 999
  · rw [if_pos c, if_pos (by omega)]
  · rw [if_neg c, if_neg (by omega)]
theorem digF_none (l : List UInt8) (k : Nat) (h : digF 0 (l.take k) = none) : digF 0 l = none := by
  have gen : ∀ (a b : List UInt8) (acc : Nat), digF acc a = none → digF acc (a ++ b) = none := by
    intro a
    induction a with
    | nil => intro b acc h; simp [digF] at h
    | cons x a ih =>
      intro b acc h
      simp only [List.cons_append, digF] at h ⊢
      split
      · rename_i c; rw [if_pos c] at h; exact ih b _ h
      · rfl
  have := gen (l.take k) (l.drop k) 0 h
  rwa [List.take_append_drop] at this

set_option maxHeartbeats 2000000 in
theorem digits7_any (s : ByteArray) (w : World) (hs : s.size ≤ 9223372036854775807) :
    Calls Tryd.prog 27 #[.string s] w (DigP7 s.data.toList w) := by
  go_enter Tryd.func27, Tryd.ntmps27
  go_wp2
  go_loop [4, 5] (fun n i => ∃ k a : Nat, k ≤ s.size ∧ i = .int .i64 k ∧ n = .int .i64 a ∧ digF 0 (s.data.toList.take k) = some a) (fun _ i => s.size - (intOf i).toNat)
  case atStart => exact ⟨0, 0, Nat.zero_le _, rfl, rfl, rfl⟩
  case round =>
    obtain ⟨k, a, hk, rfl, rfl, hd⟩ := hrel
    by_cases hlt : k < s.size
    · have hlt2 : k < s.data.toList.length := by rw [← Lib.size_eq]; exact hlt
      have hold := digF_take s.data.toList k hlt2 a hd
      have hstep : digF 0 (s.data.toList.take (k + 1)) = if 48 ≤ ((s[k]'hlt).toNat : Int) ∧ ((s[k]'hlt).toNat : Int) ≤ 57 ∧ (a : Int) ≤ 999 then some (10 * a + ((s[k]'hlt).toNat - 48)) else none := hold
      have hne : s.data.toList ≠ [] := by intro h; rw [h] at hlt2; simp at hlt2
      have bad : ¬ (48 ≤ ((s[k]'hlt).toNat : Int) ∧ ((s[k]'hlt).toNat : Int) ≤ 57 ∧ (a : Int) ≤ 999) → digR s.data.toList = none := fun h => by
        rw [if_neg h] at hstep
        unfold digR; rw [if_neg hne]; exact digF_none _ _ hstep
      have HS := Lib.hid hstep
      have HB := Lib.hid bad
      clear hstep hold hd hne bad hlt2
      by_cases c1 : (s[k].toNat : Int) < 48
      · go_wp2
        go_ret2
        exact ⟨rfl, .inr ⟨HB.out (by omega), rfl⟩⟩
      · by_cases c2 : 57 < (s[k].toNat : Int)
        · have c1' : 48 ≤ (s[k].toNat : Int) := by omega
          clear c1
          go_wp2
          go_ret2
          exact ⟨rfl, .inr ⟨HB.out (by omega), rfl⟩⟩
        · by_cases c3 : 999 < (a : Int)
          · have c1' : 48 ≤ (s[k].toNat : Int) := by omega
            have c2' : (s[k].toNat : Int) ≤ 57 := by omega
            clear c1 c2
            go_wp2
            go_ret2
            exact ⟨rfl, .inr ⟨HB.out (by omega), rfl⟩⟩
          · have c1' : 48 ≤ (s[k].toNat : Int) := by omega
            have c2' : (s[k].toNat : Int) ≤ 57 := by omega
            have c3' : (a : Int) ≤ 999 := by omega
            clear c1 c2 c3
            go_wp2
            go_round
            case rel => exact ⟨k + 1, 10 * a + (s[k].toNat - 48), by omega, by go_num, int_eq7 (by omega), by rw [HS.out, if_pos ⟨c1', c2', c3'⟩]⟩
            case measure => simp [intOf]; omega
    · obtain rfl : k = s.size := by omega
      have hd2 : digF 0 s.data.toList = some a := by rw [Lib.size_eq, List.take_length] at hd; exact hd
      by_cases h0 : s.size = 0
      · have hl : s.data.toList = [] := List.eq_nil_of_length_eq_zero (by rw [← Lib.size_eq]; exact h0)
        have hn : digR s.data.toList = none := by unfold digR; rw [if_pos hl]
        rw [hl] at hd2
        simp only [digF] at hd2
        injection hd2 with hd2
        have HN := Lib.hid hn
        have HA := Lib.hid hd2
        rw [h0]
        clear hd hl hn hd2
        go_wp2
        go_ret2
        exact ⟨rfl, .inr ⟨HN.out, by rw [← HA.out]; rfl⟩⟩
      · have hl : s.data.toList ≠ [] := by intro h; apply h0; rw [Lib.size_eq, h]; rfl
        have hn : digR s.data.toList = some a := by unfold digR; rw [if_neg hl]; exact hd2
        have HN := Lib.hid hn
        have hpos : 0 < s.size := by omega
        clear hd hl hn hd2 h0
        go_wp2
        go_ret2
        exact ⟨rfl, .inl ⟨a, HN.out, rfl⟩⟩

end Go.Proofs.YtnhapmodgmkbjaaDoor
