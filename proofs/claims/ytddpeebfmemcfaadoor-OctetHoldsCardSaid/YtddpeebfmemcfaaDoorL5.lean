/- The law OctetHolds, walked. -/
import Derived.Test.YtddpeebfmemcfaaDoorLoose
import Derived.Test.YtddpeebfmemcfaaDoorL3
import Derived.Lib.Strings
namespace Go.Proofs.YtddpeebfmemcfaaDoor
open Go.RowKit

theorem str_ne {a b : List UInt8} (h : a ≠ b) : ((str a).toList == (str b).toList) = false := by
  rw [Lib.toList_data, Lib.toList_data]
  simpa [str] using h
theorem pre_ne {a b : List UInt8} (h : b.take a.length ≠ a) : (((str b).extract 0 (str a).size).toList == (str a).toList) = false := by
  rw [Lib.toList_data, Lib.toList_data, Lib.extract_data]
  have e : (str a).size = a.length := rfl
  rw [e]
  simpa [str] using h
theorem num_split {a b : List UInt8} (e : b.take a.length = a) : a ++ b.drop a.length = b := by
  conv => lhs; lhs; rw [← e]
  exact List.take_append_drop _ _
theorem num_ne {m n : Nat} (hm : U64 m) (hn : U64 n) (h : m ≠ n) : ((str (numB m)).toList == (str (numB n)).toList) = false ∧ (((str (numB n)).extract 0 (str (numB m)).size).toList == (str (numB m)).toList) = false :=
  ⟨str_ne fun e => h (numB_inj hm hn e), pre_ne fun e => h (numB_free hm hn (r := (numB n).drop (numB m).length) (num_split e))⟩
theorem num_cases {m n : Nat} (hm : U64 m) (hn : U64 n) : m = n ∨
    ((((str (numB m)).toList == (str (numB n)).toList) = false ∧ (((str (numB n)).extract 0 (str (numB m)).size).toList == (str (numB m)).toList) = false ∧ ((m : Int) == n) = false ∧ ((m : Int) != n) = true) ∧ (str (numB m)).size ≤ (str (numB n)).size) ∨
    ((((str (numB m)).toList == (str (numB n)).toList) = false ∧ (((str (numB n)).extract 0 (str (numB m)).size).toList == (str (numB m)).toList) = false ∧ ((m : Int) == n) = false ∧ ((m : Int) != n) = true) ∧ ¬ (str (numB m)).size ≤ (str (numB n)).size) := by
  by_cases h : m = n
  · exact .inl h
  · have hz : ((m : Int) == n) = false := by rw [beq_eq_false_iff_ne]; omega
    have hz2 : ((m : Int) != n) = true := by rw [bne, hz]; rfl
    have hh := num_ne hm hn h
    by_cases hle : (str (numB m)).size ≤ (str (numB n)).size
    · exact .inr (.inl ⟨⟨hh.1, hh.2, hz, hz2⟩, hle⟩)
    · exact .inr (.inr ⟨⟨hh.1, hh.2, hz, hz2⟩, hle⟩)
theorem OwnB.adds {w w' : World} {b : Nat} {v : Value} {l : List UInt8} (h : OwnB w b v l) (ha : Adds w w') : OwnB w' b v l := h.below ha fun g hg => (World.ownsRow.lt h g hg).2
theorem slice_from (ao : Option Addr) (len cap i : Nat) (hi : i ≤ len) (w : World) :
    (Instr.slice 23 (.slice ao len cap) (some (.int .i64 (i : Int))) none none).run Tryd.prog w = .ok (.slice (if cap = i then ao else ao.map (·.add (i * 1))) (len - i) (cap - i)) w := by
  have h := run_slice_l (P := Tryd.prog) w 23 ao len cap (by kernel_rfl) .i64 i (by omega) (by omega)
  rw [h]
  have hs : (sizeOf (Tryd.prog.elem 23)).run Tryd.prog w = .ok 1 w := by
    obtain ⟨i0, hi, hz0, hz1, hz2⟩ := info_parts info8
    have e : Tryd.prog.elem 23 = 5 := by kernel_rfl
    rw [e]
    simp [sizeOf, typeInfo, hi, hz1]
  rw [hs]
  simp only [Result.andThen, sliced, Int.toNat_natCast]

set_option maxRecDepth 100000 in
set_option maxHeartbeats 8000000 in
theorem law_holds (m n : Nat) (hm : U64 m) (hn : U64 n) (s t : ByteArray) (w : World) (hw : Widths w) :
    Calls Tryd.prog 7 #[.agg #[.int .u64 m, .int .u64 n], .string s, .string t] w (TrueAdds w) := by
  have HW := Lib.hid hw; clear hw
  have Hm := Lib.hid hm; clear hm
  have Hn := Lib.hid hn; clear hn
  obtain ⟨i0, hi, hz0, hz1, hz2⟩ := info_parts info8
  have A0 := Lib.hid (adds_alloc w (.cells #[.int .u64 m, .int .u64 n] 54))
  by_cases hls : 300 < s.size
  · have HK := Lib.hid (fun W (hW : Adds w W) => works_any W (HW.out.adds hW))
    go_enter Tryd.func7, Tryd.ntmps7
    go_wp2_with fail
    go_quiet (fail)
    go_wp2_with (go_at_call 8; refine (HK.out _ (by exact A0.out.trans (Adds.drewN _ _))).mono ?_; rintro e w1 ⟨rfl, a1⟩; have A1 := Lib.hid ((A0.out.trans (Adds.drewN _ _)).trans a1); clear a1)
    go_ret
    exact ⟨rfl, A1.out⟩
  by_cases hlt : 300 < t.size
  · have HK := Lib.hid (fun W (hW : Adds w W) => works_any W (HW.out.adds hW))
    go_enter Tryd.func7, Tryd.ntmps7
    go_wp2_with fail
    go_quiet (fail)
    go_wp2_with (go_at_call 8; refine (HK.out _ (by exact A0.out.trans (Adds.drewN _ _))).mono ?_; rintro e w1 ⟨rfl, a1⟩; have A1 := Lib.hid ((A0.out.trans (Adds.drewN _ _)).trans a1); clear a1)
    go_ret
    exact ⟨rfl, A1.out⟩
  · go_enter Tryd.func7, Tryd.ntmps7
    go_wp2_with fail
    go_quiet (fail)
    go_wp2_with fail
    have A1 := Lib.hid (A0.out.trans (Adds.drewN _ nq))
    obtain ⟨W, hW⟩ : ∃ W, (w.alloc (.cells #[.int .u64 m, .int .u64 n] 54)).drewN nq = W := ⟨_, rfl⟩
    rw [hW] at A1 ⊢
    clear hW
    refine wp_region_loose [32, 35] (fun d u w => if d = 32 then Bytes w.heap.size w u (numB m) else Bytes w.heap.size w u (numB n)) Adds (by kernel_rfl) (by kernel_rfl) (by simp [Act.put]) Adds.refl (fun _ _ _ h k => h.trans k) (fun d _ _ _ h k => by split <;> rename_i hd <;> simp only [hd, if_true, if_false] at k <;> exact k.adds h) ?_
    repeat (refine wpL_step (fun K hK => ?_); first
      | (refine stepL_ex rfl rfl rfl Adds.refl (fun w' hw' => rfl) ?_; go_simp; refine hK _ ?_; clear hK K)
      | (refine stepL_key (f := 14) (args := #[.int .u64 m]) 32 rfl rfl rfl rfl ?_ (fun w' hw' => (number_new m Hm.out w').mono fun e w2 ⟨u, he, ho, ha⟩ => ⟨u, he, (by simpa using ho.bytes), ha⟩) ?_; (· (intro w'; clear hK; go_simp)); refine hK _ ?_; clear hK K)
      | (refine stepL_key (f := 14) (args := #[.int .u64 n]) 35 rfl rfl rfl rfl ?_ (fun w' hw' => (number_new n Hn.out w').mono fun e w2 ⟨u, he, ho, ha⟩ => ⟨u, he, (by simpa using ho.bytes), ha⟩) ?_; (· (intro w'; clear hK; go_simp)); refine hK _ ?_; clear hK K)
      | (refine stepL_ex1 (v := .string (str (numB m))) rfl rfl Adds.refl ?_ ?_; (· (intro w' u hw' hu; refine ⟨rfl, ?_⟩; clear hK; have hS := strAt (by simpa using hu); go_simp)); go_simp; refine hK _ ?_; clear hK K)
      | (refine stepL_ex1 (v := .string (str (numB n))) rfl rfl Adds.refl ?_ ?_; (· (intro w' u hw' hu; refine ⟨rfl, ?_⟩; clear hK; have hS := strAt (by simpa using hu); go_simp)); go_simp; refine hK _ ?_; clear hK K))
    refine wpL_nil ?_
    intro w10 a10
    simp only [forL]
    intro u hu u2 hu2
    have A10 := Lib.hid (A1.out.trans ((Adds.drew _).trans a10)); clear a10 hu hu2
    have HSs := Lib.hid (show s.size ≤ 65536 by omega)
    have HSt := Lib.hid (show t.size ≤ 65536 by omega)
    have htl := txt_len (s := s.data.toList) (by rw [str_len]; omega)
    have httl := txt_len (s := t.data.toList) (by rw [str_len]; omega)
    have RT := Lib.hid (rdT_txtB s.data.toList (txtB t.data.toList) (by rw [str_len]; omega))
    have RT2 := Lib.hid (rdT_txtB t.data.toList [] (by rw [str_len]; omega))
    obtain ⟨L1, hL1⟩ : ∃ L1, txtB s.data.toList = L1 := ⟨_, rfl⟩
    obtain ⟨L2, hL2⟩ : ∃ L2, txtB t.data.toList = L2 := ⟨_, rfl⟩
    rw [hL1] at htl RT
    rw [hL2] at httl RT RT2
    have HL1 := Lib.hid hL1; clear hL1
    have HL2 := Lib.hid hL2; clear hL2
    obtain ⟨htl1, htl2⟩ := htl
    obtain ⟨httl1, httl2⟩ := httl
    have HNE := Lib.hid (show ([] ++ L1 ++ L2 : List UInt8) ≠ [] from List.length_pos_iff.1 (by rw [List.nil_append, List.length_append]; omega))
    have HE := Lib.hid (own_empty w10)
    have BA := Lib.hid (below_alloc w10 (.cells #[] 5))
    rcases num_cases Hm.out Hn.out with rfl | ⟨⟨e1, e2, hne1, hne2⟩, hle⟩ | ⟨⟨e1, e2, hne1, hne2⟩, hle⟩
    all_goals
      go_wp2_with fail
      refine (text_new s HSs.out _).mono ?_
      rw [HL1.out]
      rintro e w11 ⟨v1, rfl, o1, a1⟩
      obtain ⟨g1, cap1, rfl, _, _⟩ := o1.form (List.length_pos_iff.1 htl2)
      have O1 := Lib.hid o1.bytes; clear o1
      have B11 := Lib.hid (Adds.trans BA.out a1)
      have HE1 := Lib.hid (HE.out.adds a1)
      clear a1
      go_wp2_with (first
        | (at_builtin; refine wp_append_bytes rfl (.tmp 64) (.tmp 66) rfl w10.heap.size _ [] rfl (by exact HE1.out) _ L1 _ rfl (by exact O1.out) (by simp; omega) (by exact B11.out.size) ?_; intro v5 w5 o5 b5; have O5 := Lib.hid o5; clear o5; have B5 := Lib.hid (Below.trans B11.out b5); clear b5))
      refine (text_new t HSt.out _).mono ?_
      rw [HL2.out]
      rintro e w13 ⟨v6, rfl, o6, a6⟩
      have O6 := Lib.hid o6.bytes; clear o6
      have O5' := Lib.hid (O5.out.adds a6)
      have B13 := Lib.hid (Below.trans B5.out (Below.mono a6 B5.out.size))
      clear a6 O5
      go_wp2_with (at_builtin; refine wp_append_bytes rfl (.tmp 67) (.tmp 69) rfl w10.heap.size _ ([] ++ L1) rfl (by exact O5'.out) _ L2 _ rfl (by exact O6.out) (by simp; omega) (by exact B13.out.size) ?_; intro v7 w14 o7 b7; obtain ⟨g7, cap7, rfl, _, _⟩ := OwnB.form o7 HNE.out; have O7 := Lib.hid (show Bytes w14.heap.size w14 (.slice (some ⟨g7, 0, none⟩) (L1.length + L2.length) cap7) (L1 ++ L2) by have hx := o7.bytes; rw [List.nil_append, List.length_append] at hx; exact hx); clear o7; have B14 := Lib.hid (Below.trans B13.out b7); clear b7)
      have A14 := Lib.hid (A10.out.trans B14.out)
      have HD := Lib.hid (show (L1 ++ L2).drop L1.length = L2 from List.drop_left)
      have hb := O7.out.sliced L1.length (L1.length + L2.length) cap7 (by omega) (Nat.le_refl _) (by obtain ⟨_, _, e, h1, _⟩ := O7.out; simp only [Value.slice.injEq] at e; omega) (Nat.le_refl _)
      rw [HD.out, List.take_of_length_le (by omega)] at hb
      have hsl := slice_from (some ⟨g7, 0, none⟩) (L1.length + L2.length) cap7 L1.length (by omega)
      obtain ⟨vp, hvp⟩ : ∃ vp, Value.slice (if cap7 = L1.length then some ⟨g7, 0, none⟩ else (some (⟨g7, 0, none⟩ : Addr)).map (·.add (L1.length * 1))) (L1.length + L2.length - L1.length) (cap7 - L1.length) = vp := ⟨_, rfl⟩
      rw [hvp] at hb hsl
      have HB := Lib.hid hb; clear hb hvp
      refine (readText_any _ (L1 ++ L2) _ O7.out).mono ?_
      unfold RtPost
      rw [RT.out, str_of]
      rintro e w15 ⟨rfl, a15⟩
      have HB2 := Lib.hid (HB.out.here.adds a15)
      have A15 := Lib.hid (A14.out.trans a15); clear a15
      have hsl2 := hsl w15
      clear hsl
      go_wp2_with (go_at_call 13; refine (num_any _ _).mono ?_; rintro e w' ⟨rfl, rfl⟩)
      refine (readText_any vp L2 _ HB2.out).mono ?_
      unfold RtPost
      rw [← List.append_nil L2, RT2.out, List.append_nil, str_of]
      rintro e w16 ⟨rfl, a16⟩
      have A16 := Lib.hid (A15.out.trans a16); clear a16
      have HWK := Lib.hid (works_any _ (HW.out.adds A16.out))
      go_wp2_with (first
        | (go_at_call 13; refine (num_any _ _).mono ?_; rintro e w' ⟨rfl, rfl⟩)
        | (go_at_call 8; refine HWK.out.mono ?_; rintro e w17 ⟨rfl, a17⟩; have A17 := Lib.hid (A16.out.trans a17); clear a17))
      go_ret
      exact ⟨rfl, A17.out⟩
end Go.Proofs.YtddpeebfmemcfaaDoor
