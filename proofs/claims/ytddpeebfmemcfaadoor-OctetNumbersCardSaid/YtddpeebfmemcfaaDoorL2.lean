/- The law OctetNumbers, walked. -/
import Derived.Test.YtddpeebfmemcfaaDoorLoose
import Derived.Test.YtddpeebfmemcfaaDoorL1
import Derived.Test.YtddpeebfmemcfaaDoorW9
namespace Go.Proofs.YtddpeebfmemcfaaDoor
open Go.RowKit

theorem slice_pre (ao : Option Addr) (len cap m : Nat) (hm : m ≤ cap) (w : World) :
    (Instr.slice 23 (.slice ao len cap) none (some (.int .i64 (m : Int))) none).run Tryd.prog w = .ok (.slice ao m cap) w := by
  have h := run_slice_h (P := Tryd.prog) w 23 ao len cap (by kernel_rfl) .i64 m (by omega) (by omega)
  rw [h]
  have hs : (sizeOf (Tryd.prog.elem 23)).run Tryd.prog w = .ok 1 w := by
    obtain ⟨i0, hi, hz0, hz1, hz2⟩ := info_parts info8
    have e : Tryd.prog.elem 23 = 5 := by kernel_rfl
    rw [e]
    simp [sizeOf, typeInfo, hi, hz1]
  rw [hs]
  simp only [Result.andThen, sliced, Int.toNat_natCast, Nat.zero_mul, Nat.sub_zero]
  have ea : ao.map (·.add 0) = ao := by cases ao <;> simp [Addr.add]
  rw [ea]
  split <;> rfl
theorem bytes_pre {n : Nat} {w : World} {ao : Option Addr} {len cap : Nat} {l : List UInt8} (h : Bytes n w (.slice ao len cap) l) (m : Nat) (hm : m ≤ l.length) : Bytes n w (.slice ao m cap) (l.take m) := by
  obtain ⟨ao', cap', e, e1, e2, e3⟩ := h
  simp only [Value.slice.injEq] at e
  obtain ⟨rfl, rfl, rfl⟩ := e
  have hl : (l.take m).length = m := by simp; omega
  refine ⟨ao, cap, by rw [hl], by rw [hl]; omega, e2, fun hne => ?_⟩
  have hlt : 0 < m := by rw [← hl]; exact List.length_pos_iff.2 hne
  obtain ⟨b, off, rfl, hbn, hc⟩ := e3 (by rintro rfl; simp at hm; omega)
  refine ⟨b, off, rfl, hbn, fun i hi => ?_⟩
  rw [hl] at hi
  rw [hc i (by omega)]
  simp [List.getElem?_take, hi]

theorem rdN_split (l : List UInt8) : ∃ (y m : Nat) (er : Int), rdN l = (y, m, er) ∧ ((er = 0 ∧ m ≤ l.length ∧ l.take m = numB y ∧ U64 y) ∨ er ≠ 0) := by
  rcases rdN_cases l with ⟨y, m, h⟩ | h | h
  · obtain ⟨a, _, b, c⟩ := rdN_back h
    exact ⟨y, m, 0, h, .inl ⟨rfl, a, b, c⟩⟩
  · exact ⟨0, 0, 110, h, .inr (by decide)⟩
  · exact ⟨0, 0, 111, h, .inr (by decide)⟩

set_option maxRecDepth 100000 in
set_option maxHeartbeats 4000000 in
theorem law_numbers {nb : Nat} (n : Nat) (hn : U64 n) (v : Value) (l : List UInt8) (w : World) (hv : Bytes nb w v l) (hw : Widths w) :
    Calls Tryd.prog 4 #[.int .u64 n, v] w (TrueAdds w) := by
  obtain ⟨ao, cap, rfl, h1, h2, h3⟩ := id hv
  have HV := Lib.hid hv; clear hv h3
  have HW := Lib.hid hw; clear hw
  have HU := Lib.hid hn; clear hn
  obtain ⟨i0, hi, hz0, hz1, hz2⟩ := info_parts info8
  unfold maxLen at h2
  by_cases hlen : 200 < l.length
  · have HK := Lib.hid (works_any w HW.out)
    go_enter Tryd.func4, Tryd.ntmps4
    go_wp2_with (go_at_call 8; refine HK.out.mono ?_; rintro e w1 ⟨rfl, a1⟩; have A1 := Lib.hid a1; clear a1)
    go_ret
    exact ⟨rfl, A1.out⟩
  · have RN := Lib.hid (rdN_numB n l HU.out)
    have hl10 := numB_length10 HU.out
    go_enter Tryd.func4, Tryd.ntmps4
    go_wp2_with fail
    refine (number_new n HU.out _).mono ?_
    rintro e w1 ⟨v1, rfl, o1, a1⟩
    have A1 := Lib.hid a1; clear a1
    obtain ⟨g, cap1, rfl, _, _⟩ := o1.form (List.length_pos_iff.1 (numB_pos _))
    have O1 := Lib.hid o1.bytes; clear o1
    have HE := Lib.hid (own_empty w1)
    have BA := Lib.hid (below_alloc w1 (.cells #[] 5))
    go_wp2_with (first
      | (at_builtin; refine wp_append_bytes rfl (.tmp 22) (.tmp 23) rfl w1.heap.size _ [] rfl (by exact HE.out) _ (numB n) _ rfl (by exact O1.out.below BA.out) (by simp; omega) (by simp) ?_; intro v5 w5 o5 b5; have O5 := Lib.hid o5; clear o5; have B5 := Lib.hid (BA.out.trans b5); clear b5)
      | (at_builtin; refine wp_append_bytes rfl (.tmp 24) (.tmp 25) rfl w1.heap.size _ ([] ++ numB n) rfl (by exact O5.out) _ l _ rfl (by exact (bytes_adds HV.out A1.out).below B5.out) (by rw [List.nil_append]; omega) (by exact B5.out.size) ?_; intro v6 w6 o6 b6; have O6 := Lib.hid o6; clear o6; have B6 := Lib.hid (B5.out.trans b6); clear b6))
    have A6 := Lib.hid (A1.out.trans B6.out)
    have O1' := Lib.hid (O1.out.adds B6.out); clear O1
    refine (readNumber_any v6 (numB n ++ l) _ O6.out.bytes).mono ?_
    rw [RN.out]
    rintro e w7 ⟨rfl, a7⟩
    have A7 := Lib.hid (A6.out.trans a7)
    have O1 := Lib.hid (O1'.out.adds a7); clear O1' a7
    go_wp2_with fail
    refine (readNumber_any _ l _ (bytes_adds HV.out A7.out)).mono ?_
    rintro e w8 ⟨rfl, a8⟩
    have A8 := Lib.hid (A7.out.trans a8)
    have O1' := Lib.hid (O1.out.adds a8); clear O1 a8
    go_wp2_with fail
    refine (refReadNumber_any _ l _ (bytes_adds HV.out A8.out)).mono ?_
    rintro e w9 ⟨rfl, rfl⟩
    obtain ⟨y, m, er, hr, hcase⟩ := rdN_split l
    rw [hr]
    have HCASE := Lib.hid hcase; clear hcase hr
    go_wp2_with fail
    have S1 : Hid (∀ w', Adds w8.drew w' → (convert 23 9 (.slice (some ⟨g, 0, none⟩) (numB n).length cap1)).run Tryd.prog w' = .ok (.string (str (numB n))) w') := fun w' h => strAt (O1'.out.adds ((Adds.drew _).trans h))
    refine wp_region_loose [46] (fun _ u w => Bytes w.heap.size w u (numB n)) Adds (by kernel_rfl) (by kernel_rfl) (by simp [Act.put]) Adds.refl (fun _ _ _ h k => h.trans k) (fun _ _ _ _ h k => k.adds h) ?_
    repeat (refine wpL_step (fun K hK => ?_); first
      | (refine stepL_ex rfl rfl rfl Adds.refl (fun w' hw' => rfl) ?_; go_simp; refine hK _ ?_; clear hK K)
      | (refine stepL_ex (v := .bool false) rfl rfl rfl Adds.refl ?_ ?_; (· (intro w' hw'; clear hK; go_simp)); go_simp; refine hK _ ?_; clear hK K)
      | (refine stepL_ex (v := .string (str (numB n))) rfl rfl rfl Adds.refl ?_ ?_; (· (intro w' hw'; clear hK; have hS := S1.out w' hw'; go_simp)); go_simp; refine hK _ ?_; clear hK K)
      | (refine stepL_key (f := 17) (args := #[.int .u64 n]) 46 rfl rfl rfl rfl ?_ (fun w' hw' => (refNumber_any n HU.out w').mono fun e w2 ⟨u, he, ho, ha⟩ => ⟨u, he, ho.bytes, ha⟩) ?_; (· (intro w'; clear hK; go_simp)); refine hK _ ?_; clear hK K)
      | (refine stepL_ex1 (v := .string (str (numB n))) rfl rfl Adds.refl ?_ ?_; (· (intro w' u hw' hu; refine ⟨rfl, ?_⟩; clear hK; have hS := strAt hu; go_simp)); go_simp; refine hK _ ?_; clear hK K)
      | (refine stepL_ex (v := .int .i64 (numB n).length) rfl rfl rfl Adds.refl ?_ ?_; (· (intro w' hw'; clear hK; go_simp)); go_simp; refine hK _ ?_; clear hK K)
      | (refine stepL_call (v := .int .i64 0) (f := 13) (args := #[.int .i64 0]) rfl rfl rfl ?_ (fun w' hw' => (num_any _ w').mono fun e w2 ⟨he, hw2⟩ => ⟨he, hw2 ▸ Adds.refl _⟩) ?_; (· (intro w'; clear hK; go_simp)); go_simp; refine hK _ ?_; clear hK K)
      | (refine stepL_call (v := .int .i64 er) (f := 13) (args := #[.int .i64 er]) rfl rfl rfl ?_ (fun w' hw' => (num_any _ w').mono fun e w2 ⟨he, hw2⟩ => ⟨he, hw2 ▸ Adds.refl _⟩) ?_; (· (intro w'; clear hK; go_simp)); go_simp; refine hK _ ?_; clear hK K))
    refine wpL_nil ?_
    intro w10 a10
    simp only [forL]
    intro u hu
    have A10 := Lib.hid (A8.out.trans ((Adds.drew _).trans a10)); clear a10 hu S1
    go_wp2_with fail
    rcases HCASE.out with ⟨rfl, hml, htk, hy⟩ | hne
    · have HTK := Lib.hid htk; clear htk
      have HY := Lib.hid hy; clear hy
      have HB := Lib.hid (fun (w' : World) (h : Adds w10.drew w') => (bytes_pre (bytes_adds HV.out (A10.out.trans ((Adds.drew _).trans h))) m hml))
      have hmc : m ≤ cap := by omega
      have hsl := slice_pre ao l.length cap m hmc
      refine wp_region_loose [85] (fun _ u w => Bytes w.heap.size w u (numB y)) Adds (by kernel_rfl) (by kernel_rfl) (by simp [Act.put]) Adds.refl (fun _ _ _ h k => h.trans k) (fun _ _ _ _ h k => k.adds h) ?_
      repeat (refine wpL_step (fun K hK => ?_); first
        | (refine stepL_ex rfl rfl rfl Adds.refl (fun w' hw' => rfl) ?_; go_simp; refine hK _ ?_; clear hK K)
        | (refine stepL_ex (v := .bool false) rfl rfl rfl Adds.refl ?_ ?_; (· (intro w' hw'; clear hK; go_simp)); go_simp; refine hK _ ?_; clear hK K)
        | (refine stepL_ex (v := .bool true) rfl rfl rfl Adds.refl ?_ ?_; (· (intro w' hw'; clear hK; go_simp)); go_simp; refine hK _ ?_; clear hK K)
        | (refine stepL_key (f := 14) (args := #[.int .u64 y]) 85 rfl rfl rfl rfl ?_ (fun w' hw' => (number_new y HY.out w').mono fun e w2 ⟨u, he, ho, ha⟩ => ⟨u, he, ho.bytes, ha⟩) ?_; (· (intro w'; clear hK; go_simp)); refine hK _ ?_; clear hK K)
        | (refine stepL_ex1 (v := .string (str (numB y))) rfl rfl Adds.refl ?_ ?_; (· (intro w' u hw' hu; refine ⟨rfl, ?_⟩; clear hK; have hS := strAt hu; go_simp)); go_simp; refine hK _ ?_; clear hK K)
        | (refine stepL_ex (v := .slice ao m cap) rfl rfl rfl Adds.refl ?_ ?_; (· (intro w' hw'; clear hK; go_simp)); go_simp; refine hK _ ?_; clear hK K)
        | (refine stepL_ex (v := .string (str (numB y))) rfl rfl rfl Adds.refl ?_ ?_; (· (intro w' hw'; clear hK; have hS := strAt (HB.out w' hw'); rw [HTK.out] at hS; go_simp)); go_simp; refine hK _ ?_; clear hK K)
        | (refine stepL_call (v := .bool true) (f := 8) (args := #[]) rfl rfl rfl ?_ (fun w' hw' => (works_any w' (HW.out.adds (A10.out.trans ((Adds.drew _).trans hw')))).mono fun e w2 h => h) ?_; (· (intro w'; clear hK; go_simp)); go_simp; refine hK _ ?_; clear hK K))
      refine wpL_nil ?_
      intro w11 a11
      simp only [forL]
      intro u hu
      have A11 := Lib.hid (A10.out.trans ((Adds.drew _).trans a11)); clear a11 hu
      go_wp2
      go_ret
      exact ⟨rfl, A11.out⟩
    · have hne1 : (er != 0) = true := by simpa using hne
      have hne2 : (er == 0) = false := by simpa using hne
      clear hne
      refine wp_region_loose [] (fun _ _ _ => True) Adds (by kernel_rfl) (by kernel_rfl) (by simp [Act.put]) Adds.refl (fun _ _ _ h k => h.trans k) (fun _ _ _ _ _ _ => trivial) ?_
      repeat (refine wpL_step (fun K hK => ?_); first
        | (refine stepL_ex rfl rfl rfl Adds.refl (fun w' hw' => rfl) ?_; go_simp; refine hK _ ?_; clear hK K)
        | (refine stepL_skip rfl rfl rfl ?_; go_simp; refine hK _ ?_; clear hK K)
        | (refine stepL_ex (v := .bool true) rfl rfl rfl Adds.refl ?_ ?_; (· (intro w' hw'; clear hK; go_simp)); go_simp; refine hK _ ?_; clear hK K)
        | (refine stepL_call (v := .bool true) (f := 8) (args := #[]) rfl rfl rfl ?_ (fun w' hw' => (works_any w' (HW.out.adds (A10.out.trans ((Adds.drew _).trans hw')))).mono fun e w2 h => h) ?_; (· (intro w'; clear hK; go_simp)); go_simp; refine hK _ ?_; clear hK K))
      refine wpL_nil ?_
      intro w11 a11
      simp only [forL]
      have A11 := Lib.hid (A10.out.trans ((Adds.drew _).trans a11)); clear a11
      go_wp2
      go_ret
      exact ⟨rfl, A11.out⟩
end Go.Proofs.YtddpeebfmemcfaaDoor
