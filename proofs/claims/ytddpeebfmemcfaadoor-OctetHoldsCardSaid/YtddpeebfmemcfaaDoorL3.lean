/- The law OctetTexts, walked. -/
import Derived.Test.YtddpeebfmemcfaaDoorLoose
import Derived.Test.YtddpeebfmemcfaaDoorL1
import Derived.Test.YtddpeebfmemcfaaDoorT3
namespace Go.Proofs.YtddpeebfmemcfaaDoor
open Go.RowKit

theorem str_of (s : ByteArray) : str s.data.toList = s := by cases s; rfl
theorem txt_len {s : List UInt8} (h : s.length ≤ 300) : (txtB s).length ≤ 310 ∧ 0 < (txtB s).length := by
  have h1 := numB_length10 (n := s.length) (by omega)
  have h2 := numB_pos s.length
  unfold txtB
  rw [List.length_append]
  omega

set_option maxRecDepth 100000 in
set_option maxHeartbeats 4000000 in
theorem law_texts {nb : Nat} (s : ByteArray) (v : Value) (l : List UInt8) (w : World) (hv : Bytes nb w v l) (hw : Widths w) :
    Calls Tryd.prog 5 #[.string s, v] w (TrueAdds w) := by
  obtain ⟨ao, cap, rfl, h1, h2, h3⟩ := id hv
  have HV := Lib.hid hv; clear hv h3
  have HW := Lib.hid hw; clear hw
  obtain ⟨i0, hi, hz0, hz1, hz2⟩ := info_parts info8
  unfold maxLen at h2
  by_cases hls : 300 < s.size
  · have HK := Lib.hid (works_any w HW.out)
    go_enter Tryd.func5, Tryd.ntmps5
    go_wp2_with (go_at_call 8; refine HK.out.mono ?_; rintro e w1 ⟨rfl, a1⟩; have A1 := Lib.hid a1; clear a1)
    go_ret
    exact ⟨rfl, A1.out⟩
  by_cases hlen : 300 < l.length
  · have HK := Lib.hid (works_any w HW.out)
    go_enter Tryd.func5, Tryd.ntmps5
    go_wp2_with (go_at_call 8; refine HK.out.mono ?_; rintro e w1 ⟨rfl, a1⟩; have A1 := Lib.hid a1; clear a1)
    go_ret
    exact ⟨rfl, A1.out⟩
  · have hs16 : s.size ≤ 65536 := by omega
    have hsl := str_len s
    have htl := txt_len (s := s.data.toList) (by rw [hsl]; omega)
    have RT := Lib.hid (rdT_txtB s.data.toList l (by rw [hsl]; omega))
    have HS16 := Lib.hid hs16; clear hs16 hsl
    go_enter Tryd.func5, Tryd.ntmps5
    go_wp2_with fail
    refine (text_new s HS16.out _).mono ?_
    rintro e w1 ⟨v1, rfl, o1, a1⟩
    have A1 := Lib.hid a1; clear a1
    obtain ⟨g, cap1, rfl, _, _⟩ := o1.form (List.length_pos_iff.1 htl.2)
    have O1 := Lib.hid o1.bytes; clear o1
    have HE := Lib.hid (own_empty w1)
    have BA := Lib.hid (below_alloc w1 (.cells #[] 5))
    go_wp2_with (first
      | (at_builtin; refine wp_append_bytes rfl (.tmp 27) (.tmp 28) rfl w1.heap.size _ [] rfl (by exact HE.out) _ (txtB s.data.toList) _ rfl (by exact O1.out.below BA.out) (by simp; omega) (by simp) ?_; intro v5 w5 o5 b5; have O5 := Lib.hid o5; clear o5; have B5 := Lib.hid (BA.out.trans b5); clear b5)
      | (at_builtin; refine wp_append_bytes rfl (.tmp 29) (.tmp 30) rfl w1.heap.size _ ([] ++ txtB s.data.toList) rfl (by exact O5.out) _ l _ rfl (by exact (bytes_adds HV.out A1.out).below B5.out) (by rw [List.nil_append]; omega) (by exact B5.out.size) ?_; intro v6 w6 o6 b6; have O6 := Lib.hid o6; clear o6; have B6 := Lib.hid (B5.out.trans b6); clear b6))
    have A6 := Lib.hid (A1.out.trans B6.out)
    have O1' := Lib.hid (O1.out.adds B6.out); clear O1
    refine (readText_any v6 (txtB s.data.toList ++ l) _ O6.out.bytes).mono ?_
    unfold RtPost
    rw [RT.out, str_of]
    rintro e w7 ⟨rfl, a7⟩
    have A7 := Lib.hid (A6.out.trans a7)
    have O1 := Lib.hid (O1'.out.adds a7); clear O1' a7
    go_wp2_with fail
    refine (readText_any _ l _ (bytes_adds HV.out A7.out)).mono ?_
    rintro e w8 ⟨rfl, a8⟩
    have A8' := Lib.hid (A7.out.trans a8)
    have O1' := Lib.hid (O1.out.adds a8); clear O1 a8
    go_wp2_with fail
    refine (refReadText_any _ l _ (bytes_adds HV.out A8'.out)).mono ?_
    rintro e w9 ⟨rfl, a9⟩
    have A8 := Lib.hid (A8'.out.trans a9)
    have O1 := Lib.hid (O1'.out.adds a9); clear O1' a9
    obtain ⟨y, m, er, hr⟩ : ∃ y m er, rdT l = (y, m, er) := ⟨_, _, _, rfl⟩
    rw [hr]
    clear hr
    obtain ⟨sy, hsy⟩ : ∃ sy, str y = sy := ⟨_, rfl⟩
    simp only
    rw [hsy]
    clear hsy
    go_wp2_with fail
    have hs16 := HS16.out
    have S1 : Hid (∀ w', Adds w9.drew w' → (convert 23 9 (.slice (some ⟨g, 0, none⟩) (txtB s.data.toList).length cap1)).run Tryd.prog w' = .ok (.string (str (txtB s.data.toList))) w') := fun w' h => strAt (O1.out.adds ((Adds.drew _).trans h))
    refine wp_region_loose [51] (fun _ u w => Bytes w.heap.size w u (txtB s.data.toList)) Adds (by kernel_rfl) (by kernel_rfl) (by simp [Act.put]) Adds.refl (fun _ _ _ h k => h.trans k) (fun _ _ _ _ h k => k.adds h) ?_
    repeat (refine wpL_step (fun K hK => ?_); first
      | (refine stepL_ex rfl rfl rfl Adds.refl (fun w' hw' => rfl) ?_; go_simp; refine hK _ ?_; clear hK K)
      | (refine stepL_ex (v := .bool true) rfl rfl rfl Adds.refl ?_ ?_; (· (intro w' hw'; clear hK; go_simp)); go_simp; refine hK _ ?_; clear hK K)
      | (refine stepL_ex (v := .string (str (txtB s.data.toList))) rfl rfl rfl Adds.refl ?_ ?_; (· (intro w' hw'; clear hK; have hS := S1.out w' hw'; go_simp)); go_simp; refine hK _ ?_; clear hK K)
      | (refine stepL_key (f := 21) (args := #[.string s]) 51 rfl rfl rfl rfl ?_ (fun w' hw' => (refText_any s hs16 w').mono fun e w2 ⟨u, he, ho, ha⟩ => ⟨u, he, ho.bytes, ha⟩) ?_; (· (intro w'; clear hK; go_simp)); refine hK _ ?_; clear hK K)
      | (refine stepL_ex1 (v := .string (str (txtB s.data.toList))) rfl rfl Adds.refl ?_ ?_; (· (intro w' u hw' hu; refine ⟨rfl, ?_⟩; clear hK; have hS := strAt hu; go_simp)); go_simp; refine hK _ ?_; clear hK K)
      | (refine stepL_ex (v := .int .i64 (txtB s.data.toList).length) rfl rfl rfl Adds.refl ?_ ?_; (· (intro w' hw'; clear hK; go_simp)); go_simp; refine hK _ ?_; clear hK K)
      | (refine stepL_call (v := .int .i64 0) (f := 13) (args := #[.int .i64 0]) rfl rfl rfl ?_ (fun w' hw' => (num_any _ w').mono fun e w2 ⟨he, hw2⟩ => ⟨he, hw2 ▸ Adds.refl _⟩) ?_; (· (intro w'; clear hK; go_simp)); go_simp; refine hK _ ?_; clear hK K)
      | (refine stepL_call (v := .int .i64 er) (f := 13) (args := #[.int .i64 er]) rfl rfl rfl ?_ (fun w' hw' => (num_any _ w').mono fun e w2 ⟨he, hw2⟩ => ⟨he, hw2 ▸ Adds.refl _⟩) ?_; (· (intro w'; clear hK; go_simp)); go_simp; refine hK _ ?_; clear hK K)
      | (refine stepL_call (v := .bool true) (f := 8) (args := #[]) rfl rfl rfl ?_ (fun w' hw' => (works_any w' (HW.out.adds (A8.out.trans ((Adds.drew _).trans hw')))).mono fun e w2 h => h) ?_; (· (intro w'; clear hK; go_simp)); go_simp; refine hK _ ?_; clear hK K))
    refine wpL_nil ?_
    intro w10 a10
    simp only [forL]
    intro u hu
    have A10 := Lib.hid (A8.out.trans ((Adds.drew _).trans a10)); clear a10 hu S1
    go_wp2
    go_ret
    exact ⟨rfl, A10.out⟩
end Go.Proofs.YtddpeebfmemcfaaDoor
