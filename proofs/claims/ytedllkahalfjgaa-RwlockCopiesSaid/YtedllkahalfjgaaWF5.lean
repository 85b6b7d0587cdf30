/- allReaders; New; Read, Write, Unread, Unwrite; Readers, Writer, Len. -/
import Derived.Test.YtedllkahalfjgaaWF4
namespace Go.Proofs.Ytedllkahalfjgaa
open Go Go.RowKit

def IntsO (n : Nat) (w : World) (v : Value) (xs : List Int) : Prop := w.ownsRow n 3 1 v xs.length (xs.map intV)
theorem IntsO.cut {n : Nat} {w : World} {v : Value} {xs : List Int} (h : IntsO n w v xs) : CutR w v xs := CutR.of_own h
theorem IntsO.nil (n : Nat) (w : World) : IntsO n w (.slice none 0 0) [] := World.ownsRow_nil _ _ _ _
set_option maxRecDepth 100000 in
set_option maxHeartbeats 1000000 in
theorem clone_ints {w : World} {g k n cap : Nat} {xs : List Int} (h : CutR w (.slice (some ⟨g, k, none⟩) n cap) xs) (hl : xs.length ≤ 1000000) :
    Calls Try.prog 80 #[.slice (some ⟨g, k, none⟩) n cap] w fun e w' => ∃ v', e = .returned v' ∧ IntsO w.heap.size w' v' xs ∧ Adds w w' := by
  obtain ⟨i0, hi, hz, hs, hb⟩ := info_parts infoI
  have hq : ∀ W, (binOp .eql 41 (.slice (some ⟨g, k, none⟩) n cap) (.slice none 0 0)).run Try.prog W = .ok (.bool false) W := fun W => Lib.run_eql_slice_nil W _ 3 (some ⟨g, k, none⟩) _ _ _ _ (by kernel_rfl)
  have A1 := Lib.hid (Gr.new w (.cells #[] 3)).adds
  have hcc := (h.adds A1.out).cells
  have HN := Lib.hid (show ∀ j u, (xs.map intV)[j]? = some u → (w.alloc (.cells #[] 3)).cell? (Addr.add ⟨g, k, none⟩ j) = some u from fun j u hu => by
    rw [List.getElem?_map] at hu
    obtain ⟨x', hx', rfl⟩ := Option.map_eq_some_iff.1 hu
    rw [add_lit]
    exact hcc.2 j x' hx')
  have HL := Lib.hid hcc.1
  have HB := Lib.hid hl
  clear hl h hcc
  go_enter Try.func80, Try.ntmps80
  go_wp2_with (at_builtin; refine wpList_append_own _ rfl _ _ 41 rfl w.heap.size 3 i0 _ 1 8 (by kernel_rfl) hi hz hs hb rfl (by decide) _ _ _ rfl (World.ownsRow_made w #[] 0 (Nat.le_refl _) (Nat.zero_le _) (by simp)) ⟨g, k, none⟩ n cap (xs.map intV) rfl (by simp [HL.out]) HN.out (by intro u hu; rw [List.mem_map] at hu; obtain ⟨x, _, rfl⟩ := hu; rfl) (by have := HB.out; have := HL.out; simp only [maxLen]; omega) (by have := HB.out; have := HL.out; omega) (by simp) ?_; intro v5 w5 o5 b5 _; have O5 := Lib.hid o5; clear o5; have A5 := Lib.hid (show Adds w w5 from TnS.own A1.out (Nat.le_refl _) b5); clear b5)
  go_ret
  refine ⟨_, rfl, ?_, A5.out⟩
  have h := O5.out
  rw [Nat.zero_add, List.nil_append] at h
  unfold IntsO
  rw [← HL.out]
  exact h
theorem allReaders_nil (w : World) : Calls Try.prog 51 #[.pointer none] w fun e w' => e = .returned (.slice none 0 0) ∧ w = w' := by
  have HR := Lib.hid (hasReaders_nil w)
  go_enter Try.func51, Try.ntmps51
  go_wp2_with (go_at_call 71; refine HR.out.mono ?_; rintro e w1 ⟨rfl, rfl⟩)
  go_ret
  exact ⟨rfl, rfl⟩
theorem allReaders_at (b k : Nat) {w : World} {v : Value} {xs : List Int} (h : CutR w v xs) (hl : xs.length ≤ 1000000) (hc : w.cell? ⟨b, k, none⟩ = some v) :
    Calls Try.prog 51 #[.pointer (some ⟨b, k, none⟩)] w fun e w' => ∃ v', e = .returned v' ∧ IntsO w.heap.size w' v' xs ∧ Adds w w' := by
  by_cases h0 : xs = []
  · obtain ⟨ao, cap, rfl, _, _⟩ := h.form
    have HR := Lib.hid (hasReaders_at b k ao xs.length cap w hc)
    rw [show decide (xs.length ≠ 0) = false by simp [h0]] at HR
    have HE := Lib.hid h0
    clear h hl h0
    go_enter Try.func51, Try.ntmps51
    go_wp2_with (go_at_call 71; refine HR.out.mono ?_; rintro e w1 ⟨rfl, rfl⟩)
    go_ret
    rw [HE.out]
    exact ⟨_, rfl, IntsO.nil _ _, Adds.refl w⟩
  · obtain ⟨g, q, cap, rfl, _, _⟩ := h.some h0
    have HR := Lib.hid (hasReaders_at b k (some ⟨g, q, none⟩) xs.length cap w hc)
    rw [show decide (xs.length ≠ 0) = true by simp [h0]] at HR
    have HC := Lib.hid (clone_ints h hl)
    obtain ⟨n, hn⟩ : ∃ n, xs.length = n := ⟨_, rfl⟩
    simp only [hn] at HR HC hc
    clear h hl h0 hn
    go_enter Try.func51, Try.ntmps51
    go_wp2_with (first
      | (go_at_call 71; refine HR.out.mono ?_; rintro e w1 ⟨rfl, rfl⟩)
      | (go_at_call 80; refine HC.out.mono ?_; rintro e w1 ⟨v', rfl, h1, h2⟩; have H1 := Lib.hid h1; have H2 := Lib.hid h2; clear h1 h2))
    go_ret
    exact ⟨_, rfl, H1.out, H2.out⟩
theorem newW_no (many : Int) (hm : ¬ (0 ≤ many ∧ many ≤ 64)) (w : World) :
    Calls Try.prog 10 #[.int .i64 many] w fun e w' => e = .returned (.tuple #[.pointer none, .int .i64 2]) ∧ Adds w w' := by
  have HO := Lib.hid (isOutside_any many 64 w)
  rw [outB_yes hm] at HO
  have HC := Lib.hid (fun (b cap : Nat) (W : World) h => asked_any [(true, 2)] (by decide) b cap W h)
  clear hm
  go_enter Try.func10, Try.ntmps10
  go_wp2
  refine wp_scope_fwd 0 rfl ?_
  go_wp2_with (first
    | (go_at_call 39; refine HO.out.mono ?_; rintro e w1 ⟨rfl, rfl⟩)
    | (go_at_call 38; refine (HC.out _ _ _ (fun k v hk => ((BkS.new _ w _).cell k).trans hk)).mono ?_; rintro e w1 ⟨rfl, ha⟩; have HA := Lib.hid (Adds.trans (Gr.new w _).adds ha.adds); clear ha))
  go_step3
  refine ⟨rfl, ?_⟩
  go_wp2
  rw [Exit.noGoto_ret]
  go_ret2
  exact ⟨rfl, HA.out⟩
def zB : List Value := (List.replicate 64 lm0).flatMap LM.cells
theorem zB_len : zB.length = 192 := by unfold zB; rw [flat_len LM.cells 3 LM.cells_len, List.length_replicate]
theorem zero_list : ∃ Z : Array Value, Z.size = 193 ∧ (∀ (n : Nat) (z : Int), n ≤ 64 → z = (n : Int) → (Z.setIfInBounds 192 (Value.int .i64 z)).toList = listC (List.replicate n lm0)) ∧ ∀ W, (zeroValue 94).run Try.prog W = .ok (.agg Z) W := by
  refine ⟨(zB ++ [Value.int .i64 0]).toArray, ?_, ?_, ?_⟩
  · rw [List.size_toArray, List.length_append, zB_len]; rfl
  · intro n z hn hz
    unfold listC
    rw [bodyC_nil n hn, List.length_replicate, ← hz, List.setIfInBounds_toArray, List.set_append_right _ _ (by rw [zB_len]; omega), zB_len]
    rfl
  · intro W
    have h : (Try.prog.info? 94).map (·.zero) = some (some (.agg (zB ++ [Value.int .i64 0]).toArray)) := by kernel_rfl
    cases hq : Try.prog.info? 94 with
    | none => rw [hq] at h; cases h
    | some i =>
      rw [hq] at h
      simp only [Option.map_some, Option.some.injEq] at h
      generalize (zB ++ [Value.int .i64 0]).toArray = Z at *
      simp [zeroValue, typeInfo, hq, h]
set_option maxRecDepth 100000 in
set_option maxHeartbeats 1000000 in
theorem newW_yes (many : Nat) (hm : many ≤ 64) (w : World) :
    Calls Try.prog 10 #[.int .i64 ((many : Nat) : Int)] w fun e w' => ∃ v O, e = .returned (.tuple #[v, .int .i64 0]) ∧ HasL 0 w' v O (List.replicate many lk0) ∧ (∀ k, O k → w.heap.size ≤ k) ∧ Adds w w' := by
  have HO := Lib.hid (isOutside_any (many : Int) 64 w)
  rw [outB_no (by omega) (by omega)] at HO
  have hC := fun (b cap : Nat) (W : World) h => asked_any [(false, 2)] (by decide) b cap W h
  simp only [askedE] at hC
  have HC := Lib.hid hC
  obtain ⟨Z, hZ1, hZ2, hZ3⟩ := zero_list
  have HZ2 := Lib.hid hZ2
  clear hC hZ2
  have HM := Lib.hid hm; clear hm
  obtain ⟨z, hz⟩ : ∃ z : Int, ((many : Nat) : Int) = z := ⟨_, rfl⟩
  have HZ := Lib.hid hz
  rw [hz] at HO ⊢
  clear hz
  go_enter Try.func10, Try.ntmps10
  go_wp2
  refine wp_scope_fwd 0 rfl ?_
  go_wp2_with (first
    | (go_at_call 39; refine HO.out.mono ?_; rintro e w1 ⟨rfl, rfl⟩)
    | (go_at_call 38; refine (HC.out _ _ _ (fun k v hk => ((BkS.new _ w _).cell k).trans hk)).mono ?_; rintro e w1 ⟨rfl, ha⟩; have HA := Lib.hid (Adds.trans (Gr.new w _).adds ha.adds); clear ha))
  simp only [Exit.jump]
  go_ret2
  have h1 : Adds w w1 := HA.out
  have e1 := HZ2.out many z HM.out HZ.out.symm
  generalize Z.setIfInBounds 192 (.int .i64 z) = Z1 at *
  have hbl : BkS 94 (w1.alloc (.cells Z1 94)) w1.heap.size (listC (List.replicate many lm0)) := by
    rw [← e1]; exact heap_new w1 _
  have hbp := BkS.new 96 (w1.alloc (.cells Z1 94)) [.pointer (some ⟨w1.heap.size, 0, none⟩)]
  rw [show (w1.alloc (.cells Z1 94)).heap.size = w1.heap.size + 1 by simp] at hbp
  have get : ∀ (i : Nat) x, (List.replicate many lm0)[i]? = some x → x = lm0 := fun i x hx => List.eq_of_mem_replicate (List.mem_of_getElem? hx)
  refine ⟨_, _, rfl, ⟨w1.heap.size + 1, w1.heap.size, List.replicate many lm0, ⟨rfl, hbp, hbl.adds (Gr.new _ _).adds, by simpa using HM.out, fun i x hx => ?_, fun i j x y k hx _ hk => ?_, fun x hx => ?_⟩, rfl, by simp⟩, ?_, Adds.trans h1 (Adds.trans (Gr.new _ _).adds (Gr.new _ _).adds)⟩
  · rw [get i x hx]; exact CutR.nil _
  · rw [get i x hx] at hk; cases hk
  · rw [List.eq_of_mem_replicate hx]; exact OkL.zero 0
  · have := h1.size
    rintro k (rfl | rfl | ⟨i, x, hx, hk⟩)
    · omega
    · exact this
    · rw [get i x hx] at hk; cases hk
end Go.Proofs.Ytedllkahalfjgaa
