/- A vector under way: told, the fold over lists, Join, Trim. -/
import Derived.Test.YtcimppggemdidaaDoorDMem
import Derived.Test.YtcimppggemdidaaDoorVG3
namespace Go.Proofs.YtcimppggemdidaaDoor
open Go Go.RowKit

/-- v is a slice of lists of clocks that read as these. -/
def ListsW (n : Nat) (w : World) (v : Value) (ls : List (List UInt64)) : Prop :=
  ∃ ao cap, v = .slice ao ls.length cap ∧ ls.length ≤ cap ∧ cap ≤ maxLen ∧
    (ls ≠ [] → ∃ b off, ao = some ⟨b, off, none⟩ ∧ b < n ∧ ∀ i, i < ls.length → ∃ u, w.cell? ⟨b, off + i, none⟩ = some u ∧ Words n w u (ls.getD i []))
theorem ListsW.below {n : Nat} {w w' : World} {v : Value} {ls : List (List UInt64)} (h : ListsW n w v ls) (hb : Below n w w') : ListsW n w' v ls := by
  obtain ⟨ao, cap, rfl, h1, h2, h3⟩ := h
  refine ⟨ao, cap, rfl, h1, h2, fun hl => ?_⟩
  obtain ⟨b, off, e, hbn, hc⟩ := h3 hl
  refine ⟨b, off, e, hbn, fun i hi => ?_⟩
  obtain ⟨u, hu, hw⟩ := hc i hi
  exact ⟨u, (hb.cell (p := ⟨b, off + i, none⟩) hbn).trans hu, hw.below hb⟩
theorem ListsW.here {n : Nat} {w : World} {v : Value} {ls : List (List UInt64)} (h : ListsW n w v ls) : ListsW w.heap.size w v ls := by
  obtain ⟨ao, cap, rfl, h1, h2, h3⟩ := h
  refine ⟨ao, cap, rfl, h1, h2, fun hl => ?_⟩
  obtain ⟨b, off, e, hbn, hc⟩ := h3 hl
  obtain ⟨u, hu, _⟩ := hc 0 (List.length_pos_iff.2 hl)
  refine ⟨b, off, e, World.block_lt_of_cell? w _ hu, fun i hi => ?_⟩
  obtain ⟨u, hu, hw⟩ := hc i hi
  exact ⟨u, hu, hw.here⟩

set_option maxHeartbeats 400000 in
theorem told_any (bg : Nat) (v : Value) (w : World) (hx : Boxed w bg gT v) (hs : ∃ ao l c, v = .slice ao l c) :
    Calls Tryd.prog 72 #[.pointer (some ⟨bg, 0, none⟩)] w fun e w' => e = .returned v ∧ w = w' := by
  obtain ⟨ao, l, c, rfl⟩ := hs
  have c0 := hx.cell
  clear hx
  go_enter Tryd.func72, Tryd.ntmps72
  go_wp2
  go_ret
  exact ⟨rfl, rfl⟩
set_option maxHeartbeats 400000 in
theorem join1_any (base bg : Nat) (v vc : Value) (s c : List UInt64) (w : World) (hx : Boxed w bg gT v) (ho : OwnW w base v s) (hb : base ≤ bg) (hvc : Words base w vc c) (hs : s.length ≤ 200000) (hc : c.length ≤ 200000) :
    Calls Tryd.prog 75 #[.pointer (some ⟨bg, 0, none⟩), vc] w (TakePost base bg s c w) := by
  have HT := Lib.hid (take_any base bg v vc s c w hx ho hb hvc hs hc)
  clear hx ho hvc
  go_enter Tryd.func75, Tryd.ntmps75
  go_wp2_with (go_at_call 70; refine HT.out.mono ?_; rintro e w' ⟨rfl, h1⟩; have H1 := Lib.hid h1; clear h1)
  go_ret
  exact ⟨rfl, H1.out⟩
theorem foldTake_length : ∀ (ls : List (List UInt64)) (s : List UInt64) (B : Nat), s.length ≤ B → (∀ c ∈ ls, c.length ≤ B) → (ls.foldl vTake s).length ≤ B
  | [], _, _, h, _ => h
  | c :: ls, s, B, h, hc => foldTake_length ls (vTake s c) B (by rw [vTake_length]; have := tN_le c; have := hc c (by simp); omega) fun d hd => hc d (by simp [hd])
theorem foldTake_snoc (s : List UInt64) (ls : List (List UInt64)) (k : Nat) (h : k < ls.length) : (ls.take (k + 1)).foldl vTake s = vTake ((ls.take k).foldl vTake s) (ls.getD k []) := by
  rw [List.take_succ_eq_append_getElem h, List.foldl_append]
  simp [h]

set_option maxRecDepth 100000 in
set_option maxHeartbeats 1000000 in
theorem foldV_any (base bg : Nat) (v vl : Value) (s : List UInt64) (ls : List (List UInt64)) (w : World) (hx : Boxed w bg gT v) (ho : OwnW w base v s) (hb : base ≤ bg) (hv : ListsW base w vl ls) (hs : s.length ≤ 200000) (hc : ∀ c ∈ ls, c.length ≤ 200000) :
    Calls Tryd.prog 74 #[.pointer (some ⟨bg, 0, none⟩), vl, .func (.func 75) #[] #[]] w fun e w' =>
      e = .returned (.pointer (some ⟨bg, 0, none⟩)) ∧ ∃ v', Boxed w' bg gT v' ∧ OwnW w' base v' (ls.foldl vTake s) ∧ Below base w w' := by
  have HV := Lib.hid hv
  obtain ⟨ao, cap, rfl, h1, h2, _⟩ := hv
  unfold maxLen at h2
  have HX := Lib.hid hx; clear hx
  have HO := Lib.hid ho; clear ho
  have HC := Lib.hid hc; clear hc
  go_enter Tryd.func74, Tryd.ntmps74
  go_wp2
  go_loopw [0, 11] (fun p i wr => ∃ k : Nat, k ≤ ls.length ∧ i = .int .i64 k ∧ p = .pointer (some ⟨bg, 0, none⟩) ∧ ∃ v', Boxed wr bg gT v' ∧ OwnW wr base v' ((ls.take k).foldl vTake s) ∧ Below base w wr) (fun _ i _ => ls.length - (intOf i).toNat)
  case atStart => exact ⟨0, Nat.zero_le _, rfl, rfl, v, HX.out, HO.out, Below.refl _ _⟩
  case round =>
    obtain ⟨k, hk, rfl, rfl, v', hx1, ho1, hb1⟩ := hrel
    by_cases hlt : k < ls.length
    · obtain ⟨_, _, e, _, _, h3⟩ := HV.out.below hb1
      simp only [Value.slice.injEq, true_and] at e
      obtain ⟨rfl, rfl⟩ := e
      obtain ⟨b, off, rfl, hbn, hcc⟩ := h3 (by rintro rfl; simp at hlt)
      obtain ⟨u, hcell, hu⟩ := hcc k hlt
      clear hcc h3
      have HJ := Lib.hid (join1_any base bg v' u ((ls.take k).foldl vTake s) (ls.getD k []) wr hx1 ho1 hb hu (foldTake_length _ _ _ hs fun c hcm => HC.out c (List.mem_of_mem_take hcm)) (HC.out _ (by rw [List.getD_eq_getElem?_getD, List.getElem?_eq_getElem hlt]; exact List.getElem_mem hlt)))
      unfold TakePost at HJ
      rw [← foldTake_snoc s ls k hlt] at HJ
      have HB1 := Lib.hid hb1; clear hb1 hx1 ho1
      obtain ⟨ao2, cap2, rfl, _, _, _⟩ := hu
      obtain ⟨m2, hm2⟩ : ∃ y, (ls.getD k []).length = y := ⟨_, rfl⟩
      rw [hm2] at HJ hcell
      clear hm2
      go_wp2_with (go_at_call 75; refine HJ.out.mono ?_; rintro e w3 ⟨rfl, v3, x3, o3, b3⟩; have X3 := Lib.hid x3; have O3 := Lib.hid o3; have B3 := Lib.hid b3; clear x3 o3 b3)
      go_roundw
      case rel => exact ⟨k + 1, by omega, by go_num, rfl, _, X3.out, O3.out, HB1.out.trans B3.out⟩
      case measure => simp [intOf]; omega
    · have HB1 := Lib.hid hb1; clear hb1
      have HX1 := Lib.hid hx1; clear hx1
      have HO1 := Lib.hid ho1; clear ho1
      go_wp2
      go_ret
      exact ⟨rfl, _, HX1.out, by rw [List.take_of_length_le (by omega)] at HO1; exact HO1.out, HB1.out⟩

def JoinPost (ls : List (List UInt64)) (w : World) (e : Ending) (w' : World) : Prop := ∃ v', e = .returned v' ∧ OwnW w' w.heap.size v' (vJoin ls) ∧ Adds w w'
theorem build_g (w : World) : (Instr.build 110 #[]).run Tryd.prog w = .ok (.agg #[.slice none 0 0]) w := by kernel_rfl
set_option maxRecDepth 100000 in
set_option maxHeartbeats 1000000 in
theorem join_any {n : Nat} (vl : Value) (ls : List (List UInt64)) (w : World) (hv : ListsW n w vl ls) (hc : ∀ c ∈ ls, c.length ≤ 200000) :
    Calls Tryd.prog 39 #[vl] w (JoinPost ls w) := by
  obtain ⟨ao, cap, hve, _⟩ := id hv
  have hbx : Boxed (w.alloc (.cells #[.slice none 0 0] gT)) w.heap.size gT (.slice none 0 0) := Boxed.new _ _ _
  have HF := Lib.hid (foldV_any w.heap.size w.heap.size _ vl [] ls _ hbx (World.ownsRow_nil _ _ _ _) (Nat.le_refl _) (hv.here.below (Adds.new _ _)) (by simp) hc)
  clear hbx hv
  subst hve
  go_enter Tryd.func39, Tryd.ntmps39
  go_wp2_with (first
    | (refine wpList_build0 rfl rfl _ build_g ?_)
    | (go_at_call 74; refine HF.out.mono ?_; rintro e w1 ⟨rfl, v1, x1, o1, b1⟩; have O1 := Lib.hid o1; have B1 := Lib.hid b1; have T1 := Lib.hid (told_any _ v1 w1 x1 (by obtain ⟨_, _, e⟩ := o1.isSlice; exact ⟨_, _, _, e⟩)); clear x1 o1 b1)
    | (go_at_call 72; refine T1.out.mono ?_; rintro e w' ⟨rfl, rfl⟩))
  go_ret
  exact ⟨_, rfl, O1.out, Below.trans (Adds.new _ _) B1.out⟩
theorem listsW_1 {n : Nat} (w : World) (v : Value) (c : List UInt64) (hv : Words n w v c) : ListsW (w.heap.size + 1) (w.alloc (.cells #[v] 48)) (.slice (some ⟨w.heap.size, 0, none⟩) 1 1) [c] := by
  refine ⟨_, 1, rfl, by simp, by simp [maxLen], fun _ => ⟨w.heap.size, 0, rfl, by omega, fun i hi => ?_⟩⟩
  obtain rfl : i = 0 := by simpa using hi
  exact ⟨v, by simp, (hv.here.below (Adds.new _ _)).mono (by omega)⟩
set_option maxHeartbeats 1000000 in
theorem trim_any {n : Nat} (v : Value) (c : List UInt64) (w : World) (hv : Words n w v c) (hc : c.length ≤ 200000) :
    Calls Tryd.prog 31 #[v] w fun e w' => ∃ v', e = .returned v' ∧ OwnW w' w.heap.size v' (vTrim c) ∧ Adds w w' := by
  have HJ := Lib.hid (join_any _ [c] _ (listsW_1 w v c hv) (by intro d hd; obtain rfl := List.mem_singleton.1 hd; exact hc))
  unfold JoinPost at HJ
  rw [vJoin_one] at HJ
  obtain ⟨ao, cap, rfl, _⟩ := hv
  go_enter Tryd.func31, Tryd.ntmps31
  go_wp2_with (go_at_call 39; refine HJ.out.mono ?_; rintro e w1 ⟨v1, rfl, o1, a1⟩; have O1 := Lib.hid o1; have A1 := Lib.hid a1; obtain ⟨ao1, cap1, rfl⟩ := o1.isSlice; clear o1 a1)
  go_ret
  exact ⟨_, rfl, O1.out.lower (by simp), (Adds.new _ _).trans A1.out⟩
end Go.Proofs.YtcimppggemdidaaDoor
