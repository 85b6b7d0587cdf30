/- Open and its iterator: their contracts. -/
import Derived.Test.YtedllkahalfjgaaYI1
namespace Go.Proofs.Ytedllkahalfjgaa
open Go Go.RowKit Go.Shelf
attribute [local go_sem] Oper.semAt_some

set_option maxRecDepth 100000 in
set_option maxHeartbeats 4000000 in
theorem open1_in (n : Nat) (hn : 4 ≤ n) (q Bk : Nat) (M : Nat → Prop) (l : List Int) (hl : l.length ≤ 64) (N : Nat) (hN : (openL l).length = N) (J Jx : List Nat → World → Prop)
    (W : World) (hJ : Stable W.heap.size J) (hJx : Stable W.heap.size Jx)
    (hY : ∀ pre x W1, J pre W1 → AtO N pre x → YieldAt Fence.wide (n - 1) Try.prog q (opV l x) W1 fun z W' =>
      (z = .returned (.bool true) ∧ J (pre ++ [x]) W' ∧ KeepC M W1 W' ∧ KeepsFrom W.heap.size W1 W') ∨ (z = .returned (.bool false) ∧ Jx (pre ++ [x]) W' ∧ KeepsFrom W.heap.size W1 W'))
    (hM : ∀ k, M k → k < W.heap.size) (hBk : ¬ M Bk) (hH : BkS 115 W Bk (cntC l)) (h0 : J [] W) :
    CallsIn Fence.wide n Try.prog 65 #[.func (.yield q) #[] #[], .pointer (some ⟨Bk, 0, none⟩)] W fun z W' => (∃ v, z = .returned v) ∧
      ((∃ ys, ys = List.range N ∧ J ys W') ∨ (∃ pre, (∃ j, j ≤ N ∧ pre = List.range j) ∧ Jx pre W')) := by
  have HY := Lib.hid hY; have HJ := Lib.hid hJ; have HJX := Lib.hid hJx; have HM := Lib.hid hM; have HH := Lib.hid hH; have HL := Lib.hid hl; have HNN := Lib.hid hN; have HBK := Lib.hid hBk
  have HbW := Lib.hid hH.lt
  clear hY hJ hJx hM hl hH hN hBk
  refine callsIn_of_wp_marks Try.func65 rfl trivial ?_ rfl
  simp only [Try.ntmps65, List.size_toArray, List.length_cons, List.length_nil, Nat.reduceAdd, Nat.reduceSub, Array.replicate_succ, Array.replicate_zero, List.push_toArray, List.append_toArray, List.nil_append, List.cons_append]
  gi_wp2
  refine wpIn_scope_straight ?_
  apply wpIn_seq_k; intro K1 hK1
  refine wpIn_label ?_
  refine hK1 _ _ ?_
  clear hK1 K1
  obtain ⟨Wa, hWa⟩ : ∃ Wa, W.alloc (Obj.cells #[Value.func (Fn.yield q) #[] #[]] 125) = Wa := ⟨_, rfl⟩
  have HA := Lib.hid (hWa ▸ (Gr.new W _).adds : Adds W Wa)
  have ca3 : Wa.cell? ⟨W.heap.size, 0, none⟩ = some (.func (.yield q) #[] #[]) := by rw [← hWa]; simp
  have hsa : W.heap.size + 1 = Wa.heap.size := by rw [← hWa]; simp
  have HSa := Lib.hid hsa
  rw [hWa]
  clear hWa hsa
  have h1n : 1 ≤ n := by omega
  gi_wp2_with (refine ⟨trivial, ?_⟩; gi_at_call 66; refine (callsIn_wide.2 (rising_any _ _)).mono ?_; rintro e w' ⟨rfl, rfl⟩)
  obtain ⟨Wb, hWb⟩ : ∃ Wb, World.alloc Wa (.cells #[.pointer (some ⟨Bk, 0, none⟩)] 67) = Wb := ⟨_, rfl⟩
  have HB := Lib.hid (hWb ▸ (Gr.new Wa _).adds : Adds Wa Wb)
  have cb0 : Wb.cell? ⟨Wa.heap.size, 0, none⟩ = some (.pointer (some ⟨Bk, 0, none⟩)) := by rw [← hWb]; simp
  have cb3 : Wb.cell? ⟨W.heap.size, 0, none⟩ = some (.func (.yield q) #[] #[]) := Adds.cellAt HB.out ca3
  have HAB := Lib.hid (Adds.trans HA.out HB.out)
  rw [hWb]
  clear hWb ca3
  have hz := HAB.out.size
  have HHb := Lib.hid (HH.out.adds HAB.out)
  refine' rangeFunc_S rfl (by omega) (gf := 84) (lb := #[.pointer (some ⟨Wa.heap.size, 0, none⟩)]) rfl trivial (enters_of Try.func84 (by kernel_rfl) rfl)
    (w0 := Wb) (G := AtO l.length) (encs := riV l) (Kp := KeepC M) (S := fun xs => xs = List.range l.length) (Sp := fun pre => ∃ j, j ≤ l.length ∧ pre = List.range j)
    ?seq KeepC.trans (fun W l o o' hlt h hc _ => KeepC.put W l o o' h hc) (Below.refl _ _) (fun _ => rfl)
    (fun pre Wr => J (List.range (cntO l pre.length)) Wr ∧ KeepC M Wb Wr) (fun c pre Wr => c = .exit 0 ∧ ∃ j, j ≤ N ∧ Jx (List.range j) Wr) ?own ?ownx ?h0 _ ?assign ?body ?done ?stop
  case assign =>
    intro l2 x W2 K hK
    have HK := Lib.hid hK; clear hK
    gi_wp2
    exact HK.out
  case own => exact fun s A C hs hb => ⟨Stable.higher HJ.out (by omega) _ A C hs.1 hb, keepC_stableO M (Nat.le_refl _) s A C hs.2 hb⟩
  case ownx => exact fun c s A C ⟨h1, j, h2, h3⟩ hb => ⟨h1, j, h2, HJX.out _ A C h3 (hb.mono (by omega))⟩
  case seq =>
    intro l' J' Jx' W2 hb hJ' hJx' hY' h0'
    exact rising1_in W2.heap.size (n - 1) (by omega) l' _ Bk M l HL.out J' Jx' W2 hJ' hY' (Nat.le_refl _) (fun h => by have := HM.out _ h; have := HSa.out; omega) HBK.out (Adds.cellAt hb cb0) (HHb.out.adds hb) h0'
  case h0 => exact ⟨HJ.out _ _ _ h0 HAB.out, KeepC.refl _ _⟩
  case body =>
    rintro l2 pre x W2 ⟨hJ2, hk2⟩ ⟨hx, rfl⟩
    rw [List.length_range] at hJ2
    have c2 : W2.cell? ⟨W.heap.size, 0, none⟩ = some (.func (.yield q) #[] #[]) := hk2.cell (fun hm => by have := HM.out _ hm; omega) cb3
    have HK2 := Lib.hid hk2
    have HZ := Lib.hid hz
    try dsimp only [riV]
    by_cases hc : gQ l x = 0
    · have HJ2 := Lib.hid (show J (List.range (cntO l (x + 1))) W2 by rw [cntO_no hc]; exact hJ2)
      rw [hc]
      clear hJ2 hk2 hz hc hx
      gi_wp2
      refine ⟨KeepsFrom.refl _ _, KeepC.refl _ _, ?_, HK2.out⟩
      rw [List.length_append, List.length_range, List.length_singleton]
      exact HJ2.out
    · obtain ⟨hlt2, hat⟩ := upO_at (n := l.length) hx hc
      have hc1 := cntO_yes hc
      have hlt3 : cntO l x < N := by rw [← HNN.out]; exact hlt2
      obtain ⟨fn, tmps, assign, body, hy, hR⟩ := HY.out _ _ W2 hJ2 ⟨hlt3, rfl⟩
      try dsimp only [opV] at hy
      rw [show opA l (cntO l x) = x from hat] at hy
      have HC := Lib.hid (And.intro hc1 hlt3)
      have hcb : (gQ l x == 0) = false := by simpa using hc
      generalize gQ l x = c at *
      clear hJ2 hk2 hz hc hx hlt2 hat hc1 hlt3
      have hd : 1 ≤ n - 1 - 1 := by omega
      gi_wp2
      refine (RoundIn.wider hR l2 _).mono ?_
      rintro e W3 (⟨rfl, hJ3, hk3, hf3⟩ | ⟨rfl, hJx3, hf3⟩)
      · have HF := Lib.hid (And.intro hJ3 (And.intro hk3 hf3))
        clear hJ3 hk3 hf3
        gi_wp2
        refine ⟨keepsFrom_upO HF.out.2.2 HZ.out, HF.out.2.1, ?_, HK2.out.trans HF.out.2.1⟩
        rw [List.length_append, List.length_range, List.length_singleton, HC.out.1, List.range_succ]
        exact HF.out.1
      · have HF := Lib.hid (And.intro hJx3 hf3)
        clear hJx3 hf3
        gi_wp2
        refine ⟨keepsFrom_upO HF.out.2 HZ.out, rfl, cntO l x + 1, HC.out.2, ?_⟩
        rw [List.range_succ]
        exact HF.out.1
  case done =>
    rintro D xs W2 hD rfl ⟨hJ2, hk2⟩ hK
    rw [List.length_range] at hJ2
    have HE := Lib.hid (show J (List.range N) W2 by rw [← HNN.out]; exact hJ2)
    clear hJ2
    gi_wp2
    show LeavesInM _ _ _ _ _ _ _ _ _
    refine ⟨by simp, .inl ⟨_, _, rfl, run_takeDeferred hK, ?_⟩⟩
    exact ⟨_, results_none rfl _ _ _, ⟨_, rfl⟩, .inl ⟨_, rfl, HJ.out.putObj _ HE.out (by omega) hK rfl⟩⟩
  case stop =>
    rintro D c pre W2 hD hpre ⟨rfl, j, hj, hx⟩ hK
    gi_wp2
    show LeavesInM _ _ _ _ _ _ _ _ _
    refine ⟨by simp, .inl ⟨_, _, rfl, run_takeDeferred hK, ?_⟩⟩
    exact ⟨_, results_none rfl _ _ _, ⟨_, rfl⟩, .inr ⟨_, ⟨j, hj, rfl⟩, HJX.out.putObj _ hx (by omega) hK rfl⟩⟩
theorem open_seqS (n : Nat) (hn : 4 ≤ n) (Bk : Nat) (M : Nat → Prop) (l : List Int) (hl : l.length ≤ 64) (N : Nat) (hN : (openL l).length = N) (w : World) (hM : ∀ k, M k → k < w.heap.size) (hBk : ¬ M Bk) (hH : BkS 115 w Bk (cntC l)) :
    SeqS Fence.wide n Try.prog 65 #[.pointer (some ⟨Bk, 0, none⟩)] (opV l) (KeepC M) (fun xs => xs = List.range N) (fun pre => ∃ j, j ≤ N ∧ pre = List.range j) (AtO N) w := fun q J Jx W hb hJ hJx hY h0 =>
  open1_in n hn q Bk M l hl N hN J Jx W hJ hJx hY (fun k h => Nat.lt_of_lt_of_le (hM k h) hb.size) hBk (hH.adds hb) h0
end Go.Proofs.Ytedllkahalfjgaa
