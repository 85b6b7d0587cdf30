/- rising, Taken and its iterator: their contracts. -/
import Derived.Test.YtedllkahalfjgaaWI1
namespace Go.Proofs.Ytedllkahalfjgaa
open Go Go.RowKit Go.Shelf
attribute [local go_sem] Oper.semAt_some

theorem rising_any (Bk : Nat) (w : World) : Calls Try.prog 78 #[.pointer (some ⟨Bk, 0, none⟩)] w fun x w' =>
    x = .returned (.func (.func 87) #[] #[.pointer (some ⟨w.heap.size, 0, none⟩)]) ∧ w.alloc (.cells #[.pointer (some ⟨Bk, 0, none⟩)] 89) = w' := by
  go_enter Try.func78, Try.ntmps78
  go_wp2
  go_ret
  exact ⟨rfl, rfl⟩
theorem keepC_stableW (M : Nat → Prop) {B : Nat} {W : World} (hB : W.heap.size ≤ B) {β : Type} : Stable B (fun (_ : β) W' => KeepC M W W') := fun _ A C h hk => fun k c e f hm hc => by
  have hlt := (Array.getElem?_eq_some_iff.1 hc).1
  rw [hk.block k (by omega)]
  exact h k c e f hm hc
theorem keepsFrom_upW {B B' : Nat} {W W' : World} (h : KeepsFrom B W W') (hB : B ≤ B') : KeepsFrom B' W W' := ⟨h.size, fun k o hk ho hc => h.same k o (Nat.le_trans hB hk) ho hc⟩
theorem KeepC.putW {M : Nat → Prop} (W : World) (l : Nat) (o o' : Obj) (h : W.heap[l]? = some o) (hc : o.isCells = false) : KeepC M W (W.putObj l o') := KeepC.put W l o o' h hc
set_option maxRecDepth 100000 in
set_option maxHeartbeats 4000000 in
theorem taken1_in (n : Nat) (hn : 4 ≤ n) (l Bk : Nat) (M : Nat → Prop) (lv : List LM) (N : Nat) (hN : cnt (lv.map LM.lk) lv.length = N) (hl : lv.length ≤ 64) (hsv : ∀ x ∈ lv, ∃ ao cap, x.sv = .slice ao x.lk.rd.length cap) (J Jx : List Nat → World → Prop)
    (W : World) (hJ : Stable W.heap.size J) (hJx : Stable W.heap.size Jx)
    (hY : ∀ pre x W1, J pre W1 → AtU N pre x → YieldAt Fence.wide (n - 1) Try.prog l (tkV (lv.map LM.lk) x) W1 fun z W' =>
      (z = .returned (.bool true) ∧ J (pre ++ [x]) W' ∧ KeepC M W1 W' ∧ KeepsFrom W.heap.size W1 W') ∨ (z = .returned (.bool false) ∧ Jx (pre ++ [x]) W' ∧ KeepsFrom W.heap.size W1 W'))
    (hM : ∀ k, M k → k < W.heap.size) (hBk : ¬ M Bk) (hH : BkS 94 W Bk (listC lv)) (h0 : J [] W) :
    CallsIn Fence.wide n Try.prog 77 #[.func (.yield l) #[] #[], .pointer (some ⟨Bk, 0, none⟩)] W fun z W' => (∃ v, z = .returned v) ∧
      ((∃ ys, ys = List.range N ∧ J ys W') ∨ (∃ pre, (∃ j, j ≤ N ∧ pre = List.range j) ∧ Jx pre W')) := by
  have HY := Lib.hid hY; have HJ := Lib.hid hJ; have HJX := Lib.hid hJx; have HM := Lib.hid hM; have HH := Lib.hid hH; have HL := Lib.hid hl; have HNN := Lib.hid hN; have HSV := Lib.hid hsv; have HBK := Lib.hid hBk
  have HbW := Lib.hid hH.lt
  clear hY hJ hJx hM hl hH hN hsv hBk
  refine callsIn_of_wp_marks Try.func77 rfl trivial ?_ rfl
  simp only [Try.ntmps77, List.size_toArray, List.length_cons, List.length_nil, Nat.reduceAdd, Nat.reduceSub, Array.replicate_succ, Array.replicate_zero, List.push_toArray, List.append_toArray, List.nil_append, List.cons_append]
  gi_wp2
  refine wpIn_scope_straight ?_
  apply wpIn_seq_k; intro K1 hK1
  refine wpIn_label ?_
  refine hK1 _ _ ?_
  clear hK1 K1
  obtain ⟨Wa, hWa⟩ : ∃ Wa, W.alloc (Obj.cells #[Value.func (Fn.yield l) #[] #[]] 131) = Wa := ⟨_, rfl⟩
  have HA := Lib.hid (hWa ▸ (Gr.new W _).adds : Adds W Wa)
  have ca3 : Wa.cell? ⟨W.heap.size, 0, none⟩ = some (.func (.yield l) #[] #[]) := by rw [← hWa]; simp
  have hsa : W.heap.size + 1 = Wa.heap.size := by rw [← hWa]; simp
  have HSa := Lib.hid hsa
  rw [hWa]
  clear hWa hsa
  have h1n : 1 ≤ n := by omega
  gi_wp2_with (refine ⟨trivial, ?_⟩; gi_at_call 78; refine (callsIn_wide.2 (rising_any _ _)).mono ?_; rintro e w' ⟨rfl, rfl⟩)
  obtain ⟨Wb, hWb⟩ : ∃ Wb, World.alloc Wa (.cells #[.pointer (some ⟨Bk, 0, none⟩)] 89) = Wb := ⟨_, rfl⟩
  have HB := Lib.hid (hWb ▸ (Gr.new Wa _).adds : Adds Wa Wb)
  have cb0 : Wb.cell? ⟨Wa.heap.size, 0, none⟩ = some (.pointer (some ⟨Bk, 0, none⟩)) := by rw [← hWb]; simp
  have cb3 : Wb.cell? ⟨W.heap.size, 0, none⟩ = some (.func (.yield l) #[] #[]) := Adds.cellAt HB.out ca3
  have HAB := Lib.hid (Adds.trans HA.out HB.out)
  rw [hWb]
  clear hWb ca3
  have hz := HAB.out.size
  have HHb := Lib.hid (HH.out.adds HAB.out)
  refine' rangeFunc_S rfl (by omega) (gf := 87) (lb := #[.pointer (some ⟨Wa.heap.size, 0, none⟩)]) rfl trivial (enters_of Try.func87 (by kernel_rfl) rfl)
    (w0 := Wb) (G := AtU N) (encs := tkV (lv.map LM.lk)) (Kp := KeepC M) (S := fun xs => xs = List.range N) (Sp := fun pre => ∃ j, j ≤ N ∧ pre = List.range j)
    ?seq KeepC.trans (fun W l o o' hlt h hc _ => KeepC.put W l o o' h hc) (Below.refl _ _) (fun _ => rfl)
    (fun pre Wr => J pre Wr ∧ KeepC M Wb Wr) (fun c pre Wr => c = .exit 0 ∧ Jx pre Wr) ?own ?ownx ?h0 _ ?assign ?body ?done ?stop
  case assign =>
    intro l2 x W2 K hK
    have HK := Lib.hid hK; clear hK
    gi_wp2
    exact HK.out
  case own => exact (Stable.higher HJ.out (by omega)).and (keepC_stableW M (Nat.le_refl _))
  case ownx => exact fun c s A C hs hb => ⟨hs.1, HJX.out s A C hs.2 (hb.mono (by omega))⟩
  case seq =>
    intro l' J' Jx' W2 hb hJ' hJx' hY' h0'
    exact rising1_in W2.heap.size (n - 1) (by omega) l' _ Bk M lv N HNN.out HL.out HSV.out J' Jx' W2 hJ' hY' (Nat.le_refl _) (fun h => by have := HM.out _ h; have := HSa.out; omega) HBK.out (Adds.cellAt hb cb0) (HHb.out.adds hb) h0'
  case h0 => exact ⟨HJ.out _ _ _ h0 HAB.out, KeepC.refl _ _⟩
  case body =>
    rintro l2 pre x W2 ⟨hJ2, hk2⟩ hg
    have c2 : W2.cell? ⟨W.heap.size, 0, none⟩ = some (.func (.yield l) #[] #[]) := hk2.cell (fun hm => by have := HM.out _ hm; omega) cb3
    obtain ⟨fn, tmps, assign, body, hy, hR⟩ := HY.out pre x W2 hJ2 hg
    dsimp only [tkV] at hy ⊢
    obtain ⟨z, hzz⟩ : ∃ z, tkW (lv.map LM.lk) x = z := ⟨_, rfl⟩
    rw [hzz] at hy ⊢
    obtain ⟨y, hyy⟩ : ∃ y : Int, ((tkA (lv.map LM.lk) x : Nat) : Int) = y := ⟨_, rfl⟩
    rw [hyy] at hy ⊢
    have HK2 := Lib.hid hk2
    have HZ := Lib.hid hz
    clear hg hJ2 hk2 hz hyy hzz
    have hd : 1 ≤ n - 1 - 1 := by omega
    gi_wp2
    refine (RoundIn.wider hR l2 _).mono ?_
    rintro e W3 (⟨rfl, hJ3, hk3, hf3⟩ | ⟨rfl, hJx3, hf3⟩)
    · have HF := Lib.hid (And.intro hJ3 (And.intro hk3 hf3))
      clear hJ3 hk3 hf3
      gi_wp2
      exact ⟨keepsFrom_upW HF.out.2.2 HZ.out, HF.out.2.1, HF.out.1, HK2.out.trans HF.out.2.1⟩
    · have HF := Lib.hid (And.intro hJx3 hf3)
      clear hJx3 hf3
      gi_wp2
      exact ⟨keepsFrom_upW HF.out.2 HZ.out, rfl, HF.out.1⟩
  case done =>
    rintro D xs W2 hD rfl ⟨hJ2, hk2⟩ hK
    gi_wp2
    show LeavesInM _ _ _ _ _ _ _ _ _
    refine ⟨by simp, .inl ⟨_, _, rfl, run_takeDeferred hK, ?_⟩⟩
    exact ⟨_, results_none rfl _ _ _, ⟨_, rfl⟩, .inl ⟨_, rfl, HJ.out.putObj _ hJ2 (by omega) hK rfl⟩⟩
  case stop =>
    rintro D c pre W2 hD hpre ⟨rfl, hx⟩ hK
    gi_wp2
    show LeavesInM _ _ _ _ _ _ _ _ _
    refine ⟨by simp, .inl ⟨_, _, rfl, run_takeDeferred hK, ?_⟩⟩
    exact ⟨_, results_none rfl _ _ _, ⟨_, rfl⟩, .inr ⟨_, hpre, HJX.out.putObj _ hx (by omega) hK rfl⟩⟩
theorem taken_seqS (n : Nat) (hn : 4 ≤ n) (Bk : Nat) (M : Nat → Prop) (lv : List LM) (N : Nat) (hN : cnt (lv.map LM.lk) lv.length = N) (hl : lv.length ≤ 64) (hsv : ∀ x ∈ lv, ∃ ao cap, x.sv = .slice ao x.lk.rd.length cap) (w : World) (hM : ∀ k, M k → k < w.heap.size) (hBk : ¬ M Bk) (hH : BkS 94 w Bk (listC lv)) :
    SeqS Fence.wide n Try.prog 77 #[.pointer (some ⟨Bk, 0, none⟩)] (tkV (lv.map LM.lk)) (KeepC M) (fun xs => xs = List.range N) (fun pre => ∃ j, j ≤ N ∧ pre = List.range j) (AtU N) w := fun l J Jx W hb hJ hJx hY h0 =>
  taken1_in n hn l Bk M lv N hN hl hsv J Jx W hJ hJx hY (fun k h => Nat.lt_of_lt_of_le (hM k h) hb.size) hBk (hH.adds hb) h0
end Go.Proofs.Ytedllkahalfjgaa
