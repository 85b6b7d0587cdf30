/- Steps' sequence: a range over pieces that writes each one to a digest of its own and hands the sum on. -/
import Derived.Test.YtbhggjgghngeeaaDoorDE1
namespace Go.Proofs.YtbhggjgghngeeaaDoor
open Go Go.RowKit Go.Shelf
attribute [local go_sem] Oper.semAt_some

def pv (ao : Option Addr) : Nat → Value
  | 0 => .slice none 0 0
  | k + 1 => oneAt ao k
def plD (bs : List UInt8) : Nat → List UInt8
  | 0 => []
  | k + 1 => [bs.getD k 0]
theorem pieceD_eq (ao : Option Addr) (x : Nat) : pieceD ao x = #[.int .i64 (x : Nat), pv ao x] := by cases x <;> rfl
theorem pv_form (ao : Option Addr) (x : Nat) : ∃ a l c, pv ao x = .slice a l c := by cases x <;> exact ⟨_, _, _, rfl⟩
theorem pv_bytes {n : Nat} {w : World} {ao : Option Addr} {cap : Nat} {bs : List UInt8} (h : Bytes n w (.slice ao bs.length cap) bs) (x : Nat) (hx : x ≤ bs.length) : Bytes n w (pv ao x) (plD bs x) := by
  cases x with
  | zero => exact Bytes.nil w
  | succ k =>
    obtain ⟨ao', cap', e, h1, h2, h3⟩ := h
    cases e
    obtain ⟨b, off, rfl, hb, hc⟩ := h3 (by rintro rfl; simp at hx)
    refine ⟨_, 1, rfl, by simp [plD], by simp [maxLen], fun _ => ⟨b, off + k, by simp [Addr.add], hb, fun i hi => ?_⟩⟩
    obtain rfl : i = 0 := by simpa [plD] using hi
    exact hc k hx
/-- The digest behind the first x pieces (none counts as one). -/
def digAt (bs : List UInt8) (m : Nat) : List Value := digK 256 (bitsS (bs.take (m - 1))) (m - 1)
theorem digAt_next (bs : List UInt8) (x : Nat) (hx : x ≤ bs.length) :
    digK 256 (foldL (bitsS (bs.take (x - 1))) [plD bs x]) ((x - 1) + ([plD bs x] : List (List UInt8)).flatten.length) = digAt bs (x + 1) := by
  cases x with
  | zero => rfl
  | succ k =>
    have h1 : foldL (bitsS (bs.take (k + 1 - 1))) [plD bs (k + 1)] = bitsS (bs.take (k + 1)) := by
      show foldS (foldS all1 (bs.take k)) [bs.getD k 0] = foldS all1 (bs.take (k + 1))
      rw [← foldS_take all1 bs k hx]
      rfl
    rw [h1]
    rfl
abbrev stepV (bs : List UInt8) (x : Nat) : Array Value := #[.int .i64 (x : Nat), .int .u64 (sumS (bs.take x) : Nat)]

set_option maxHeartbeats 1000000 in
theorem piecesD_any (ao : Option Addr) (len cap : Nat) (w : World) :
    Calls Tryd.prog 35 #[.slice ao len cap] w fun e w' =>
      e = .returned (.func (.func 49) #[] #[.pointer (some ⟨w.heap.size, 0, none⟩)]) ∧ w.alloc (.cells #[.slice ao len cap] 22) = w' := by
  go_enter Tryd.func35, Tryd.ntmps35
  go_wp2
  go_ret
  exact ⟨rfl, rfl⟩

theorem keepC_stable {β : Type} (M : Nat → Prop) {B : Nat} {W : World} (hB : W.heap.size ≤ B) : Stable B (fun (_ : β) W' => KeepC M W W') := fun _ A C hs hb k c e f hk hc =>
  (hb.block k (Nat.lt_of_lt_of_le (Array.getElem?_eq_some_iff.1 hc).1 hB)).trans (hs k c e f hk hc)
theorem KeepC.of_turns {M : Nat → Prop} {b : Nat} {W W' : World} (h : Turns b W W') (hb : M b) : KeepC M W W' := fun k c e f hk hc =>
  (h.block k (Array.getElem?_eq_some_iff.1 hc).1 (fun e' => hk (by cases e'; exact hb))).trans hc
theorem bytes_keep2 {M : Nat → Prop} {n : Nat} {W W' : World} {ao : Option Addr} {len cap : Nat} {bs : List UInt8} (h : Bytes n W (.slice ao len cap) bs) (hk : KeepC M W W') (hM : ∀ b, b < W.heap.size → (∃ o, ao = some ⟨b, o, none⟩) → ¬ M b) : Bytes n W' (.slice ao len cap) bs := by
  obtain ⟨ao', cap', e, h1, h2, h3⟩ := h
  cases e
  refine ⟨_, _, rfl, h1, h2, fun hl => ?_⟩
  obtain ⟨b, off, e, hbn, hc⟩ := h3 hl
  exact ⟨b, off, e, hbn, fun i hi => hk.cell (hM b (World.block_lt_of_cell? W _ (hc i hi)) ⟨off, e⟩) (hc i hi)⟩
theorem write_step (bd : Nat) (bs : List UInt8) (x : Nat) (v : Value) (W : World) (hx : x ≤ bs.length) (hl : bs.length ≤ 9223372036854775806) (hv : Bytes W.heap.size W v (plD bs x)) (hB : Blk W bd (digAt bs x)) :
    Calls Tryd.prog 18 #[.pointer (some ⟨bd, 0, none⟩), .slice (some ⟨W.heap.size, 0, none⟩) 1 1] (W.alloc (.cells #[v] 22)) fun e w' =>
      e = .returned (.int .i64 0) ∧ Blk w' bd (digAt bs (x + 1)) ∧ Turns bd (W.alloc (.cells #[v] 22)) w' := by
  have hp : (plD bs x).length ≤ 1 := by cases x <;> simp [plD]
  have := write_any bd (bitsS (bs.take (x - 1))) (x - 1) (bitsS_lt _) _ [plD bs x] _ (lists_1 W v _ (Nat.le_refl _) hv) (hB.adds (adds_new _ _)) (by simp; omega)
  unfold WritePost at this
  rw [digAt_next bs x hx] at this
  exact this
theorem sum_step (bd : Nat) (bs : List UInt8) (x : Nat) (W : World) (hB : Blk W bd (digAt bs (x + 1))) :
    Calls Tryd.prog 22 #[.pointer (some ⟨bd, 0, none⟩)] W fun e w' => e = .returned (.int .u64 (sumS (bs.take x) : Nat)) ∧ W = w' :=
  sum_full bd (bitsS (bs.take x)) x (bitsS_lt _) W hB
theorem steps_keep {M : Nat → Prop} {b : Nat} {W2 W3 W4 : World} (h : Turns b W2 W3) (k : KeepC M W3.drew W4) : KeepC (fun k => M k ∨ k = b) W2 W4 := fun i c e f hi hc =>
  k i c e f (fun hm => hi (.inl hm)) (KeepC.of_turns (M := fun k => M k ∨ k = b) h (.inr rfl) i c e f hi hc)
theorem digAt_zero (bs : List UInt8) : digAt bs 0 = digK 256 all1 0 := rfl

set_option maxRecDepth 100000 in
set_option maxHeartbeats 4000000 in
theorem steps1_in (B n : Nat) (hn : 4 ≤ n) (l Bk : Nat) (M : Nat → Prop) (ao : Option Addr) (cap : Nat) (bs : List UInt8) (J Jx : List Nat → World → Prop)
    (W : World) (hJ : Stable W.heap.size J) (hJx : Stable W.heap.size Jx)
    (hY : ∀ pre x W, J pre W → AtIx (bs.length + 1) pre x → YieldAt Fence.wide (n - 1) Tryd.prog l (stepV bs x) W fun e W' =>
      (e = .returned (.bool true) ∧ J (pre ++ [x]) W' ∧ KeepC M W W' ∧ KeepsFrom B W W') ∨ (e = .returned (.bool false) ∧ Jx (pre ++ [x]) W' ∧ KeepsFrom B W W'))
    (hB : B ≤ W.heap.size) (hM : ∀ b, M b → b < W.heap.size) (nv : Nat) (hv : Bytes nv W (.slice ao bs.length cap) bs) (hvM : ∀ b o, ao = some ⟨b, o, none⟩ → ¬ M b)
    (hMk : ¬ M Bk) (ck : W.cell? ⟨Bk, 0, none⟩ = some (.slice ao bs.length cap)) (h0 : J [] W) (hlen : bs.length ≤ 9223372036854775806) :
    CallsIn Fence.wide n Tryd.prog 34 #[.func (.yield l) #[] #[], .pointer (some ⟨Bk, 0, none⟩)] W fun e W' => (∃ v, e = .returned v) ∧
      ((∃ ys, ys = List.range (bs.length + 1) ∧ J ys W') ∨ (∃ pre, (∃ j, j ≤ bs.length + 1 ∧ pre = List.range j) ∧ Jx pre W')) := by
  have HY := Lib.hid hY; clear hY
  have HV := Lib.hid hv; clear hv
  have HJ := Lib.hid hJ; clear hJ
  have HJX := Lib.hid hJx; clear hJx
  have HM := Lib.hid hM; clear hM
  have HMK := Lib.hid hMk; clear hMk
  have HVM := Lib.hid hvM; clear hvM
  refine callsIn_of_wp_marks Tryd.func34 rfl trivial ?_ rfl
  simp only [Tryd.ntmps34, List.size_toArray, List.length_cons, List.length_nil, Nat.reduceAdd, Nat.reduceSub, Array.replicate_succ, Array.replicate_zero, List.push_toArray, List.append_toArray, List.nil_append, List.cons_append]
  gi_wp2
  refine wpIn_scope_straight ?_
  generalize hWa : W.alloc (Obj.cells #[Value.func (Fn.yield l) #[] #[]] _) = Wa
  have HA := Lib.hid (hWa ▸ Adds.new W _ : Adds W Wa)
  have hsa : W.heap.size < Wa.heap.size := by rw [← hWa]; simp
  have ca1 : Wa.cell? ⟨Bk, 0, none⟩ = some (.slice ao bs.length cap) := HA.out.cellAt ck
  have ca2 : Wa.cell? ⟨W.heap.size, 0, none⟩ = some (.func (.yield l) #[] #[]) := by rw [← hWa]; simp
  have HWA := Lib.hid hWa; clear hWa
  have HN := Lib.hid (new_any Wa)
  have h1n : 1 ≤ n := by omega
  apply wpIn_seq_k; intro K0 hK0
  gi_wp2_with (refine ⟨trivial, ?_⟩; gi_at_call 16; refine (callsIn_wide.2 HN.out).mono ?_; rintro e Wn ⟨bd, rfl, hbd, hBd, hAn⟩; have HBD := Lib.hid hBd; clear hBd; have HAN := Lib.hid hAn; clear hAn)
  rename_i K1 hK1
  refine wpIn_label ?_
  refine hK1 _ _ ?_
  clear hK1 K1
  generalize hWd : Wn.alloc (Obj.cells #[Value.pointer (some { block := bd, off := 0 })] _) = Wd
  have HD := Lib.hid (hWd ▸ HAN.out.trans (Adds.new Wn _) : Adds Wa Wd)
  have hsn : Wa.heap.size ≤ Wn.heap.size := HAN.out.size
  have HSD := Lib.hid (show Wd.heap.size = Wn.heap.size + 1 by rw [← hWd]; simp)
  have cd1 : Wd.cell? ⟨Bk, 0, none⟩ = some (.slice ao bs.length cap) := HD.out.cellAt ca1
  have cd2 : Wd.cell? ⟨W.heap.size, 0, none⟩ = some (.func (.yield l) #[] #[]) := HD.out.cellAt ca2
  have cd3 : Wd.cell? ⟨Wn.heap.size, 0, none⟩ = some (.pointer (some ⟨bd, 0, none⟩)) := by rw [← hWd]; simp
  have hbdl := HBD.out.lt
  have HBD2 := Lib.hid (show Blk Wd bd (digAt bs 0) from hWd ▸ HBD.out.adds (Adds.new Wn _))
  have HWD := Lib.hid hWd; clear hWd
  gi_wp2_with (refine ⟨trivial, ?_⟩; gi_at_call 35; refine (callsIn_wide.2 (piecesD_any _ _ _ _)).mono ?_; rintro e w' ⟨rfl, rfl⟩)
  have hsd := HSD.out
  generalize hWb : World.alloc Wd _ = Wb
  have HB := Lib.hid (hWb ▸ (Adds.new Wd _) : Adds Wd Wb)
  have hsb : Wb.heap.size = Wd.heap.size + 1 := by rw [← hWb]; simp
  have cb0 : Wb.cell? ⟨Wd.heap.size, 0, none⟩ = some (.slice ao bs.length cap) := by rw [← hWb]; simp
  have cb2 : Wb.cell? ⟨W.heap.size, 0, none⟩ = some (.func (.yield l) #[] #[]) := HB.out.cellAt cd2
  have cb3 : Wb.cell? ⟨Wn.heap.size, 0, none⟩ = some (.pointer (some ⟨bd, 0, none⟩)) := HB.out.cellAt cd3
  have HBD3 := Lib.hid (HBD2.out.adds HB.out)
  have HWB := Lib.hid hWb; clear hWb
  have HAB := Lib.hid (HA.out.trans (HD.out.trans HB.out))
  have hq2 : Wn.heap.size < Wd.heap.size := by omega
  have hq3 : Wd.heap.size < Wb.heap.size := by omega
  clear hsd hsb
  have hcaps : bs.length ≤ cap ∧ cap ≤ 9223372036854775807 := by
    obtain ⟨_, _, e, h1, h2, _⟩ := HV.out
    cases e
    exact ⟨h1, h2⟩
  have HAO := Lib.hid (show bs ≠ [] → ∃ b off, ao = some ⟨b, off, none⟩ from fun h => by
    obtain ⟨_, _, e, _, _, h3⟩ := HV.out
    cases e
    obtain ⟨b, off, e, _⟩ := h3 h
    exact ⟨b, off, e⟩)
  refine rangeFunc_S rfl (by omega) (gf := 49) (lb := #[.pointer (some ⟨Wd.heap.size, 0, none⟩)]) rfl trivial (enters_of Tryd.func49 (by kernel_rfl) rfl)
    (w0 := Wb) (G := AtIx (bs.length + 1)) (encs := fun x => #[.int .i64 ((x : Nat) : Int), pv ao x]) (Kp := KeepC (fun k => M k ∨ k = bd)) (S := fun xs => xs = List.range (bs.length + 1)) (Sp := fun pre => ∃ j, j ≤ bs.length + 1 ∧ pre = List.range j)
    ?seq KeepC.trans (fun W l o o' _ h hc _ => KeepC.put W l o o' h hc) (Below.refl _ _) (fun _ => rfl)
    (fun pre Wr => J pre Wr ∧ KeepC (fun k => M k ∨ k = bd) Wb Wr ∧ Blk Wr bd (digAt bs pre.length)) (fun c pre Wr => c = .exit 0 ∧ Jx pre Wr) ?own ?ownx ?h0
    (fun x => { tmps := #[Value.func (Fn.yield l) #[] #[], Value.pointer (some { block := Bk, off := 0 }), Value.pointer (some { block := W.heap.size, off := 0 }), Value.pointer (some { block := Wn.heap.size, off := 0 }),
        .int .i64 ((x : Nat) : Int), pv ao x, Value.pointer (some { block := bd, off := 0 }), Value.slice ao bs.length cap, .func (.func 49) #[] #[.pointer (some ⟨Wd.heap.size, 0, none⟩)],
        .int .i64 ((x : Nat) : Int), pv ao x, undef, undef, undef, undef, undef, undef, undef, undef, undef, undef], defers := [] }) ?assign ?body ?done ?stop
  case own =>
    refine (Stable.higher HJ.out (by omega)).and (Stable.and (keepC_stable _ (Nat.le_refl _)) (fun s A C hs hb => (hb.block bd (by omega)).trans hs))
  case ownx => exact fun c s A C hs hb => ⟨hs.1, HJX.out s A C hs.2 (hb.mono (by omega))⟩
  case seq =>
    intro l' J' Jx' W2 hb _ _ hY' h0'
    refine piecesD_in W2.heap.size (n - 1) (by omega) l' _ (fun k => M k ∨ k = bd) ao cap bs J' Jx' (fun pre x W hj hg => by rw [pieceD_eq]; exact hY' pre x W hj hg) W2 hcaps.1 hcaps.2 HAO.out ?_ ?_ h0'
    · rintro (hm | hm)
      · have := HM.out _ hm; omega
      · omega
    · exact Adds.cellAt hb cb0
  case h0 => exact ⟨HJ.out _ _ _ h0 HAB.out, KeepC.refl _ _, HBD3.out⟩
  case assign =>
    intro l2 x W2 K hK
    gi_wp2
    exact hK
  case body =>
    rintro l2 pre x W2 ⟨hJ2, hk2, hB2⟩ hg
    have hd : 1 ≤ n - 1 - 1 := by omega
    have hmx : Tryd.prog.follows .mixedOrders = true := by kernel_rfl
    obtain ⟨hx1, hpre⟩ := id hg
    have hpl : pre.length = x := by rw [hpre, List.length_range]
    rw [hpl] at hB2
    have HPL := Lib.hid hpl; clear hpl hpre
    have HG := Lib.hid hg; clear hg
    have c23 : W2.cell? ⟨Wn.heap.size, 0, none⟩ = some (.pointer (some ⟨bd, 0, none⟩)) := hk2.cell (by rintro (hm | hm); (· have := HM.out _ hm; omega); omega) cb3
    have c22 : W2.cell? ⟨W.heap.size, 0, none⟩ = some (.func (.yield l) #[] #[]) := hk2.cell (by rintro (hm | hm); (· have := HM.out _ hm; omega); omega) cb2
    have hvb := bytes_keep2 HV.out ((KeepC.of_below HAB.out).trans hk2) (by
      rintro b hb ⟨o, ho⟩ (hm | hm)
      · exact HVM.out b o ho hm
      · omega)
    have hpb := (pv_bytes hvb x (by omega)).here
    obtain ⟨pa, pl, pc, hp⟩ := pv_form ao x
    rw [hp] at hpb ⊢
    clear hp hvb
    have HW := Lib.hid (write_step bd bs x (.slice pa pl pc) W2 (by omega) (by omega) hpb hB2)
    have HPB := Lib.hid hpb; clear hpb
    have HB2 := Lib.hid hB2; clear hB2
    have HK2 := Lib.hid hk2; clear hk2
    have HJ2 := Lib.hid hJ2; clear hJ2
    have hx2 : x ≤ bs.length := by omega
    gi_wp2_with (refine ⟨trivial, ?_⟩; gi_at_call 18; refine (CallsIn.inRound l2 (callsIn_wide.2 HW.out)).mono ?_; rintro e W3 ⟨rfl, hB3, ht3⟩; have HB3 := Lib.hid hB3; clear hB3; have HT3 := Lib.hid ((Turns.alloc bd W2 _).trans ht3); clear ht3)
    have hbdl2 := HB2.out.lt
    have HK3 := Lib.hid (HK2.out.trans (KeepC.of_turns (M := fun k => M k ∨ k = bd) HT3.out (.inr rfl)))
    have hJ3 : J pre W3 := HJ.out _ _ _ HJ2.out ((HT3.out.below (Nat.le_of_lt hbdl2)).mono (by omega))
    have c33 : W3.cell? ⟨Wn.heap.size, 0, none⟩ = some (.pointer (some ⟨bd, 0, none⟩)) := HK3.out.cell (by rintro (hm | hm); (· have := HM.out _ hm; omega); omega) cb3
    have c32 : W3.cell? ⟨W.heap.size, 0, none⟩ = some (.func (.yield l) #[] #[]) := HK3.out.cell (by rintro (hm | hm); (· have := HM.out _ hm; omega); omega) cb2
    have hJ3d : J pre W3.drew := HJ.out _ _ _ hJ3 (Below.refl _ _).drew
    have HS := Lib.hid (sum_step bd bs x W3.drew (show Blk W3.drew bd (digAt bs (x + 1)) from HB3.out))
    obtain ⟨fn, tmps, assign, body, hy, hR⟩ := HY.out pre x W3.drew hJ3d HG.out
    dsimp only [stepV] at hy
    obtain ⟨sv, hsv⟩ : ∃ sv, sumS (bs.take x) = sv := ⟨_, rfl⟩
    rw [hsv] at hy HS
    clear hsv
    have HRR := Lib.hid (hR.mono (R' := fun e W' => ∃ tb : Bool, e = .returned (.bool tb) ∧ KeepsFrom B W3.drew W' ∧ (tb = true → J (pre ++ [x]) W' ∧ KeepC M W3.drew W') ∧ (tb = false → Jx (pre ++ [x]) W')) (by
      rintro e W' (⟨rfl, h1, h2, h3⟩ | ⟨rfl, h1, h2⟩)
      · exact ⟨true, rfl, h3, fun _ => ⟨h1, h2⟩, fun h => (by cases h)⟩
      · exact ⟨false, rfl, h2, fun h => (by cases h), fun _ => h1⟩)); clear hR
    clear hJ3 hJ3d
    gi_region_with_o (first
      | (refine ⟨trivial, ?_⟩; gi_at_call 22; refine (CallsIn.inRound l2 (callsIn_wide.2 HS.out)).mono ?_; rintro e w' ⟨rfl, rfl⟩)
      | (refine (RoundIn.wider HRR.out l2 _).mono ?_; rintro e W4 ⟨tb, rfl, hf4, hh4⟩; have HH4 := Lib.hid hh4; clear hh4))
    all_goals cases tb
    all_goals gi_wp2
    all_goals have hkf : KeepsFrom Wb.heap.size W2 W4 := (KeepsFrom.of_grownBy HT3.out (fun j e => by cases e; omega)).trans (((KeepsOthers.drew W3).from _).trans (KeepsFrom.higher hf4 (by omega)))
    all_goals first
      | exact ⟨hkf, rfl, HH4.out.2 (by simp)⟩
      | exact ⟨hkf, steps_keep HT3.out (HH4.out.1 (by simp)).2, (HH4.out.1 (by simp)).1, HK2.out.trans (steps_keep HT3.out (HH4.out.1 (by simp)).2), by
          rw [List.length_append, HPL.out]
          exact (HH4.out.1 (by simp)).2 bd _ _ _ (fun hm => by have := HM.out _ hm; omega) HB3.out⟩
  case done =>
    rintro D xs W2 hD rfl ⟨hJ2, hk2⟩ hK
    gi_wp2
    show LeavesInM _ _ _ _ _ _ _ _ _
    refine ⟨by simp, .inl ⟨_, _, rfl, run_takeDeferred hK, ?_⟩⟩
    exact ⟨_, results_none rfl _ _ _, ⟨_, rfl⟩, .inl ⟨_, rfl, HJ.out.putObj _ hJ2 (by omega) hK rfl⟩⟩
  case stop =>
    rintro D c pre W2 hD hpre ⟨rfl, hx⟩ hK
    gi_wp2
    show LeavesInM _ _ _ _ _ _ _ _ _
    refine ⟨by simp, .inl ⟨_, _, rfl, run_takeDeferred hK, ?_⟩⟩
    exact ⟨_, results_none rfl _ _ _, ⟨_, rfl⟩, .inr ⟨_, hpre, HJX.out.putObj _ hx (by omega) hK rfl⟩⟩
end Go.Proofs.YtbhggjgghngeeaaDoor
