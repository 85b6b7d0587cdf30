/- Instructions one behind the other: plain; bytes.Clone; the inner iterator's contract, at the wide fence. -/
import Derived.RangeFuncBox
import Derived.Test.YtdbbilabhlnhmaaGreatDoorIQ4
import Derived.Test.YtdbbilabhlnhmaaGreatDoorBC
namespace Go.Proofs.YtdbbilabhlnhmaaGreatDoor
open Go Go.RowKit Go.Shelf
attribute [local go_sem] Oper.semAt_some

/-- Where instruction j begins; what is read there; how many there are. -/
def posI (l : List UInt8) : Nat → Nat
  | 0 => 0
  | j + 1 => posI l j + (readI (l.drop (posI l j))).2.1
def ansI (l : List UInt8) (j : Nat) : In × Nat × Int := readI (l.drop (posI l j))
def cntI (l : List UInt8) : Nat := (List.range (l.length + 1)).findIdx fun j => !decide ((ansI l j).2.2 = 0)
theorem posI_succ (l : List UInt8) (j : Nat) : posI l (j + 1) = posI l j + (ansI l j).2.1 := rfl
theorem cnt_ok {l : List UInt8} {j : Nat} (h : j < cntI l) : (ansI l j).2.2 = 0 := by
  have h1 := List.not_of_lt_findIdx h
  simpa using h1
theorem pos_le (l : List UInt8) : ∀ j, j ≤ cntI l → j ≤ posI l j ∧ posI l j ≤ l.length
  | 0, _ => ⟨Nat.le_refl _, Nat.zero_le _⟩
  | j + 1, h => by
    have ih := pos_le l j (by omega)
    have he := cnt_ok (l := l) (j := j) (by omega)
    obtain ⟨x, n, er, hx, _, _, hok, _⟩ := readI_cases (l.drop (posI l j))
    unfold ansI at he
    rw [hx] at he
    obtain ⟨_, _, h3, h4, _⟩ := hok he
    rw [List.length_drop] at h3
    have e : posI l (j + 1) = posI l j + n := by rw [posI_succ]; unfold ansI; rw [hx]
    rw [e]
    omega
theorem cnt_le (l : List UInt8) : cntI l ≤ l.length := by
  have h1 : cntI l ≤ (List.range (l.length + 1)).length := List.findIdx_le_length
  rw [List.length_range] at h1
  rcases Nat.lt_or_ge (cntI l) (l.length + 1) with h | h
  · omega
  · have := pos_le l (l.length + 1) h
    omega
theorem cnt_end (l : List UInt8) : (ansI l (cntI l)).2.2 ≠ 0 := by
  have hlt : cntI l < (List.range (l.length + 1)).length := by rw [List.length_range]; have := cnt_le l; omega
  have h := List.findIdx_getElem (xs := List.range (l.length + 1)) (p := fun j => !decide ((ansI l j).2.2 = 0)) (w := hlt)
  change (!decide ((ansI l ((List.range (l.length + 1))[cntI l]'hlt)).2.2 = 0)) = true at h
  rw [List.getElem_range] at h
  simpa using h
def xI (l : List UInt8) (j : Nat) : In := (ansI l j).1
theorem ans_ok {l : List UInt8} {j : Nat} (h : j < cntI l) : ∃ m, readI (l.drop (posI l j)) = (xI l j, m, 0) ∧ posI l (j + 1) = posI l j + m ∧ 0 < m ∧ posI l j + m ≤ l.length := by
  have he := cnt_ok h
  obtain ⟨x, n, er, hx, _, _, hok, _⟩ := readI_cases (l.drop (posI l j))
  have e : ansI l j = (x, n, er) := hx
  rw [e] at he
  simp only at he
  subst he
  obtain ⟨_, _, h3, h4, _⟩ := hok rfl
  have hp := (pos_le l j (by omega)).2
  rw [List.length_drop] at h3
  refine ⟨n, ?_, ?_, h4, by omega⟩
  · rw [hx]; unfold xI; rw [e]
  · rw [posI_succ, e]

/-- The round that comes next, of N. -/
def AtJ8 (N : Nat) (pre : List Nat) (x : Nat) : Prop := x < N ∧ pre = List.range x
abbrev ixI (l : List UInt8) (x : Nat) : Array Value := #[.int .i64 ((posI l x : Nat) : Int), insV (xI l x)]
theorem bytes_keep {M : Nat → Prop} {n : Nat} {w w' : World} {ao : Option Addr} {cap : Nat} {l : List UInt8} (h : Bytes n w (.slice ao l.length cap) l) (hk : KeepC M w w') (hM : ∀ b o, ao = some ⟨b, o, none⟩ → ¬ M b) : Bytes n w' (.slice ao l.length cap) l := by
  obtain ⟨ao', cap', e, h1, h2, h3⟩ := h
  simp only [Value.slice.injEq, true_and] at e
  obtain ⟨rfl, rfl⟩ := e
  exact ⟨ao, cap, rfl, h1, h2, fun hl => by obtain ⟨b, off, e, hb, hc⟩ := h3 hl; exact ⟨b, off, e, hb, fun i hi => hk.cell (hM b off e) (hc i hi)⟩⟩
theorem Widths.keep8 {M : Nat → Prop} {W W' : World} (h : Widths W) (hk : KeepC M W W') (h0 : ¬ M 1) : Widths W' := ⟨hk.cell h0 h.c0, hk.cell h0 h.c1, hk.cell h0 h.c2, hk.cell h0 h.c3⟩

set_option maxRecDepth 100000 in
set_option maxHeartbeats 4000000 in
theorem clone8 (n : Nat) (v : Value) (l : List UInt8) (w : World) (hv : Bytes n w v l) (hl : l.length ≤ 1048576) : Calls Tryz.prog 42 #[v] w (GivesB l id w) := by
  have HV := Lib.hid hv
  obtain ⟨ao, cap, rfl, h1, h2, h3⟩ := hv
  cases ao with
  | none =>
    have hnil : l = [] := by
      apply Classical.byContradiction
      intro h
      obtain ⟨b, off, e, _⟩ := h3 h
      cases e
    clear h3
    have hq : ∀ W m, (binOp .eql 26 (.slice none m cap) (.slice none 0 0)).run Tryz.prog W = .ok (.bool true) W := fun W m => Lib.run_eql_slice_nil W _ 5 none _ _ _ _ (by kernel_rfl)
    go_enter Tryz.func42, Tryz.ntmps42
    go_wp2
    go_ret
    exact ⟨_, rfl, hnil ▸ OwnB.nil _ _, Adds.refl _⟩
  | some p =>
    clear h3
    go_enter Tryz.func42, Tryz.ntmps42
    have hq : ∀ W, (binOp .eql 26 (.slice (some p) l.length cap) (.slice none 0 0)).run Tryz.prog W = .ok (.bool false) W := fun W => Lib.run_eql_slice_nil W _ 5 (some p) _ _ _ _ (by kernel_rfl)
    have HE := Lib.hid (own_empty w)
    have BA := Lib.hid (Gr.new w (.cells #[] 5)).adds
    go_wp2_with (first
      | (at_builtin; refine wp_append_bytes rfl (.tmp 5) (.tmp 6) rfl w.heap.size _ [] rfl (by exact HE.out) _ l _ rfl (by exact HV.out.here.below BA.out) (by simp; omega) (by simp) ?_; intro v5 w5 o5 b5; have O5 := Lib.hid o5; clear o5; have B5 := Lib.hid (Below.trans BA.out b5); clear b5))
    go_ret
    exact ⟨_, rfl, O5.out, B5.out⟩

set_option maxRecDepth 100000 in
set_option maxHeartbeats 4000000 in
theorem instrs1_in {m0 : Nat} (B n : Nat) (hn : 1 ≤ n) (l Bw : Nat) (M : Nat → Prop) (ao : Option Addr) (cap : Nat) (L : List UInt8) (hl : L.length ≤ 1048576) (J Jx : List Nat → World → Prop) (W : World)
    (hJ : Stable W.heap.size J)
    (hY : ∀ pre x W1, J pre W1 → AtJ8 (cntI L) pre x → YieldAt Fence.wide (n - 1) Tryz.prog l (ixI L x) W1 fun z W' =>
      (z = .returned (.bool true) ∧ J (pre ++ [x]) W' ∧ KeepC M W1 W' ∧ KeepsFrom B W1 W') ∨ (z = .returned (.bool false) ∧ Jx (pre ++ [x]) W' ∧ KeepsFrom B W1 W'))
    (_hB : B ≤ W.heap.size) (hMB : ¬ M Bw) (hMa : ∀ b o, ao = some ⟨b, o, none⟩ → ¬ M b) (hMw : ¬ M 1) (c1 : W.cell? ⟨Bw, 0, none⟩ = some (.slice ao L.length cap)) (hP : Bytes m0 W (.slice ao L.length cap) L) (hw : Widths W) (h0 : J [] W) :
    CallsIn Fence.wide n Tryz.prog 82 #[.func (.yield l) #[] #[], .pointer (some ⟨Bw, 0, none⟩)] W fun z W' => (∃ v, z = .returned v) ∧
      ((∃ ys, ys = List.range (cntI L) ∧ J ys W') ∨ (∃ pre, (∃ j, j ≤ cntI L ∧ pre = List.range j) ∧ Jx pre W')) := by
  have HY := Lib.hid hY; have HJ := Lib.hid hJ; have HP := Lib.hid hP; have HL := Lib.hid hl; have HW := Lib.hid hw
  have HMs := Lib.hid (And.intro hMB (And.intro hMa hMw))
  clear hY hJ hl hw hP hMB hMa hMw
  refine callsIn_of_wp Tryz.func82 rfl trivial ?_ rfl
  simp only [Tryz.ntmps82, List.size_toArray, List.length_cons, List.length_nil, Nat.reduceAdd, Nat.reduceSub, Array.replicate_succ, Array.replicate_zero, List.push_toArray, List.append_toArray, List.nil_append, List.cons_append]
  gi_wp2
  gi_loopw [3] (fun i wr => ∃ k : Nat, i = .int .i64 ((posI L k : Nat) : Int) ∧ k ≤ cntI L ∧ J (List.range k) wr ∧ KeepC M W wr ∧ W.heap.size ≤ wr.heap.size) (fun i _ => L.length + 1 - (intOf i).toNat)
  case atStart => exact ⟨0, rfl, Nat.zero_le _, h0, KeepC.refl _ _, Nat.le_refl _⟩
  case round =>
    obtain ⟨k, rfl, hk, hJs, hnx, hsz⟩ := hrel
    have HX := Lib.hid hnx; have HJs := Lib.hid hJs; have HSz := Lib.hid hsz
    have hpos := pos_le L k hk
    have d1 : wr.cell? ⟨Bw, 0, none⟩ = some (.slice ao L.length cap) := HX.out.cell HMs.out.1 c1
    have HBy := Lib.hid (bytes_keep HP.out HX.out HMs.out.2.1)
    have HWr := Lib.hid (HW.out.keep8 HX.out HMs.out.2.2)
    have HF := Lib.hid (fun W => from8 ao L.length cap (posI L k) hpos.2 W)
    have HRd := Lib.hid (read8 (cutF ao L.length cap (posI L k)) (L.drop (posI L k)) wr (bytes_from HBy.out _ hpos.2) HWr.out)
    obtain ⟨cu, hcu⟩ : ∃ cu, cutF ao L.length cap (posI L k) = cu := ⟨_, rfl⟩
    rw [hcu] at HF HRd
    clear hnx hJs hsz hcu
    by_cases hlt : k < cntI L
    · obtain ⟨m, hr, hps, hm0, hml⟩ := ans_ok hlt
      rw [hr] at HRd
      have HPs := Lib.hid hps
      obtain ⟨p, hp⟩ : ∃ p, posI L k = p := ⟨_, rfl⟩
      have HLt := Lib.hid hlt
      have HK2 : Hid (∀ W1, Adds wr W1 → YieldAt Fence.wide (n - 1) Tryz.prog l #[.int .i64 (p : Int), insV (xI L k)] W1 fun z W' =>
          (z = .returned (.bool true) ∧ J (List.range k ++ [k]) W' ∧ KeepC M W1 W' ∧ KeepsFrom B W1 W') ∨ (z = .returned (.bool false) ∧ Jx (List.range k ++ [k]) W' ∧ KeepsFrom B W1 W')) :=
        Lib.hid fun W1 h1 => by
          have h := HY.out _ k W1 (HJ.out _ _ _ HJs.out (Below.mono h1 HSz.out)) ⟨HLt.out, rfl⟩
          unfold ixI at h
          rw [hp] at h
          exact h
      rw [hp] at HF HPs hpos hml ⊢
      clear hp hps hr hlt hk
      obtain ⟨⟨x0, x1, x2, x3, x4⟩, hx⟩ : ∃ x, xI L k = x := ⟨_, rfl⟩
      rw [hx] at HRd HK2
      clear hx
      have hpI : (p : Int) + (m : Int) ≤ 1048576 := by have := HL.out; omega
      have HPm := Lib.hid (And.intro hml hm0)
      clear hml hpos hm0
      gi_wp2_with (first
        | (refine ⟨trivial, ?_⟩; gi_at_call 83; refine (callsIn_wide.2 (HF.out _)).mono ?_; rintro e w1 ⟨rfl, rfl⟩)
        | (refine ⟨trivial, ?_⟩; gi_at_call 8; refine (callsIn_wide.2 HRd.out).mono ?_; rintro e w2 ⟨rfl, q⟩; have A2 := Lib.hid q; obtain ⟨wa, hwa⟩ : ∃ wa, w2.alloc (.cells #[.int .i64 x0, .int .i64 x1, .int .i64 x2, .int .i64 x3, .int .u32 x4] 25) = wa := ⟨_, rfl⟩; have bk : BkS 25 wa w2.heap.size [.int .i64 x0, .int .i64 x1, .int .i64 x2, .int .i64 x3, .int .u32 x4] := (by rw [← hwa]; exact BkS.new _ _ _); have A3 := Lib.hid (Adds.trans q (by rw [← hwa]; exact (Gr.new _ _).adds : Adds w2 wa)); have b0 : wa.cell? ⟨w2.heap.size, 0, none⟩ = some (.int .i64 x0) := bk.cell 0; have b1 : wa.cell? ⟨w2.heap.size, 1, none⟩ = some (.int .i64 x1) := bk.cell 1; have b2 : wa.cell? ⟨w2.heap.size, 2, none⟩ = some (.int .i64 x2) := bk.cell 2; have b3 : wa.cell? ⟨w2.heap.size, 3, none⟩ = some (.int .i64 x3) := bk.cell 3; have b4 : wa.cell? ⟨w2.heap.size, 4, none⟩ = some (.int .u32 x4) := bk.cell 4; obtain ⟨fn, tmps, assign, body, hy, hR⟩ := HK2.out wa A3.out; clear q bk))
      refine hR.mono ?_
      rintro e W3 (⟨rfl, hJ3, hk3, hf3⟩ | ⟨rfl, hJx3, _⟩)
      · have HJ3 := Lib.hid hJ3; have HX3 := Lib.hid (HX.out.trans ((KeepC.of_below A3.out).trans hk3)); have HS3 := Lib.hid (Nat.le_trans HSz.out (Nat.le_trans A3.out.size hf3.size))
        clear hJ3 hk3 hf3 hR hy hwa
        gi_wp2
        go_roundw
        case rel => exact ⟨k + 1, by rw [HPs.out]; go_num, HLt.out, by rw [List.range_succ]; exact HJ3.out, HX3.out, HS3.out⟩
        case measure => simp [intOf]; have := HPm.out; omega
      · have HJ3 := Lib.hid hJx3
        clear hJx3 hR hy hwa
        gi_wp2
        refine bodyPost_ret (results_none rfl _ _ _) rfl ?_
        exact ⟨⟨_, rfl⟩, .inr ⟨_, ⟨k + 1, HLt.out, (List.range_succ).symm⟩, HJ3.out⟩⟩
    · obtain rfl : k = cntI L := by omega
      have hE := cnt_end L
      unfold ansI at hE
      obtain ⟨x, m, er, hx, _⟩ := readI_cases (L.drop (posI L (cntI L)))
      rw [hx] at hE HRd
      have hE2 : (er != 0) = true := by simpa using hE
      obtain ⟨x0, x1, x2, x3, x4⟩ := x
      obtain ⟨p, hp⟩ : ∃ p, posI L (cntI L) = p := ⟨_, rfl⟩
      rw [hp] at HF ⊢
      clear hx hE hlt hp
      gi_wp2_with (first
        | (refine ⟨trivial, ?_⟩; gi_at_call 83; refine (callsIn_wide.2 (HF.out _)).mono ?_; rintro e w1 ⟨rfl, rfl⟩)
        | (refine ⟨trivial, ?_⟩; gi_at_call 8; refine (callsIn_wide.2 HRd.out).mono ?_; rintro e w2 ⟨rfl, q⟩; have A2 := Lib.hid q; clear q))
      refine ⟨fun f hf => absurd hf (by simp), ?_⟩
      gi_wp2
      refine bodyPost_ret (results_none rfl _ _ _) rfl ?_
      exact ⟨⟨_, rfl⟩, .inl ⟨_, rfl, HJ.out _ _ _ HJs.out (Below.mono (Adds.trans A2.out (Gr.new _ _).adds) HSz.out)⟩⟩
set_option maxRecDepth 100000 in
theorem instrs_any (ao : Option Addr) (len cap : Nat) (w : World) : Calls Tryz.prog 44 #[.slice ao len cap] w fun x w' => x = .returned (.func (.func 82) #[] #[.pointer (some ⟨w.heap.size, 0, none⟩)]) ∧ w.alloc (.cells #[.slice ao len cap] 68) = w' := by
  go_enter Tryz.func44, Tryz.ntmps44
  go_wp2
  go_ret
  exact ⟨rfl, rfl⟩
end Go.Proofs.YtdbbilabhlnhmaaGreatDoor
