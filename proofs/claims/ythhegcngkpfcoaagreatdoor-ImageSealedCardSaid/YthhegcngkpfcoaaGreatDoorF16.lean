/- Merged: G10, M1, IR1. -/
import Derived.Test.YthhegcngkpfcoaaGreatDoorF15
import Derived.BigQuiet
import Derived.Test.YthhegcngkpfcoaaGreatDoorF4
import Derived.Test.YthhegcngkpfcoaaGreatDoorF10
namespace Go.Proofs.YthhegcngkpfcoaaGreatDoor
open Go Go.RowKit Go.Shelf

def checkP (p : Pg) : Int := if numsP p && (wrongP p).isNone then 0 else 2
set_option maxRecDepth 100000 in
set_option maxHeartbeats 4000000 in
theorem checkP_any {m : Nat} (u : Value) (p : Pg) (w : World) (hf : FuncsW m w u p.1) : Calls Tryz.prog 20 #[pgV u p] w fun e w' => e = .returned (.int .i64 (checkP p)) ∧ Adds w w' := by
  have HNu := Lib.hid (fun (W : World) (h : Adds w W) => numsP_any u p W (hf.adds h))
  have HWr := Lib.hid (fun (W : World) (h : Adds w W) => wrong_any u p W (hf.adds h))
  unfold checkP
  obtain ⟨fs, x1, x2, x3⟩ := p
  obtain ⟨ao, cap, rfl, _, _, _⟩ := hf
  generalize numsP (fs, x1, x2, x3) = nb at HNu ⊢
  generalize wrongP (fs, x1, x2, x3) = wo at HWr ⊢
  simp only at HNu HWr ⊢
  generalize fs.length = fl at HNu HWr ⊢
  obtain ⟨w0, hw0⟩ : ∃ w0, w.alloc (.cells #[.slice ao fl cap, .int .i64 x1, .int .i64 x2, .int .i64 x3] 24) = w0 := ⟨_, rfl⟩
  have A0 := Lib.hid (show Adds w w0 by rw [← hw0]; exact (Gr.new _ _).adds)
  have HB1 := Lib.hid (show BkS 24 w0 w.heap.size [.slice ao fl cap, .int .i64 x1, .int .i64 x2, .int .i64 x3] by rw [← hw0]; exact BkS.new _ _ _)
  have b0 : w0.cell? ⟨w.heap.size, 0, none⟩ = some (.slice ao fl cap) := HB1.out.cell 0
  have b1 : w0.cell? ⟨w.heap.size, 1, none⟩ = some (.int .i64 x1) := HB1.out.cell 1
  have b2 : w0.cell? ⟨w.heap.size, 2, none⟩ = some (.int .i64 x2) := HB1.out.cell 2
  have b3 : w0.cell? ⟨w.heap.size, 3, none⟩ = some (.int .i64 x3) := HB1.out.cell 3
  cases nb
  · go_enter Tryz.func20, Tryz.ntmps20
    go_wp2
    refine wp_scope_fwd 0 rfl ?_
    go_wp2_with (go_at_call 33; refine (HNu.out _ A0.out).mono ?_; rintro e w1 ⟨rfl, q⟩; have HA1 := Lib.hid (Adds.trans A0.out q); clear q)
    go_step3
    refine ⟨rfl, ?_⟩
    go_wp2
    rw [Exit.noGoto_ret]
    go_ret
    exact ⟨rfl, HA1.out⟩
  · cases wo with
    | none =>
      go_enter Tryz.func20, Tryz.ntmps20
      go_wp2
      refine wp_scope_fwd 0 rfl ?_
      go_wp2_with (first
        | (go_at_call 33; refine (HNu.out _ A0.out).mono ?_; rintro e w1 ⟨rfl, q⟩; have HA1 := Lib.hid (Adds.trans A0.out q); have qq := HB1.out.adds q; have c0 : w1.cell? ⟨w.heap.size, 0, none⟩ = some (.slice ao fl cap) := qq.cell 0; have c1 : w1.cell? ⟨w.heap.size, 1, none⟩ = some (.int .i64 x1) := qq.cell 1; have c2 : w1.cell? ⟨w.heap.size, 2, none⟩ = some (.int .i64 x2) := qq.cell 2; have c3 : w1.cell? ⟨w.heap.size, 3, none⟩ = some (.int .i64 x3) := qq.cell 3; clear q qq)
        | (go_at_call 34; refine (HWr.out _ HA1.out).mono ?_; rintro e w2 ⟨rfl, q⟩; dsimp only [wrV, wrS, Option.isSome]; have HA2 := Lib.hid (Adds.trans HA1.out q); clear q))
      try simp only [Exit.jump]
      go_ret
      exact ⟨rfl, Adds.trans HA2.out (Gr.new _ _).adds⟩
    | some x =>
      obtain ⟨xf, xp⟩ := x
      go_enter Tryz.func20, Tryz.ntmps20
      go_wp2
      refine wp_scope_fwd 0 rfl ?_
      go_wp2_with (first
        | (go_at_call 33; refine (HNu.out _ A0.out).mono ?_; rintro e w1 ⟨rfl, q⟩; have HA1 := Lib.hid (Adds.trans A0.out q); have qq := HB1.out.adds q; have c0 : w1.cell? ⟨w.heap.size, 0, none⟩ = some (.slice ao fl cap) := qq.cell 0; have c1 : w1.cell? ⟨w.heap.size, 1, none⟩ = some (.int .i64 x1) := qq.cell 1; have c2 : w1.cell? ⟨w.heap.size, 2, none⟩ = some (.int .i64 x2) := qq.cell 2; have c3 : w1.cell? ⟨w.heap.size, 3, none⟩ = some (.int .i64 x3) := qq.cell 3; clear q qq)
        | (go_at_call 34; refine (HWr.out _ HA1.out).mono ?_; rintro e w2 ⟨rfl, q⟩; dsimp only [wrV, wrS, Option.isSome]; have HA2 := Lib.hid (Adds.trans HA1.out q); clear q))
      go_step3
      refine ⟨rfl, ?_⟩
      go_wp2
      rw [Exit.noGoto_ret]
      go_ret
      exact ⟨rfl, Adds.trans HA2.out (Gr.new _ _).adds⟩
end Go.Proofs.YthhegcngkpfcoaaGreatDoor
namespace Go.Proofs.YthhegcngkpfcoaaGreatDoor
open Go Go.RowKit Go.Lib

set_option maxHeartbeats 400000 in
/-- has: whether so many stand from a place on. -/
theorem has_any (ao : Option Addr) (len cap i many : Nat) (hi : i ≤ len) (hm : len ≤ 9223372036854775807) (w : World) :
    Calls Tryz.prog 69 #[.slice ao len cap, .int .i64 (i : Int), .int .i64 (many : Int)] w fun e w' => e = .returned (.bool (decide (i + many ≤ len))) ∧ w = w' := by
  go_enter Tryz.func69, Tryz.ntmps69
  go_wp2
  go_ret
  exact ⟨ret_bool (by rw [Bool.eq_iff_iff, decide_eq_true_eq, decide_eq_true_eq]; omega), rfl⟩

set_option maxHeartbeats 400000 in
/-- cut: so many from a place on. -/
theorem mcut_any (ao : Option Addr) (len cap : Nat) (i many : Nat) (w : World) (h1 : len ≤ cap) (h2 : cap ≤ 9223372036854775807) (h : i + many ≤ len) :
    Calls Tryz.prog 47 #[.slice ao len cap, .int .i64 (i : Int), .int .i64 (many : Int)] w fun e w' => e = .returned (cutV ao i many) ∧ w = w' := by
  by_cases h0 : many = 0
  · subst h0
    go_enter Tryz.func47, Tryz.ntmps47
    go_wp2
    go_ret
    exact ⟨rfl, rfl⟩
  · have e : cutV ao i many = .slice (ao.map (·.add i)) (i + many - i) (i + many - i) := by
      unfold cutV; rw [if_neg h0, show i + many - i = many by omega]
    rw [e]; clear e
    go_enter Tryz.func47, Tryz.ntmps47
    go_wp2
    go_ret
    exact ⟨rfl, rfl⟩

set_option maxHeartbeats 400000 in
/-- from: what stands from a place on. -/
theorem mfrom_any (ao : Option Addr) (len cap i : Nat) (w : World) (h1 : len ≤ cap) (h2 : cap ≤ 9223372036854775807) (h : i ≤ len) :
    Calls Tryz.prog 99 #[.slice ao len cap, .int .i64 (i : Int)] w fun e w' => e = .returned (cutV ao i (len - i)) ∧ w = w' := by
  have K : ∀ W : World, Calls Tryz.prog 47 #[.slice ao len cap, .int .i64 (i : Int), .int .i64 ((len : Int) - i)] W fun e w' => e = .returned (cutV ao i (len - i)) ∧ W = w' := by
    intro W
    have H := mcut_any ao len cap i (len - i) W h1 h2 (by omega)
    rwa [show ((len - i : Nat) : Int) = (len : Int) - i by omega] at H
  generalize cutV ao i (len - i) = u at K ⊢
  go_enter Tryz.func99, Tryz.ntmps99
  go_wp2_with (go_at_call 47; refine (K _).mono ?_; rintro e w1 ⟨rfl, rfl⟩)
  go_ret
  exact ⟨rfl, rfl⟩
end Go.Proofs.YthhegcngkpfcoaaGreatDoor
namespace Go.Proofs.YthhegcngkpfcoaaGreatDoor
open Go Go.RowKit Go.Shelf Go.Lib

theorem slice_from8 (ao : Option Addr) (len cap i : Nat) (hi : i ≤ len) (w : World) :
    (Instr.slice 184 (.slice ao len cap) (some (.int .i64 (i : Int))) none none).run Tryz.prog w = .ok (.slice (if cap = i then ao else ao.map (·.add (i * 1))) (len - i) (cap - i)) w := by
  have h := run_slice_l (P := Tryz.prog) w 184 ao len cap (by kernel_rfl) .i64 i (by omega) (by omega)
  rw [h]
  have hs : (sizeOf (Tryz.prog.elem 184)).run Tryz.prog w = .ok 1 w := by
    obtain ⟨i0, hi, hz0, hz1, hz2⟩ := info_parts info8
    have e : Tryz.prog.elem 184 = 5 := by kernel_rfl
    rw [e]
    simp [sizeOf, typeInfo, hi, hz1]
  rw [hs]
  simp only [Result.andThen, sliced, Int.toNat_natCast]
/-- What is left of bytes, from a place on. -/
def cutF (ao : Option Addr) (len cap i : Nat) : Value := .slice (if cap = i then ao else ao.map (·.add (i * 1))) (len - i) (cap - i)
theorem from8 (ao : Option Addr) (len cap i : Nat) (hi : i ≤ len) (w : World) : Calls Tryz.prog 142 #[.slice ao len cap, .int .i64 (i : Int)] w fun e w' => e = .returned (cutF ao len cap i) ∧ w = w' := by
  have hs := slice_from8 ao len cap i hi
  unfold cutF
  generalize Value.slice (if cap = i then ao else ao.map (·.add (i * 1))) (len - i) (cap - i) = u at hs ⊢
  clear hi
  go_enter Tryz.func142, Tryz.ntmps142
  go_wp2
  go_ret
  exact ⟨rfl, rfl⟩
theorem bytes_from {n : Nat} {w : World} {ao : Option Addr} {cap : Nat} {l : List UInt8} (h : Bytes n w (.slice ao l.length cap) l) (i : Nat) (hi : i ≤ l.length) : Bytes n w (cutF ao l.length cap i) (l.drop i) := by
  obtain ⟨ao', cap', e, h1, h2, _⟩ := id h
  simp only [Value.slice.injEq, true_and] at e
  obtain ⟨rfl, rfl⟩ := e
  have h0 := h.sliced i l.length cap hi (Nat.le_refl _) h1 (Nat.le_refl _)
  rwa [List.take_of_length_le (by rw [List.length_drop]; omega)] at h0

theorem res_box3 {P : Program} {fn : Func} {p q s : Tmp} {ty : TypeId} (h : fn.results = #[.cell p ty, .tmp q, .tmp s]) (tmps : Array Value) (w : World) (g : Nat) (cs : Array Value) (t : TypeId) (fr : Nat × Nat) (d : TypeDesc) (hp : tmps.getD p undef = .pointer (some ⟨g, 0, none⟩))
    (hg : w.heap[g]? = some (.cells cs t fr)) (hu : P.underlying ty = some d) (hd : (match d with | .struct _ | .array _ _ => true | _ => false) = true) (hi : (P.info? ty).map (·.size) = some cs.size) : (results fn tmps).run P w = .ok (.tuple #[.agg cs, tmps.getD q undef, tmps.getD s undef]) w := by
  have hp' : tmps[p]?.getD undef = .pointer (some ⟨g, 0, none⟩) := by simpa using hp
  simp [results, h, hp', asAddr, run_loadVar_row (P := P) w g t ty cs fr d hg hu hd hi]
/-- The first byte: the Op. -/
theorem one8 {n : Nat} (v : Value) (l : List UInt8) (w : World) (hv : Bytes n w v l) (hw : Widths w) :
    Calls Tryz.prog 137 #[v] w fun e w' => e = .returned (.tuple #[insV ((rfN l 1 : Nat), 0, 0, 0, 0), .int .i64 1, .int .i64 (rfE l 1)]) ∧ Adds w w' := by
  obtain ⟨w1, hw1⟩ : ∃ w1, w.alloc (.cells (insC (0, 0, 0, 0, 0)).toArray 59) = w1 := ⟨_, rfl⟩
  have HA1 := Lib.hid (show Adds w w1 by rw [← hw1]; exact (Gr.new _ _).adds)
  have HB1 := Lib.hid (show BkS 59 w1 w.heap.size [.int .i64 0, .int .i64 0, .int .i64 0, .int .i64 0, .int .u32 0] by rw [← hw1]; exact BkS.new _ _ _)
  have HR := Lib.hid (readFixed_any v l 1 w1 (hv.here.below HA1.out) (hw.adds HA1.out))
  have hnb : rfN l 1 < 256 := by
    unfold rfN
    split
    · have := unB_lt (l.take (1 : Int).toNat)
      have h2 : (l.take (1 : Int).toNat).length ≤ 1 := by rw [List.length_take]; exact Nat.min_le_left _ _
      exact Nat.lt_of_lt_of_le this (Nat.le_trans (Nat.pow_le_pow_right (by omega) h2) (by omega))
    · omega
  obtain ⟨ao, cap, rfl, _, _, _⟩ := hv
  generalize rfN l 1 = m at HR hnb ⊢
  generalize rfE l 1 = er at HR ⊢
  have HM := Lib.hid hnb
  have hmI : (m : Int) < 256 := by omega
  clear hw hnb
  simp only [insC] at hw1
  go_enter Tryz.func137, Tryz.ntmps137
  go_wp2_with (go_at_call 68; refine HR.out.mono ?_; rintro e w2 ⟨rfl, q⟩; have HA2 := Lib.hid q; have k := HB1.out.adds q; have HK := Lib.hid k; have c0 : w2.cell? ⟨w.heap.size, 0, none⟩ = some (.int .i64 0) := k.cell 0; have c1 : w2.cell? ⟨w.heap.size, 1, none⟩ = some (.int .i64 0) := k.cell 1; have c2 : w2.cell? ⟨w.heap.size, 2, none⟩ = some (.int .i64 0) := k.cell 2; have c3 : w2.cell? ⟨w.heap.size, 3, none⟩ = some (.int .i64 0) := k.cell 3; have c4 : w2.cell? ⟨w.heap.size, 4, none⟩ = some (.int .u32 0) := k.cell 4; have f0 := k.free 0; have f1 := k.free 1; have f2 := k.free 2; have f3 := k.free 3; have f4 := k.free 4; clear q k)
  have hb := (((((HK.out.set 0 (.int .i64 (m : Int))).set 1 (.int .i64 0)).set 2 (.int .i64 0)).set 3 (.int .i64 0)).set 4 (.int .u32 0))
  refine bodyPost_ret (res_box3 rfl _ _ _ (insC ((m : Nat), 0, 0, 0, 0)).toArray _ _ _ rfl hb Tryz.underlying59 rfl (by kernel_rfl)) rfl ?_
  refine ⟨rfl, TnS.own (Adds.trans HA1.out HA2.out) (Nat.le_refl _) (((((TnS.setCell _ _ _ _).trans (TnS.setCell _ _ _ _)).trans (TnS.setCell _ _ _ _)).trans (TnS.setCell _ _ _ _)).trans (TnS.setCell _ _ _ _))⟩
theorem rfN_lt (l : List UInt8) {wd : Int} (h : wd = 1 ∨ wd = 4) : rfN l wd < 4294967296 := by
  unfold rfN
  split
  · have h1 := unB_lt (l.take wd.toNat)
    have h2 : (l.take wd.toNat).length ≤ 4 := by rw [List.length_take]; omega
    exact Nat.lt_of_lt_of_le h1 (Nat.le_trans (Nat.pow_le_pow_right (by omega) h2) (by omega))
  · omega
/-- A part's number. -/
theorem num8 {n : Nat} (pb : Nat) (v0 v2 v3 : Value) (wd : Int) (hwd : wd = 1 ∨ wd = 4) (v : Value) (l : List UInt8) (w : World) (hv : Bytes n w v l) (hw : Widths w) (hp : BkS 150 w pb [v0, .int .i64 wd, v2, v3]) :
    Calls Tryz.prog 139 #[v, .pointer (some ⟨pb, 0, none⟩)] w fun e w' => e = .returned (.tuple #[.int .i64 ((rfN l wd : Nat) : Int), .int .i64 wd, .int .i64 (rfE l wd)]) ∧ Adds w w' := by
  have HR := Lib.hid (readFixed_any v l wd w hv hw)
  have hnb := rfN_lt l hwd
  have c1 : w.cell? ⟨pb, 1, none⟩ = some (.int .i64 wd) := hp.cell 1
  have HP := Lib.hid hp
  obtain ⟨ao, cap, rfl, _, _, _⟩ := hv
  generalize rfN l wd = m at HR hnb ⊢
  generalize rfE l wd = er at HR ⊢
  have hwr : wrap64 ((m : Nat) : Int) = m := by unfold wrap64; omega
  clear hw hnb hp hwd
  go_enter Tryz.func139, Tryz.ntmps139
  go_wp2_with (go_at_call 68; refine HR.out.mono ?_; rintro e w2 ⟨rfl, q⟩; have HA2 := Lib.hid q; have d1 : w2.cell? ⟨pb, 1, none⟩ = some (.int .i64 wd) := (HP.out.adds q).cell 1; clear q)
  go_quiet (fail)
  go_wp2_with fail
  go_ret3
  refine ⟨?_, Adds.trans HA2.out (Gr.drewn w2 nq).adds⟩
  show Ending.returned (.tuple #[.int .i64 (wrap64 ((m : Nat) : Int)), .int .i64 wd, .int .i64 er]) = _
  rw [hwr]
end Go.Proofs.YthhegcngkpfcoaaGreatDoor
