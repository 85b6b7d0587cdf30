/- Reading an instruction's numbers: what is left, and what stands there: contracts. -/
import Derived.BigQuiet
import Derived.Test.YtfclclckcjjnkaaGreatDoorIF9
import Derived.Test.YtfclclckcjjnkaaGreatDoorBB
namespace Go.Proofs.YtfclclckcjjnkaaGreatDoor
open Go Go.RowKit Go.Shelf Go.Lib

theorem slice_from8 (ao : Option Addr) (len cap i : Nat) (hi : i ≤ len) (w : World) :
    (Instr.slice 254 (.slice ao len cap) (some (.int .i64 (i : Int))) none none).run Tryz.prog w = .ok (.slice (if cap = i then ao else ao.map (·.add (i * 1))) (len - i) (cap - i)) w := by
  have h := run_slice_l (P := Tryz.prog) w 254 ao len cap (by kernel_rfl) .i64 i (by omega) (by omega)
  rw [h]
  have hs : (sizeOf (Tryz.prog.elem 254)).run Tryz.prog w = .ok 1 w := by
    obtain ⟨i0, hi, hz0, hz1, hz2⟩ := info_parts info8
    have e : Tryz.prog.elem 254 = 5 := by kernel_rfl
    rw [e]
    simp [sizeOf, typeInfo, hi, hz1]
  rw [hs]
  simp only [Result.andThen, sliced, Int.toNat_natCast]
/-- What is left of bytes, from a place on. -/
def cutF (ao : Option Addr) (len cap i : Nat) : Value := .slice (if cap = i then ao else ao.map (·.add (i * 1))) (len - i) (cap - i)
theorem from8 (ao : Option Addr) (len cap i : Nat) (hi : i ≤ len) (w : World) : Calls Tryz.prog 247 #[.slice ao len cap, .int .i64 (i : Int)] w fun e w' => e = .returned (cutF ao len cap i) ∧ w = w' := by
  have hs := slice_from8 ao len cap i hi
  unfold cutF
  generalize Value.slice (if cap = i then ao else ao.map (·.add (i * 1))) (len - i) (cap - i) = u at hs ⊢
  clear hi
  go_enter Tryz.func247, Tryz.ntmps247
  go_wp2
  go_ret
  exact ⟨rfl, rfl⟩
theorem bytes_from {n : Nat} {w : World} {ao : Option Addr} {cap : Nat} {l : List UInt8} (h : Bytes n w (.slice ao l.length cap) l) (i : Nat) (hi : i ≤ l.length) : Bytes n w (cutF ao l.length cap i) (l.drop i) := by
  obtain ⟨ao', cap', e, h1, h2, _⟩ := id h
  simp only [Value.slice.injEq, true_and] at e
  obtain ⟨rfl, rfl⟩ := e
  have h0 := h.sliced i l.length cap hi (Nat.le_refl _) h1 (Nat.le_refl _)
  rwa [List.take_of_length_le (by rw [List.length_drop]; omega)] at h0

theorem res_box3 {P : Program} {fn : Func} {p q s : Tmp} {ty : TypeId} (h : fn.results = #[.cell p ty, .tmp q, .tmp s]) (tmps : Array Value) (w : World) (g : Nat) (cs : Array Value) (t : TypeId) (fr : Nat × Nat) (d : TypeDesc) (hp : tmps.getD p undef = .pointer (some ⟨g, 0, none⟩))
    (hg : w.heap[g]? = some (.cells cs t fr)) (hu : P.underlying ty = some d) (hd : (match d with | .struct _ | .array _ _ => true | _ => false) = true) (hi : (P.info? ty).map (·.size) = some cs.size) : (results fn tmps).run P w = .ok (.tuple #[.agg cs, tmps.getD q undef, tmps.getD s undef]) w := by
  have hp' : tmps[p]?.getD undef = .pointer (some ⟨g, 0, none⟩) := by simpa using hp
  simp [results, h, hp', asAddr, run_loadVar_row (P := P) w g t ty cs fr d hg hu hd hi]
/-- The first byte: the Op. -/
theorem one8 {n : Nat} (v : Value) (l : List UInt8) (w : World) (hv : Bytes n w v l) (hw : Widths w) :
    Calls Tryz.prog 236 #[v] w fun e w' => e = .returned (.tuple #[insV ((rfN l 1 : Nat), 0, 0, 0, 0), .int .i64 1, .int .i64 (rfE l 1)]) ∧ Adds w w' := by
  obtain ⟨w1, hw1⟩ : ∃ w1, w.alloc (.cells (insC (0, 0, 0, 0, 0)).toArray 82) = w1 := ⟨_, rfl⟩
  have HA1 := Lib.hid (show Adds w w1 by rw [← hw1]; exact (Gr.new _ _).adds)
  have HB1 := Lib.hid (show BkS 82 w1 w.heap.size [.int .i64 0, .int .i64 0, .int .i64 0, .int .i64 0, .int .u32 0] by rw [← hw1]; exact BkS.new _ _ _)
  have HR := Lib.hid (readFixed_any v l 1 w1 (hv.here.below HA1.out) (hw.adds HA1.out))
  have hnb : rfN l 1 < 256 := by
    unfold rfN
    split
    · have := unB_lt (l.take (1 : Int).toNat)
      have h2 : (l.take (1 : Int).toNat).length ≤ 1 := by rw [List.length_take]; exact Nat.min_le_left _ _
      exact Nat.lt_of_lt_of_le this (Nat.le_trans (Nat.pow_le_pow_right (by omega) h2) (by omega))
    · omega
  obtain ⟨ao, cap, rfl, _, _, _⟩ := hv
  generalize rfN l 1 = m at HR hnb ⊢
  generalize rfE l 1 = er at HR ⊢
  have HM := Lib.hid hnb
  have hmI : (m : Int) < 256 := by omega
  clear hw hnb
  simp only [insC] at hw1
  go_enter Tryz.func236, Tryz.ntmps236
  go_wp2_with (go_at_call 125; refine HR.out.mono ?_; rintro e w2 ⟨rfl, q⟩; have HA2 := Lib.hid q; have k := HB1.out.adds q; have HK := Lib.hid k; have c0 : w2.cell? ⟨w.heap.size, 0, none⟩ = some (.int .i64 0) := k.cell 0; have c1 : w2.cell? ⟨w.heap.size, 1, none⟩ = some (.int .i64 0) := k.cell 1; have c2 : w2.cell? ⟨w.heap.size, 2, none⟩ = some (.int .i64 0) := k.cell 2; have c3 : w2.cell? ⟨w.heap.size, 3, none⟩ = some (.int .i64 0) := k.cell 3; have c4 : w2.cell? ⟨w.heap.size, 4, none⟩ = some (.int .u32 0) := k.cell 4; have f0 := k.free 0; have f1 := k.free 1; have f2 := k.free 2; have f3 := k.free 3; have f4 := k.free 4; clear q k)
  have hb := (((((HK.out.set 0 (.int .i64 (m : Int))).set 1 (.int .i64 0)).set 2 (.int .i64 0)).set 3 (.int .i64 0)).set 4 (.int .u32 0))
  refine bodyPost_ret (res_box3 rfl _ _ _ (insC ((m : Nat), 0, 0, 0, 0)).toArray _ _ _ rfl hb Tryz.underlying82 rfl (by kernel_rfl)) rfl ?_
  refine ⟨rfl, TnS.own (Adds.trans HA1.out HA2.out) (Nat.le_refl _) (((((TnS.setCell _ _ _ _).trans (TnS.setCell _ _ _ _)).trans (TnS.setCell _ _ _ _)).trans (TnS.setCell _ _ _ _)).trans (TnS.setCell _ _ _ _))⟩
theorem rfN_lt (l : List UInt8) {wd : Int} (h : wd = 1 ∨ wd = 4) : rfN l wd < 4294967296 := by
  unfold rfN
  split
  · have h1 := unB_lt (l.take wd.toNat)
    have h2 : (l.take wd.toNat).length ≤ 4 := by rw [List.length_take]; omega
    exact Nat.lt_of_lt_of_le h1 (Nat.le_trans (Nat.pow_le_pow_right (by omega) h2) (by omega))
  · omega
/-- A part's number. -/
theorem num8 {n : Nat} (pb : Nat) (v0 v2 v3 : Value) (wd : Int) (hwd : wd = 1 ∨ wd = 4) (v : Value) (l : List UInt8) (w : World) (hv : Bytes n w v l) (hw : Widths w) (hp : BkS 234 w pb [v0, .int .i64 wd, v2, v3]) :
    Calls Tryz.prog 237 #[v, .pointer (some ⟨pb, 0, none⟩)] w fun e w' => e = .returned (.tuple #[.int .i64 ((rfN l wd : Nat) : Int), .int .i64 wd, .int .i64 (rfE l wd)]) ∧ Adds w w' := by
  have HR := Lib.hid (readFixed_any v l wd w hv hw)
  have hnb := rfN_lt l hwd
  have c1 : w.cell? ⟨pb, 1, none⟩ = some (.int .i64 wd) := hp.cell 1
  have HP := Lib.hid hp
  obtain ⟨ao, cap, rfl, _, _, _⟩ := hv
  generalize rfN l wd = m at HR hnb ⊢
  generalize rfE l wd = er at HR ⊢
  have hwr : wrap64 ((m : Nat) : Int) = m := by unfold wrap64; omega
  clear hw hnb hp hwd
  go_enter Tryz.func237, Tryz.ntmps237
  go_wp2_with (go_at_call 125; refine HR.out.mono ?_; rintro e w2 ⟨rfl, q⟩; have HA2 := Lib.hid q; have d1 : w2.cell? ⟨pb, 1, none⟩ = some (.int .i64 wd) := (HP.out.adds q).cell 1; clear q)
  go_quiet (fail)
  go_wp2_with fail
  go_ret3
  refine ⟨?_, Adds.trans HA2.out (Gr.drewn w2 nq).adds⟩
  show Ending.returned (.tuple #[.int .i64 (wrap64 ((m : Nat) : Int)), .int .i64 wd, .int .i64 er]) = _
  rw [hwr]
end Go.Proofs.YtfclclckcjjnkaaGreatDoor
