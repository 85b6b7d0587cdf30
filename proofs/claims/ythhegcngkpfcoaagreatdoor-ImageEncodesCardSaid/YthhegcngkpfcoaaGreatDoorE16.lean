/- Merged: IR1, IR2. -/
import Derived.BigQuiet
import Derived.Test.YthhegcngkpfcoaaGreatDoorE13
import Derived.Test.YthhegcngkpfcoaaGreatDoorE5
namespace Go.Proofs.YthhegcngkpfcoaaGreatDoor
open Go Go.RowKit Go.Shelf Go.Lib

theorem slice_from8 (ao : Option Addr) (len cap i : Nat) (hi : i ≤ len) (w : World) :
    (Instr.slice 184 (.slice ao len cap) (some (.int .i64 (i : Int))) none none).run Tryz.prog w = .ok (.slice (if cap = i then ao else ao.map (·.add (i * 1))) (len - i) (cap - i)) w := by
  have h := run_slice_l (P := Tryz.prog) w 184 ao len cap (by kernel_rfl) .i64 i (by omega) (by omega)
  rw [h]
  have hs : (sizeOf (Tryz.prog.elem 184)).run Tryz.prog w = .ok 1 w := by
    obtain ⟨i0, hi, hz0, hz1, hz2⟩ := info_parts info8
    have e : Tryz.prog.elem 184 = 5 := by kernel_rfl
    rw [e]
    simp [sizeOf, typeInfo, hi, hz1]
  rw [hs]
  simp only [Result.andThen, sliced, Int.toNat_natCast]
/-- What is left of bytes, from a place on. -/
def cutF (ao : Option Addr) (len cap i : Nat) : Value := .slice (if cap = i then ao else ao.map (·.add (i * 1))) (len - i) (cap - i)
theorem from8 (ao : Option Addr) (len cap i : Nat) (hi : i ≤ len) (w : World) : Calls Tryz.prog 142 #[.slice ao len cap, .int .i64 (i : Int)] w fun e w' => e = .returned (cutF ao len cap i) ∧ w = w' := by
  have hs := slice_from8 ao len cap i hi
  unfold cutF
  generalize Value.slice (if cap = i then ao else ao.map (·.add (i * 1))) (len - i) (cap - i) = u at hs ⊢
  clear hi
  go_enter Tryz.func142, Tryz.ntmps142
  go_wp2
  go_ret
  exact ⟨rfl, rfl⟩
theorem bytes_from {n : Nat} {w : World} {ao : Option Addr} {cap : Nat} {l : List UInt8} (h : Bytes n w (.slice ao l.length cap) l) (i : Nat) (hi : i ≤ l.length) : Bytes n w (cutF ao l.length cap i) (l.drop i) := by
  obtain ⟨ao', cap', e, h1, h2, _⟩ := id h
  simp only [Value.slice.injEq, true_and] at e
  obtain ⟨rfl, rfl⟩ := e
  have h0 := h.sliced i l.length cap hi (Nat.le_refl _) h1 (Nat.le_refl _)
  rwa [List.take_of_length_le (by rw [List.length_drop]; omega)] at h0

theorem res_box3 {P : Program} {fn : Func} {p q s : Tmp} {ty : TypeId} (h : fn.results = #[.cell p ty, .tmp q, .tmp s]) (tmps : Array Value) (w : World) (g : Nat) (cs : Array Value) (t : TypeId) (fr : Nat × Nat) (d : TypeDesc) (hp : tmps.getD p undef = .pointer (some ⟨g, 0, none⟩))
    (hg : w.heap[g]? = some (.cells cs t fr)) (hu : P.underlying ty = some d) (hd : (match d with | .struct _ | .array _ _ => true | _ => false) = true) (hi : (P.info? ty).map (·.size) = some cs.size) : (results fn tmps).run P w = .ok (.tuple #[.agg cs, tmps.getD q undef, tmps.getD s undef]) w := by
  have hp' : tmps[p]?.getD undef = .pointer (some ⟨g, 0, none⟩) := by simpa using hp
  simp [results, h, hp', asAddr, run_loadVar_row (P := P) w g t ty cs fr d hg hu hd hi]
/-- The first byte: the Op. -/
theorem one8 {n : Nat} (v : Value) (l : List UInt8) (w : World) (hv : Bytes n w v l) (hw : Widths w) :
    Calls Tryz.prog 137 #[v] w fun e w' => e = .returned (.tuple #[insV ((rfN l 1 : Nat), 0, 0, 0, 0), .int .i64 1, .int .i64 (rfE l 1)]) ∧ Adds w w' := by
  obtain ⟨w1, hw1⟩ : ∃ w1, w.alloc (.cells (insC (0, 0, 0, 0, 0)).toArray 59) = w1 := ⟨_, rfl⟩
  have HA1 := Lib.hid (show Adds w w1 by rw [← hw1]; exact (Gr.new _ _).adds)
  have HB1 := Lib.hid (show BkS 59 w1 w.heap.size [.int .i64 0, .int .i64 0, .int .i64 0, .int .i64 0, .int .u32 0] by rw [← hw1]; exact BkS.new _ _ _)
  have HR := Lib.hid (readFixed_any v l 1 w1 (hv.here.below HA1.out) (hw.adds HA1.out))
  have hnb : rfN l 1 < 256 := by
    unfold rfN
    split
    · have := unB_lt (l.take (1 : Int).toNat)
      have h2 : (l.take (1 : Int).toNat).length ≤ 1 := by rw [List.length_take]; exact Nat.min_le_left _ _
      exact Nat.lt_of_lt_of_le this (Nat.le_trans (Nat.pow_le_pow_right (by omega) h2) (by omega))
    · omega
  obtain ⟨ao, cap, rfl, _, _, _⟩ := hv
  generalize rfN l 1 = m at HR hnb ⊢
  generalize rfE l 1 = er at HR ⊢
  have HM := Lib.hid hnb
  have hmI : (m : Int) < 256 := by omega
  clear hw hnb
  simp only [insC] at hw1
  go_enter Tryz.func137, Tryz.ntmps137
  go_wp2_with (go_at_call 68; refine HR.out.mono ?_; rintro e w2 ⟨rfl, q⟩; have HA2 := Lib.hid q; have k := HB1.out.adds q; have HK := Lib.hid k; have c0 : w2.cell? ⟨w.heap.size, 0, none⟩ = some (.int .i64 0) := k.cell 0; have c1 : w2.cell? ⟨w.heap.size, 1, none⟩ = some (.int .i64 0) := k.cell 1; have c2 : w2.cell? ⟨w.heap.size, 2, none⟩ = some (.int .i64 0) := k.cell 2; have c3 : w2.cell? ⟨w.heap.size, 3, none⟩ = some (.int .i64 0) := k.cell 3; have c4 : w2.cell? ⟨w.heap.size, 4, none⟩ = some (.int .u32 0) := k.cell 4; have f0 := k.free 0; have f1 := k.free 1; have f2 := k.free 2; have f3 := k.free 3; have f4 := k.free 4; clear q k)
  have hb := (((((HK.out.set 0 (.int .i64 (m : Int))).set 1 (.int .i64 0)).set 2 (.int .i64 0)).set 3 (.int .i64 0)).set 4 (.int .u32 0))
  refine bodyPost_ret (res_box3 rfl _ _ _ (insC ((m : Nat), 0, 0, 0, 0)).toArray _ _ _ rfl hb Tryz.underlying59 rfl (by kernel_rfl)) rfl ?_
  refine ⟨rfl, TnS.own (Adds.trans HA1.out HA2.out) (Nat.le_refl _) (((((TnS.setCell _ _ _ _).trans (TnS.setCell _ _ _ _)).trans (TnS.setCell _ _ _ _)).trans (TnS.setCell _ _ _ _)).trans (TnS.setCell _ _ _ _))⟩
theorem rfN_lt (l : List UInt8) {wd : Int} (h : wd = 1 ∨ wd = 4) : rfN l wd < 4294967296 := by
  unfold rfN
  split
  · have h1 := unB_lt (l.take wd.toNat)
    have h2 : (l.take wd.toNat).length ≤ 4 := by rw [List.length_take]; omega
    exact Nat.lt_of_lt_of_le h1 (Nat.le_trans (Nat.pow_le_pow_right (by omega) h2) (by omega))
  · omega
/-- A part's number. -/
theorem num8 {n : Nat} (pb : Nat) (v0 v2 v3 : Value) (wd : Int) (hwd : wd = 1 ∨ wd = 4) (v : Value) (l : List UInt8) (w : World) (hv : Bytes n w v l) (hw : Widths w) (hp : BkS 150 w pb [v0, .int .i64 wd, v2, v3]) :
    Calls Tryz.prog 139 #[v, .pointer (some ⟨pb, 0, none⟩)] w fun e w' => e = .returned (.tuple #[.int .i64 ((rfN l wd : Nat) : Int), .int .i64 wd, .int .i64 (rfE l wd)]) ∧ Adds w w' := by
  have HR := Lib.hid (readFixed_any v l wd w hv hw)
  have hnb := rfN_lt l hwd
  have c1 : w.cell? ⟨pb, 1, none⟩ = some (.int .i64 wd) := hp.cell 1
  have HP := Lib.hid hp
  obtain ⟨ao, cap, rfl, _, _, _⟩ := hv
  generalize rfN l wd = m at HR hnb ⊢
  generalize rfE l wd = er at HR ⊢
  have hwr : wrap64 ((m : Nat) : Int) = m := by unfold wrap64; omega
  clear hw hnb hp hwd
  go_enter Tryz.func139, Tryz.ntmps139
  go_wp2_with (go_at_call 68; refine HR.out.mono ?_; rintro e w2 ⟨rfl, q⟩; have HA2 := Lib.hid q; have d1 : w2.cell? ⟨pb, 1, none⟩ = some (.int .i64 wd) := (HP.out.adds q).cell 1; clear q)
  go_quiet (fail)
  go_wp2_with fail
  go_ret3
  refine ⟨?_, Adds.trans HA2.out (Gr.drewn w2 nq).adds⟩
  show Ending.returned (.tuple #[.int .i64 (wrap64 ((m : Nat) : Int)), .int .i64 wd, .int .i64 er]) = _
  rw [hwr]
end Go.Proofs.YthhegcngkpfcoaaGreatDoor
namespace Go.Proofs.YthhegcngkpfcoaaGreatDoor
open Go Go.RowKit Go.Shelf Go.Lib

/-- How a reader stands: its bytes, and how many it has taken. -/
abbrev rdC (v : Value) (k : Nat) : List Value := [v, .int .i64 (k : Int)]
def RdPost8 (ok : Bool) (val : Value) (br : Nat) (v : Value) (k : Nat) (w : World) (e : Ending) (w' : World) : Prop :=
  if ok then e = .returned val ∧ BkS 186 w' br (rdC v k) ∧ TnS br w w' else e = .panicked [{ v := .iface 187 (.int .i64 110), recovered := false }] ∧ Adds w w'
theorem rfE_is (l : List UInt8) {wd : Int} (h : wd = 1 ∨ wd = 4) : rfE l wd = if l.length < wd.toNat then 110 else 0 := by
  unfold rfE
  rw [if_pos (by rcases h with rfl | rfl <;> decide)]
set_option maxRecDepth 100000 in
set_option maxHeartbeats 4000000 in
theorem readN8 {n : Nat} (br pb : Nat) (v0 v2 v3 : Value) (wd : Int) (hwd : wd = 1 ∨ wd = 4) (v : Value) (l : List UInt8) (k : Nat) (hk : k ≤ l.length) (w : World) (hn : n ≤ w.heap.size) (hv : Bytes n w v l) (hw : Widths w)
    (hp : BkS 150 w pb [v0, .int .i64 wd, v2, v3]) (hr : BkS 186 w br (rdC v k)) :
    Calls Tryz.prog 138 #[.pointer (some ⟨br, 0, none⟩), .func (.func 139) #[] #[.pointer (some ⟨pb, 0, none⟩)]] w
      (RdPost8 (decide (¬ (l.drop k).length < wd.toNat)) (.int .i64 ((rfN (l.drop k) wd : Nat) : Int)) br v (k + wd.toNat) w) := by
  have hmx : Tryz.prog.follows .mixedOrders = true := by kernel_rfl
  obtain ⟨ao, cap, rfl, hv1, hv2, hv3⟩ := id hv
  have HNum := Lib.hid (fun (W : World) (h : Adds w W) => num8 pb v0 v2 v3 wd hwd (cutF ao l.length cap k) (l.drop k) W (bytes_from (hv.below (h.mono hn)) k hk) (hw.adds h) (hp.adds h))
  have HFr := Lib.hid (fun (W : World) => from8 ao l.length cap k hk W)
  have HRd := Lib.hid hr
  have HD := Lib.hid (show ∀ w', Adds w.drew w' → w'.cell? ⟨br, 0, none⟩ = some (.slice ao l.length cap) ∧ w'.cell? ⟨br, 1, none⟩ = some (.int .i64 (k : Int)) from fun w' h => by
    have := hr.adds (Adds.trans (Adds.drew w) h)
    exact ⟨this.cell 0, this.cell 1⟩)
  have HE := Lib.hid (rfE_is (l.drop k) hwd)
  obtain ⟨m, hm⟩ : ∃ m, rfN (l.drop k) wd = m := ⟨_, rfl⟩
  obtain ⟨er, her⟩ : ∃ er, rfE (l.drop k) wd = er := ⟨_, rfl⟩
  rw [hm] at HNum ⊢
  rw [her] at HNum HE
  obtain ⟨cu, hcu⟩ : ∃ cu, cutF ao l.length cap k = cu := ⟨_, rfl⟩
  rw [hcu] at HNum HFr
  have HW4 := Lib.hid (show 1 ≤ wd ∧ wd ≤ 4 by omega)
  unfold maxLen at hv2
  have HKl := Lib.hid (And.intro hk (And.intro hv1 hv2))
  obtain ⟨ok, hok⟩ : ∃ ok, decide (¬ (l.drop k).length < wd.toNat) = ok := ⟨_, rfl⟩
  rw [hok]
  have HOk := Lib.hid hok
  clear hm her hv hw hp hr hv1 hv2 hv3 hk hok hcu hwd hn
  go_enter Tryz.func138, Tryz.ntmps138
  go_wp2_with fail
  refine wp_region_loose [] (fun _ _ _ => True) Adds (by kernel_rfl) (by kernel_rfl) (by simp) Adds.refl (fun _ _ _ h k => Adds.trans h k) (fun _ _ _ _ _ _ => trivial) ?_
  repeat (refine wpL_step (fun K hK => ?_); first
    | (refine stepL_ex rfl rfl rfl Adds.refl (fun w' hw' => rfl) ?_; go_simp; refine hK _ ?_; clear hK K)
    | (refine stepL_ex (v := .pointer (some ⟨br, 0, none⟩)) rfl rfl rfl Adds.refl ?_ ?_; (· (intro w' hw'; clear hK; go_simp)); go_simp; refine hK _ ?_; clear hK K)
    | (refine stepL_ex (v := .pointer (some ⟨br, 1, none⟩)) rfl rfl rfl Adds.refl ?_ ?_; (· (intro w' hw'; clear hK; go_simp)); go_simp; refine hK _ ?_; clear hK K)
    | (refine stepL_ex (v := .slice ao l.length cap) rfl rfl rfl Adds.refl ?_ ?_; (· (intro w' hw'; clear hK; have hc := HD.out w' hw'; go_simp)); go_simp; refine hK _ ?_; clear hK K)
    | (refine stepL_ex (v := .int .i64 (k : Int)) rfl rfl rfl Adds.refl ?_ ?_; (· (intro w' hw'; clear hK; have hc := HD.out w' hw'; go_simp)); go_simp; refine hK _ ?_; clear hK K)
    | (refine stepL_call (v := cu) (f := 142) (args := #[.slice ao l.length cap, .int .i64 (k : Int)]) rfl rfl rfl ?_ (fun w' _ => (HFr.out w').mono fun _ _ ⟨q1, q2⟩ => ⟨q1, q2 ▸ Adds.refl _⟩) ?_; (· (intro w'; clear hK; go_simp)); go_simp; refine hK _ ?_; clear hK K)
    | (refine stepL_call (v := .tuple #[.int .i64 (m : Int), .int .i64 wd, .int .i64 er]) (f := 139) (args := #[cu, .pointer (some ⟨pb, 0, none⟩)]) rfl rfl rfl ?_ (fun w' hw' => HNum.out w' (Adds.trans (Adds.drew w) hw')) ?_; (· (intro w'; clear hK; go_simp)); go_simp; refine hK _ ?_; clear hK K))
  refine wpL_nil ?_
  intro w4 a4
  simp only [forL]
  have HA4 := Lib.hid (Adds.trans (Adds.drew w) a4)
  have HR4 := Lib.hid (HRd.out.adds HA4.out)
  have d1 : w4.cell? ⟨br, 1, none⟩ = some (.int .i64 (k : Int)) := HR4.out.cell 1
  have f1 := HR4.out.free 1
  clear a4
  cases ok
  · have he : er = 110 := by
      have h1 : (l.drop k).length < wd.toNat := by have h0 := HOk.out; rw [decide_eq_false_iff_not] at h0; omega
      rw [HE.out, if_pos h1]
    subst he
    clear HD HNum HFr
    simp only [Exit.then]
    go_wp2_with fail
    exact ⟨rfl, by simp [RdPost8]; exact HA4.out⟩
  · have hl := of_decide_eq_true HOk.out
    have he : er = 0 := by rw [HE.out, if_neg hl]
    subst he
    have hwr : wrap64 ((k : Int) + wd) = (k : Int) + wd := by
      have h1 := HKl.out
      have h2 := HW4.out
      rw [List.length_drop] at hl
      unfold wrap64
      omega
    clear HD HNum HFr hl
    simp only [Exit.then]
    go_wp2_with fail
    go_ret
    have hs := HR4.out.set 1 (.int .i64 ((k : Int) + wd))
    have e : ((k + wd.toNat : Nat) : Int) = (k : Int) + wd := by have := HW4.out; omega
    refine ⟨rfl, ?_, (TnS.of_adds br HA4.out).trans (TnS.setCell _ _ _ _)⟩
    unfold rdC
    rw [e]
    exact hs
end Go.Proofs.YthhegcngkpfcoaaGreatDoor
