/- Reading an event's numbers: what is left, a number of a width: contracts. (genR1.py wrote this.) -/
import Derived.BigQuiet
import Derived.Test.YtbinmgpfkjmijaaGreatDoorBF
import Derived.Test.YtbinmgpfkjmijaaGreatDoorEvF5
namespace Go.Proofs.YtbinmgpfkjmijaaGreatDoor
open Go Go.RowKit Go.Shelf Go.Lib

theorem slice_from16 (ao : Option Addr) (len cap i : Nat) (hi : i ≤ len) (w : World) :
    (Instr.slice 82 (.slice ao len cap) (some (.int .i64 (i : Int))) none none).run Tryz.prog w = .ok (.slice (if cap = i then ao else ao.map (·.add (i * 1))) (len - i) (cap - i)) w := by
  have h := run_slice_l (P := Tryz.prog) w 82 ao len cap (by kernel_rfl) .i64 i (by omega) (by omega)
  rw [h]
  have hs : (sizeOf (Tryz.prog.elem 82)).run Tryz.prog w = .ok 1 w := by
    obtain ⟨i0, hi, hz0, hz1, hz2⟩ := info_parts info8
    have e : Tryz.prog.elem 82 = 5 := by kernel_rfl
    rw [e]
    simp [sizeOf, typeInfo, hi, hz1]
  rw [hs]
  simp only [Result.andThen, sliced, Int.toNat_natCast]
/-- What is left of bytes, from a place on. -/
def cutE (ao : Option Addr) (len cap i : Nat) : Value := .slice (if cap = i then ao else ao.map (·.add (i * 1))) (len - i) (cap - i)
theorem from16 (ao : Option Addr) (len cap i : Nat) (hi : i ≤ len) (w : World) : Calls Tryz.prog 85 #[.slice ao len cap, .int .i64 (i : Int)] w fun e w' => e = .returned (cutE ao len cap i) ∧ w = w' := by
  have hs := slice_from16 ao len cap i hi
  unfold cutE
  generalize Value.slice (if cap = i then ao else ao.map (·.add (i * 1))) (len - i) (cap - i) = u at hs ⊢
  clear hi
  go_enter Tryz.func85, Tryz.ntmps85
  go_wp2
  go_ret
  exact ⟨rfl, rfl⟩
theorem bytesE_from {n : Nat} {w : World} {ao : Option Addr} {cap : Nat} {l : List UInt8} (h : Bytes n w (.slice ao l.length cap) l) (i : Nat) (hi : i ≤ l.length) : Bytes n w (cutE ao l.length cap i) (l.drop i) := by
  obtain ⟨ao', cap', e, h1, h2, _⟩ := id h
  simp only [Value.slice.injEq, true_and] at e
  obtain ⟨rfl, rfl⟩ := e
  have h0 := h.sliced i l.length cap hi (Nat.le_refl _) h1 (Nat.le_refl _)
  rwa [List.take_of_length_le (by rw [List.length_drop]; omega)] at h0
theorem rfE_is16 (l : List UInt8) {wd : Nat} (h : wd = 1 ∨ wd = 2 ∨ wd = 4) : rfE l (wd : Int) = if l.length < wd then 110 else 0 := by
  unfold rfE
  rw [if_pos (by rcases h with rfl | rfl | rfl <;> decide)]
  simp
theorem rfN_is16 (l : List UInt8) {wd : Nat} (h : wd = 1 ∨ wd = 2 ∨ wd = 4) (hl : ¬ l.length < wd) : rfN l (wd : Int) = unB (l.take wd) := by
  unfold rfN
  rw [if_pos (by rw [rfE_is16 l h, if_neg hl])]
  simp
theorem num_one {n : Nat} (pb : Nat) (wd : Nat) (v : Value) (l : List UInt8) (w : World) (hv : Bytes n w v l) (hw : Widths w) (hp : BkS 3 w pb [.int .i64 (wd : Int)]) :
    Calls Tryz.prog 105 #[v, .pointer (some ⟨pb, 0, none⟩)] w fun e w' => e = .returned (.tuple #[.int .u64 ((rfN l wd : Nat) : Int), .int .i64 (rfE l wd)]) ∧ Adds w w' := by
  have HR := Lib.hid (readFixed_any v l wd w hv hw)
  have c1 : w.cell? ⟨pb, 0, none⟩ = some (.int .i64 (wd : Int)) := hp.cell 0
  obtain ⟨ao, cap, rfl, _, _, _⟩ := hv
  generalize rfN l wd = m at HR ⊢
  generalize rfE l wd = er at HR ⊢
  clear hw hp
  go_enter Tryz.func105, Tryz.ntmps105
  go_wp2_with (go_at_call 106; refine HR.out.mono ?_; rintro e w2 ⟨rfl, q⟩; have HA2 := Lib.hid q; clear q)
  go_ret2
  exact ⟨rfl, HA2.out⟩
/-- How a reader stands: its bytes, how many it has taken, whether something was none. -/
abbrev rdE (v : Value) (k : Nat) (wr : Bool) : List Value := [v, .int .i64 (k : Int), .bool wr]
def RdPostE (ok : Bool) (val : Value) (br : Nat) (v : Value) (k : Nat) (wr : Bool) (w : World) (e : Ending) (w' : World) : Prop :=
  if ok then e = .returned val ∧ BkS 84 w' br (rdE v k wr) ∧ TnS br w w' else e = .panicked [{ v := .iface 97 (.int .i64 110), recovered := false }] ∧ Adds w w'
set_option maxRecDepth 100000 in
set_option maxHeartbeats 4000000 in
theorem readN_any {n : Nat} (br pb : Nat) (wd : Nat) (hwd : wd = 1 ∨ wd = 2 ∨ wd = 4) (v : Value) (l : List UInt8) (k : Nat) (hk : k ≤ l.length) (wr : Bool) (w : World) (hn : n ≤ w.heap.size) (hv : Bytes n w v l) (hw : Widths w)
    (hp : BkS 3 w pb [.int .i64 (wd : Int)]) (hr : BkS 84 w br (rdE v k wr)) :
    Calls Tryz.prog 104 #[.pointer (some ⟨br, 0, none⟩), .int .i64 (wd : Int), .func (.func 105) #[] #[.pointer (some ⟨pb, 0, none⟩)]] w
      (RdPostE (decide (¬ (l.drop k).length < wd)) (.int .u64 ((rfN (l.drop k) wd : Nat) : Int)) br v (k + wd) wr w) := by
  have hmx : Tryz.prog.follows .mixedOrders = true := by kernel_rfl
  obtain ⟨ao, cap, rfl, hv1, hv2, hv3⟩ := id hv
  have HNum := Lib.hid (fun (W : World) (h : Adds w W) => num_one pb wd (cutE ao l.length cap k) (l.drop k) W (bytesE_from (hv.below (h.mono hn)) k hk) (hw.below h) (hp.adds h))
  have HFr := Lib.hid (fun (W : World) => from16 ao l.length cap k hk W)
  have HRd := Lib.hid hr
  have HD := Lib.hid (show ∀ w', Adds w.drew w' → w'.cell? ⟨br, 0, none⟩ = some (.slice ao l.length cap) ∧ w'.cell? ⟨br, 1, none⟩ = some (.int .i64 (k : Int)) from fun w' h => by
    have := hr.adds (Adds.trans (Adds.drew w) h)
    exact ⟨this.cell 0, this.cell 1⟩)
  have HE := Lib.hid (rfE_is16 (l.drop k) hwd)
  obtain ⟨m, hm⟩ : ∃ m, rfN (l.drop k) wd = m := ⟨_, rfl⟩
  obtain ⟨er, her⟩ : ∃ er, rfE (l.drop k) wd = er := ⟨_, rfl⟩
  rw [hm] at HNum ⊢
  rw [her] at HNum HE
  obtain ⟨cu, hcu⟩ : ∃ cu, cutE ao l.length cap k = cu := ⟨_, rfl⟩
  rw [hcu] at HNum HFr
  have HW4 := Lib.hid (show 1 ≤ wd ∧ wd ≤ 4 by omega)
  unfold maxLen at hv2
  have HKl := Lib.hid (And.intro hk (And.intro hv1 hv2))
  obtain ⟨ok, hok⟩ : ∃ ok, decide (¬ (l.drop k).length < wd) = ok := ⟨_, rfl⟩
  rw [hok]
  have HOk := Lib.hid hok
  clear hm her hv hw hp hr hv1 hv2 hv3 hk hok hcu hwd hn
  go_enter Tryz.func104, Tryz.ntmps104
  go_wp2_with fail
  refine wp_region_loose [] (fun _ _ _ => True) Adds (by kernel_rfl) (by kernel_rfl) (by simp) Adds.refl (fun _ _ _ h k => Adds.trans h k) (fun _ _ _ _ _ _ => trivial) ?_
  repeat (refine wpL_step (fun K hK => ?_); first
    | (refine stepL_ex rfl rfl rfl Adds.refl (fun w' hw' => rfl) ?_; go_simp; refine hK _ ?_; clear hK K)
    | (refine stepL_ex (v := .pointer (some ⟨br, 0, none⟩)) rfl rfl rfl Adds.refl ?_ ?_; (· (intro w' hw'; clear hK; go_simp)); go_simp; refine hK _ ?_; clear hK K)
    | (refine stepL_ex (v := .pointer (some ⟨br, 1, none⟩)) rfl rfl rfl Adds.refl ?_ ?_; (· (intro w' hw'; clear hK; go_simp)); go_simp; refine hK _ ?_; clear hK K)
    | (refine stepL_ex (v := .slice ao l.length cap) rfl rfl rfl Adds.refl ?_ ?_; (· (intro w' hw'; clear hK; have hc := HD.out w' hw'; go_simp)); go_simp; refine hK _ ?_; clear hK K)
    | (refine stepL_ex (v := .int .i64 (k : Int)) rfl rfl rfl Adds.refl ?_ ?_; (· (intro w' hw'; clear hK; have hc := HD.out w' hw'; go_simp)); go_simp; refine hK _ ?_; clear hK K)
    | (refine stepL_call (v := cu) (f := 85) (args := #[.slice ao l.length cap, .int .i64 (k : Int)]) rfl rfl rfl ?_ (fun w' _ => (HFr.out w').mono fun _ _ ⟨q1, q2⟩ => ⟨q1, q2 ▸ Adds.refl _⟩) ?_; (· (intro w'; clear hK; go_simp)); go_simp; refine hK _ ?_; clear hK K)
    | (refine stepL_call (v := .tuple #[.int .u64 (m : Int), .int .i64 er]) (f := 105) (args := #[cu, .pointer (some ⟨pb, 0, none⟩)]) rfl rfl rfl ?_ (fun w' hw' => HNum.out w' (Adds.trans (Adds.drew w) hw')) ?_; (· (intro w'; clear hK; go_simp)); go_simp; refine hK _ ?_; clear hK K))
  refine wpL_nil ?_
  intro w4 a4
  simp only [forL]
  have HA4 := Lib.hid (Adds.trans (Adds.drew w) a4)
  have HR4 := Lib.hid (HRd.out.adds HA4.out)
  have d1 : w4.cell? ⟨br, 1, none⟩ = some (.int .i64 (k : Int)) := HR4.out.cell 1
  have d2 : w4.cell? ⟨br, 2, none⟩ = some (.bool wr) := HR4.out.cell 2
  have f1 := HR4.out.free 1
  have f2 := HR4.out.free 2
  clear a4
  cases ok
  · have he : er = 110 := by
      have h1 : (l.drop k).length < wd := by have h0 := HOk.out; rw [decide_eq_false_iff_not] at h0; omega
      rw [HE.out, if_pos h1]
    subst he
    clear HD HNum HFr
    simp only [Exit.then]
    go_wp2_with fail
    exact ⟨rfl, by simp [RdPostE]; exact HA4.out⟩
  · have hl := of_decide_eq_true HOk.out
    have he : er = 0 := by rw [HE.out, if_neg hl]
    subst he
    have hwr : wrap64 ((k : Int) + (wd : Int)) = (k : Int) + (wd : Int) := by
      have h1 := HKl.out
      have h2 := HW4.out
      rw [List.length_drop] at hl
      unfold wrap64
      omega
    clear HD HNum HFr hl
    simp only [Exit.then]
    cases wr
    all_goals (
      go_wp2_with fail
      go_ret
      first
        | (have hs := (HR4.out.set 2 (.bool false)).set 1 (.int .i64 ((k : Int) + (wd : Int)))
           exact ⟨rfl, by have e : ((k + wd : Nat) : Int) = (k : Int) + (wd : Int) := by omega
                          unfold rdE; rw [e]; exact hs, (TnS.of_adds br HA4.out).trans ((TnS.setCell _ _ _ _).trans (TnS.setCell _ _ _ _))⟩)
        | (have hs := (HR4.out.set 2 (.bool true)).set 1 (.int .i64 ((k : Int) + (wd : Int)))
           exact ⟨rfl, by have e : ((k + wd : Nat) : Int) = (k : Int) + (wd : Int) := by omega
                          unfold rdE; rw [e]; exact hs, (TnS.of_adds br HA4.out).trans ((TnS.setCell _ _ _ _).trans (TnS.setCell _ _ _ _))⟩))
/-- A number of a width: it is taken, or the bytes end. -/
def NumPostE (ok : Bool) (m : Nat) (br : Nat) (v : Value) (k : Nat) (wr : Bool) (w : World) (e : Ending) (w' : World) : Prop :=
  if ok then e = .returned (.int .i64 (m : Int)) ∧ BkS 84 w' br (rdE v k wr) ∧ TnS br w w' else e = .panicked [{ v := .iface 97 (.int .i64 110), recovered := false }] ∧ Adds w w'
theorem rfN_lt16 (l : List UInt8) {wd : Nat} (h : wd = 1 ∨ wd = 2 ∨ wd = 4) : rfN l (wd : Int) < 4294967296 := by
  unfold rfN
  split
  · have h1 := unB_lt (l.take (wd : Int).toNat)
    have h2 : (l.take (wd : Int).toNat).length ≤ 4 := by rw [List.length_take]; omega
    exact Nat.lt_of_lt_of_le h1 (Nat.le_trans (Nat.pow_le_pow_right (by omega) h2) (by omega))
  · omega
set_option maxRecDepth 100000 in
set_option maxHeartbeats 4000000 in
theorem number_any {n : Nat} (br : Nat) (wd : Nat) (hwd : wd = 1 ∨ wd = 2 ∨ wd = 4) (v : Value) (l : List UInt8) (k : Nat) (hk : k ≤ l.length) (wr : Bool) (w : World) (hn : n ≤ w.heap.size) (hv : Bytes n w v l) (hw : Widths w)
    (hr : BkS 84 w br (rdE v k wr)) :
    Calls Tryz.prog 78 #[.pointer (some ⟨br, 0, none⟩), .int .i64 (wd : Int)] w (NumPostE (decide (¬ (l.drop k).length < wd)) (rfN (l.drop k) wd) br v (k + wd) wr w) := by
  obtain ⟨w1, hw1⟩ : ∃ w1, w.alloc (.cells #[.int .i64 (wd : Int)] 3) = w1 := ⟨_, rfl⟩
  have HA1 := Lib.hid (show Adds w w1 by rw [← hw1]; exact (Gr.new _ _).adds)
  have HB1 := Lib.hid (show BkS 3 w1 w.heap.size [.int .i64 (wd : Int)] by rw [← hw1]; exact BkS.new _ _ _)
  have HN := Lib.hid (readN_any br w.heap.size wd hwd v l k hk wr w1 (Nat.le_trans hn HA1.out.size) (hv.below (HA1.out.mono hn)) (hw.below HA1.out) HB1.out (hr.adds HA1.out))
  have hmb := rfN_lt16 (l.drop k) hwd
  obtain ⟨ok, hok⟩ : ∃ ok, decide (¬ (l.drop k).length < wd) = ok := ⟨_, rfl⟩
  rw [hok] at HN ⊢
  generalize rfN (l.drop k) wd = m at HN hmb ⊢
  have hwr : wrap64 ((m : Nat) : Int) = (m : Int) := by unfold wrap64; omega
  have c0 : w1.cell? ⟨w.heap.size, 0, none⟩ = some (.int .i64 (wd : Int)) := HB1.out.cell 0
  clear hok hmb hv hw hr hn hk hwd
  cases ok
  · have HP := Lib.hid (show Calls Tryz.prog 104 #[.pointer (some ⟨br, 0, none⟩), .int .i64 (wd : Int), .func (.func 105) #[] #[.pointer (some ⟨w.heap.size, 0, none⟩)]] w1 fun e w' => e = .panicked [{ v := .iface 97 (.int .i64 110), recovered := false }] ∧ Adds w1 w' from HN.out.mono fun e w' h => by simpa [RdPostE] using h)
    clear HN
    go_enter Tryz.func78, Tryz.ntmps78
    go_wp2_with (go_at_call 104; refine HP.out.mono ?_; rintro e w2 ⟨rfl, q⟩; have HA2 := Lib.hid q; clear q)
    exact ⟨rfl, by simp [NumPostE]; exact Adds.trans HA1.out HA2.out⟩
  · have HP := Lib.hid (show Calls Tryz.prog 104 #[.pointer (some ⟨br, 0, none⟩), .int .i64 (wd : Int), .func (.func 105) #[] #[.pointer (some ⟨w.heap.size, 0, none⟩)]] w1 fun e w' => e = .returned (.int .u64 (m : Int)) ∧ BkS 84 w' br (rdE v (k + wd) wr) ∧ TnS br w1 w' from HN.out.mono fun e w' h => by simpa [RdPostE] using h)
    clear HN
    go_enter Tryz.func78, Tryz.ntmps78
    go_wp2_with (go_at_call 104; refine HP.out.mono ?_; rintro e w2 ⟨rfl, q1, q2⟩; have HQ := Lib.hid (And.intro q1 q2); clear q1 q2)
    go_ret
    exact ⟨by rw [← hwr]; simp [hwr], HQ.out.1, (TnS.of_adds br HA1.out).trans HQ.out.2⟩
end Go.Proofs.YtbinmgpfkjmijaaGreatDoor
