/- Reading the words of a text: contracts. (genX1.py wrote this.) -/
import Derived.Test.YtkodjmdghjcndaaGreatDoorIB1
namespace Go.Proofs.YtkodjmdghjcndaaGreatDoor
open Go Go.RowKit Go.Shelf Go.Lib

def wU (r : Option (Nat × Nat)) : Nat := match r with | some (u, _) => u | none => 0
def wM (r : Option (Nat × Nat)) : Nat := match r with | some (_, m) => m | none => 0
def wE (r : Option (Nat × Nat)) : Int := match r with | some _ => 0 | none => 180
theorem wordV_is (r : Option (Nat × Nat)) : wordV r = .tuple #[.int .i64 (wU r : Nat), .int .i64 (wM r : Nat), .int .i64 (wE r)] := by
  cases r with
  | none => rfl
  | some p => rfl
def bX (r : Option (In × Nat)) : In := match r with | some (x, _) => x | none => (0, 0, 0, 0, 0)
def bM (r : Option (In × Nat)) : Nat := match r with | some (_, m) => m | none => 0
def bE (r : Option (In × Nat)) : Int := match r with | some _ => 0 | none => 180
theorem begunV_is (r : Option (In × Nat)) : begunV r = .tuple #[insV (bX r), .int .i64 (bM r : Nat), .int .i64 (bE r)] := by
  cases r with
  | none => rfl
  | some p => rfl
theorem digsOf_len (l : List UInt8) : (digsOf l).length ≤ l.length := (List.takeWhile_prefix _).length_le
theorem wM_le (mk l : List UInt8) : wM (wordN mk l) ≤ l.length := by
  unfold wordN
  by_cases h : isP (32 :: mk) l = true
  · rw [if_pos h]
    have h1 : (digsOf (behindP (32 :: mk) l)).length ≤ l.length - (mk.length + 1) := by
      refine Nat.le_trans (digsOf_len _) ?_
      unfold behindP
      rw [if_pos h, List.length_drop]
      exact Nat.le_refl _
    have h2 : mk.length + 1 ≤ l.length := by
      have := List.IsPrefix.length_le (List.isPrefixOf_iff_prefix.1 h)
      simpa using this
    cases parseUintB 32 (digsOf (behindP (32 :: mk) l)) with
    | ok u => show mk.length + 1 + _ ≤ _; omega
    | _ => exact Nat.zero_le _
  · rw [if_neg h]; exact Nat.zero_le _
theorem headOf_len (l : List UInt8) : (headOf l).length ≤ l.length := (List.takeWhile_prefix _).length_le
theorem bM_le (l : List UInt8) : bM (begunI l) ≤ l.length := by
  have h : (str (headOf l)).size ≤ l.length := by rw [str_size8]; exact headOf_len l
  unfold begunI begunS begunN
  split
  · exact h
  · split
    · exact h
    · exact Nat.zero_le _
/-- A number behind a blank, of the part's kind. -/
theorem textw8 {n : Nat} (bn : Nat) (lo hi : Int) (mk : List UInt8) (z : Bool) (hmk : mk.length ≤ 1) (v : Value) (l : List UInt8) (w : World) (hv : Bytes n w v l) (hw : IVars w) (hl : l.length ≤ 65536) (hb : BkS 85 w bn [.int .i64 lo, .int .i64 hi, .string ⟨mk.toArray⟩, .bool z]) :
    Calls Tryz.prog 91 #[v, .pointer (some ⟨bn, 0, none⟩)] w fun e w' => e = .returned (.tuple #[.int .i64 (wU (wordN mk l) : Nat), .int .i64 (wM (wordN mk l) : Nat), .int .i64 (wE (wordN mk l))]) ∧ Adds w w' := by
  have hc := word8 lo hi mk z hmk v l w hv hw hl
  rw [wordV_is] at hc
  unfold numV8 at hc
  have HC := Lib.hid hc
  have c0 : w.cell? ⟨bn, 0, none⟩ = some (.int .i64 lo) := hb.cell 0
  have c1 : w.cell? ⟨bn, 1, none⟩ = some (.int .i64 hi) := hb.cell 1
  have c2 : w.cell? ⟨bn, 2, none⟩ = some (.string ⟨mk.toArray⟩) := hb.cell 2
  have c3 : w.cell? ⟨bn, 3, none⟩ = some (.bool z) := hb.cell 3
  obtain ⟨ao, cap, rfl, _, _, _⟩ := hv
  clear hc hw hb hl hmk
  generalize wU (wordN mk l) = u at HC ⊢
  generalize wM (wordN mk l) = m at HC ⊢
  generalize wE (wordN mk l) = er at HC ⊢
  generalize (⟨mk.toArray⟩ : ByteArray) = ms at c2 HC
  go_enter Tryz.func91, Tryz.ntmps91
  go_wp2_with (go_at_call 92; refine HC.out.mono ?_; rintro e w2 ⟨rfl, q⟩; have HA2 := Lib.hid q; clear q)
  go_ret3
  exact ⟨rfl, HA2.out⟩
def RdPostE (ok : Bool) (val : Value) (br : Nat) (v : Value) (k : Nat) (w : World) (e : Ending) (w' : World) : Prop :=
  if ok then e = .returned val ∧ BkS 91 w' br (rdC v k) ∧ TnS br w w' else e = .panicked [{ v := .iface 140 (.int .i64 180), recovered := false }] ∧ Adds w w'
theorem drop_short {l : List UInt8} (h : l.length ≤ 65536) (k : Nat) : (l.drop k).length ≤ 65536 := by rw [List.length_drop]; omega
theorem cutF_some (a : Addr) (len cap i : Nat) : ∃ a' c, cutF (some a) len cap i = .slice (some a') (len - i) c := by
  unfold cutF
  by_cases h : cap = i
  · rw [if_pos h]; exact ⟨_, _, rfl⟩
  · rw [if_neg h]; exact ⟨_, _, rfl⟩
set_option maxRecDepth 100000 in
set_option maxHeartbeats 4000000 in
theorem readW8 {n : Nat} (br pb : Nat) (lo hi : Int) (mk : List UInt8) (z : Bool) (hmk : mk.length ≤ 1) (v : Value) (l : List UInt8) (k : Nat) (hk : k ≤ l.length) (hl : l.length ≤ 65536) (w : World) (hn : n ≤ w.heap.size) (hv : Bytes n w v l) (hw : IVars w)
    (hp : BkS 85 w pb [.int .i64 lo, .int .i64 hi, .string ⟨mk.toArray⟩, .bool z]) (hr : BkS 91 w br (rdC v k)) :
    Calls Tryz.prog 90 #[.pointer (some ⟨br, 0, none⟩), .func (.func 91) #[] #[.pointer (some ⟨pb, 0, none⟩)]] w
      (RdPostE (decide (wE (wordN mk (l.drop k)) = 0)) (.int .i64 (wU (wordN mk (l.drop k)) : Nat)) br v (k + wM (wordN mk (l.drop k))) w) := by
  have hmx : Tryz.prog.follows .mixedOrders = true := by kernel_rfl
  obtain ⟨ao, cap, rfl, hv1, hv2, hv3⟩ := id hv
  have HNum := Lib.hid (fun (W : World) (h : Adds w W) => textw8 pb lo hi mk z hmk (cutF ao l.length cap k) (l.drop k) W (bytes_from (hv.below (h.mono hn)) k hk) (hw.adds h) (drop_short hl k) (hp.adds h))
  have HFr := Lib.hid (fun (W : World) => from8 ao l.length cap k hk W)
  have HRd := Lib.hid hr
  have HD := Lib.hid (show ∀ w', Adds w.drew w' → w'.cell? ⟨br, 0, none⟩ = some (.slice ao l.length cap) ∧ w'.cell? ⟨br, 1, none⟩ = some (.int .i64 (k : Int)) from fun w' h => by
    have := hr.adds (Adds.trans (Adds.drew w) h)
    exact ⟨this.cell 0, this.cell 1⟩)
  have hwm := wM_le mk (l.drop k)
  obtain ⟨m, hm⟩ : ∃ m, wU (wordN mk (l.drop k)) = m := ⟨_, rfl⟩
  obtain ⟨er, her⟩ : ∃ er, wE (wordN mk (l.drop k)) = er := ⟨_, rfl⟩
  obtain ⟨wm, hwd⟩ : ∃ wm, wM (wordN mk (l.drop k)) = wm := ⟨_, rfl⟩
  have HEr := Lib.hid (show er = 0 ∨ er = 180 by rw [← her]; cases wordN mk (l.drop k) with | none => exact .inr rfl | some p => exact .inl rfl)
  rw [hm, hwd] at HNum ⊢
  rw [her] at HNum ⊢
  rw [hwd] at hwm
  obtain ⟨cu, hcu⟩ : ∃ cu, cutF ao l.length cap k = cu := ⟨_, rfl⟩
  rw [hcu] at HNum HFr
  have HWm := Lib.hid hwm
  have HL := Lib.hid hl
  unfold maxLen at hv2
  have HKl := Lib.hid (And.intro hk (And.intro hv1 hv2))
  obtain ⟨ok, hok⟩ : ∃ ok, decide (er = 0) = ok := ⟨_, rfl⟩
  rw [hok]
  have HOk := Lib.hid hok
  clear hm her hv hw hp hr hv1 hv2 hv3 hk hok hcu hwd hn hwm hl hmk
  go_enter Tryz.func90, Tryz.ntmps90
  go_wp2_with fail
  refine wp_region_loose [] (fun _ _ _ => True) Adds (by kernel_rfl) (by kernel_rfl) (by simp) Adds.refl (fun _ _ _ h k => Adds.trans h k) (fun _ _ _ _ _ _ => trivial) ?_
  repeat (refine wpL_step (fun K hK => ?_); first
    | (refine stepL_ex rfl rfl rfl Adds.refl (fun w' hw' => rfl) ?_; go_simp; refine hK _ ?_; clear hK K)
    | (refine stepL_ex (v := .pointer (some ⟨br, 0, none⟩)) rfl rfl rfl Adds.refl ?_ ?_; (· (intro w' hw'; clear hK; go_simp)); go_simp; refine hK _ ?_; clear hK K)
    | (refine stepL_ex (v := .pointer (some ⟨br, 1, none⟩)) rfl rfl rfl Adds.refl ?_ ?_; (· (intro w' hw'; clear hK; go_simp)); go_simp; refine hK _ ?_; clear hK K)
    | (refine stepL_ex (v := .slice ao l.length cap) rfl rfl rfl Adds.refl ?_ ?_; (· (intro w' hw'; clear hK; have hc := HD.out w' hw'; go_simp)); go_simp; refine hK _ ?_; clear hK K)
    | (refine stepL_ex (v := .int .i64 (k : Int)) rfl rfl rfl Adds.refl ?_ ?_; (· (intro w' hw'; clear hK; have hc := HD.out w' hw'; go_simp)); go_simp; refine hK _ ?_; clear hK K)
    | (refine stepL_call (v := cu) (f := 131) (args := #[.slice ao l.length cap, .int .i64 (k : Int)]) rfl rfl rfl ?_ (fun w' _ => (HFr.out w').mono fun _ _ ⟨q1, q2⟩ => ⟨q1, q2 ▸ Adds.refl _⟩) ?_; (· (intro w'; clear hK; go_simp)); go_simp; refine hK _ ?_; clear hK K)
    | (refine stepL_call (v := .tuple #[.int .i64 (m : Int), .int .i64 (wm : Nat), .int .i64 er]) (f := 91) (args := #[cu, .pointer (some ⟨pb, 0, none⟩)]) rfl rfl rfl ?_ (fun w' hw' => HNum.out w' (Adds.trans (Adds.drew w) hw')) ?_; (· (intro w'; clear hK; go_simp)); go_simp; refine hK _ ?_; clear hK K))
  refine wpL_nil ?_
  intro w4 a4
  simp only [forL]
  have HA4 := Lib.hid (Adds.trans (Adds.drew w) a4)
  have HR4 := Lib.hid (HRd.out.adds HA4.out)
  have d1 : w4.cell? ⟨br, 1, none⟩ = some (.int .i64 (k : Int)) := HR4.out.cell 1
  have f1 := HR4.out.free 1
  clear a4
  cases ok
  · have he : er = 180 := by
      have h0 := HOk.out
      rw [decide_eq_false_iff_not] at h0
      exact HEr.out.resolve_left h0
    subst he
    clear HD HNum HFr
    simp only [Exit.then]
    go_wp2_with fail
    exact ⟨rfl, by simp [RdPostE]; exact HA4.out⟩
  · have he : er = 0 := of_decide_eq_true HOk.out
    subst he
    have hwr : wrap64 ((k : Int) + (wm : Nat)) = (k : Int) + (wm : Nat) := by
      have h1 := HKl.out
      have h2 := HWm.out
      have h3 := HL.out
      rw [List.length_drop] at h2
      unfold wrap64
      omega
    clear HD HNum HFr
    simp only [Exit.then]
    go_wp2_with fail
    go_ret
    have hs := HR4.out.set 1 (.int .i64 ((k : Int) + (wm : Nat)))
    have e : ((k + wm : Nat) : Int) = (k : Int) + (wm : Nat) := by omega
    refine ⟨rfl, ?_, (TnS.of_adds br HA4.out).trans (TnS.setCell _ _ _ _)⟩
    unfold rdC
    rw [e]
    exact hs
set_option maxRecDepth 100000 in
set_option maxHeartbeats 4000000 in
theorem readB8 {n : Nat} (br : Nat) (aa : Addr) (cap : Nat) (l : List UInt8) (k : Nat) (hk : k ≤ l.length) (hl : l.length ≤ 65536) (w : World) (hn : n ≤ w.heap.size) (hv : Bytes n w (.slice (some aa) l.length cap) l) (hw : IVars w) (hr : BkS 91 w br (rdC (.slice (some aa) l.length cap) k)) :
    Calls Tryz.prog 88 #[.pointer (some ⟨br, 0, none⟩), .func (.func 89) #[] #[]] w
      (RdPostE (decide (bE (begunI (l.drop k)) = 0)) (insV (bX (begunI (l.drop k)))) br (.slice (some aa) l.length cap) (k + bM (begunI (l.drop k))) w) := by
  have hmx : Tryz.prog.follows .mixedOrders = true := by kernel_rfl
  obtain ⟨_, hv1, hv2⟩ := bytes_len hv
  have HNum := Lib.hid (fun (W : World) (h : Adds w W) => show Calls Tryz.prog 89 #[cutF (some aa) l.length cap k] W fun e w' => e = .returned (.tuple #[insV (bX (begunI (l.drop k))), .int .i64 (bM (begunI (l.drop k)) : Nat), .int .i64 (bE (begunI (l.drop k)))]) ∧ Adds W w' from by
    obtain ⟨a', c', e⟩ := cutF_some aa l.length cap k
    have hb := bytes_from (hv.below (h.mono hn)) k hk
    rw [e] at hb ⊢
    have := begun8 a' (l.length - k) c' (l.drop k) W hb (drop_short hl k) (hw.adds h)
    rw [begunV_is] at this
    exact this)
  have HFr := Lib.hid (fun (W : World) => from8 (some aa) l.length cap k hk W)
  have HRd := Lib.hid hr
  have hwm := bM_le (l.drop k)
  obtain ⟨ao, hao⟩ : ∃ ao, some aa = ao := ⟨_, rfl⟩
  rw [hao] at HFr HNum HRd ⊢
  obtain ⟨bx, hm⟩ : ∃ m, bX (begunI (l.drop k)) = m := ⟨_, rfl⟩
  obtain ⟨er, her⟩ : ∃ er, bE (begunI (l.drop k)) = er := ⟨_, rfl⟩
  obtain ⟨wm, hwd⟩ : ∃ wm, bM (begunI (l.drop k)) = wm := ⟨_, rfl⟩
  have HEr := Lib.hid (show er = 0 ∨ er = 180 by rw [← her]; cases begunI (l.drop k) with | none => exact .inr rfl | some p => exact .inl rfl)
  rw [hm, her, hwd] at HNum ⊢
  rw [hwd] at hwm
  have HWm := Lib.hid hwm
  have HL := Lib.hid hl
  obtain ⟨xo, xa, xb, xc, xi⟩ := bx
  obtain ⟨cu, hcu⟩ : ∃ cu, cutF ao l.length cap k = cu := ⟨_, rfl⟩
  rw [hcu] at HNum HFr
  unfold maxLen at hv2
  have HKl := Lib.hid (And.intro hk (And.intro hv1 hv2))
  obtain ⟨ok, hok⟩ : ∃ ok, decide (er = 0) = ok := ⟨_, rfl⟩
  rw [hok]
  have HOk := Lib.hid hok
  clear hm her hwd hv hw hr hv1 hv2 hk hok hcu hn hwm hl
  obtain ⟨w1, hw1⟩ : ∃ w1, w.alloc (.cells #[.int .i64 0, .int .i64 0, .int .i64 0, .int .i64 0, .int .u32 0] 25) = w1 := ⟨_, rfl⟩
  have HA1 := Lib.hid (show Adds w w1 by rw [← hw1]; exact (Gr.new _ _).adds)
  have HB4 := Lib.hid (show BkS 25 w1 w.heap.size (insC (0, 0, 0, 0, 0)) by rw [← hw1]; exact BkS.new _ _ _)
  have HR1 := Lib.hid (HRd.out.adds HA1.out)
  go_enter Tryz.func88, Tryz.ntmps88
  go_wp2_with fail
  clear hw1
  obtain ⟨n4, hn4⟩ : ∃ n4, w.heap.size = n4 := ⟨_, rfl⟩
  have HN4 := Lib.hid hn4
  rw [hn4] at HB4 ⊢
  clear hn4
  refine (wpIn_wide (n := 6)).1 ?_
  refine wpIn_region_inv (fun L b' w2 => ∃ s5 : Value, RegI8 w1 (L 15) (L 16) (insC (xo, xa, xb, xc, xi)) s5 b' ({ tmps := #[Value.pointer (some { block := br, off := 0 }), Value.func (Fn.func 89) #[] #[], undef, undef, Value.pointer (some { block := n4, off := 0 }), sel8 (L 15) (s5) (undef), sel8 (L 17) (Value.int IntKind.i64 (wm : Nat)) (undef), sel8 (L 18) (Value.int IntKind.i64 er) (undef), sel8 (L 11) (Value.tuple #[insV (xo, xa, xb, xc, xi), Value.int IntKind.i64 (wm : Nat), Value.int IntKind.i64 er]) (undef), sel8 (L 0) (Value.func (Fn.func 89) #[] #[]) (undef), sel8 (L 1) (Value.pointer (some { block := br, off := 0 })) (undef), sel8 (L 2) (Value.pointer (some { block := br, off := 0 })) (undef), sel8 (L 3) (Value.pointer (some { block := br, off := 0 })) (undef), sel8 (L 4) (Value.slice ao l.length cap) (undef), sel8 (L 5) (Value.pointer (some { block := br, off := 0 })) (undef), sel8 (L 6) (Value.pointer (some { block := br, off := 0 })) (undef), sel8 (L 7) (Value.pointer (some { block := br, off := 1 })) (undef), sel8 (L 8) (Value.int IntKind.i64 ((k : Nat) : Int)) (undef), sel8 (L 9) (cu) (undef), sel8 (L 10) (Value.tuple #[insV (xo, xa, xb, xc, xi), Value.int IntKind.i64 (wm : Nat), Value.int IntKind.i64 er]) (undef), sel8 (L 12) (insV (xo, xa, xb, xc, xi)) (undef), sel8 (L 13) (Value.int IntKind.i64 (wm : Nat)) (undef), sel8 (L 14) (Value.int IntKind.i64 er) (undef), undef, undef, undef, undef, undef, undef, undef, undef, undef, undef, undef, undef, undef], defers := [] }) w2) hmx (by kernel_rfl) ?inv0 ?step ?fin
  case inv0 => exact ⟨undef, rfl, Adds.drew _, fun h => (by cases h)⟩
  case step =>
    rintro L b' w2 i o ho hL hC he ⟨s5, rfl, hP⟩
    have q16 := hC 16 _ rfl
    simp [Region.binds] at q16
    have HP := Lib.hid hP
    have k1 := HR1.out.adds hP.1
    have i0 : w2.cell? ⟨br, 0, none⟩ = some (.slice ao l.length cap) := k1.cell 0
    have i1 : w2.cell? ⟨br, 1, none⟩ = some (.int .i64 (k : Int)) := k1.cell 1
    clear hC hP k1
    rcases i with _ | _ | _ | _ | _ | _ | _ | _ | _ | _ | _ | _ | _ | _ | _ | _ | _ | _ | _ | i
    · simp only [List.getElem?_cons_zero, Option.some.injEq] at ho
      subst ho
      try simp [Region.binds] at he
      clear q16
      try simp only []
      gi_wp2
      refine ⟨s5, by simp [sel8, *], HP.out.1, (by first | exact HP.out.2 | simpa [he] using HP.out.2)⟩
    · simp only [List.getElem?_cons_zero, List.getElem?_cons_succ, Option.some.injEq] at ho
      subst ho
      try simp [Region.binds] at he
      clear q16
      try simp only []
      gi_wp2
      refine ⟨s5, by simp [sel8, *], HP.out.1, (by first | exact HP.out.2 | simpa [he] using HP.out.2)⟩
    · simp only [List.getElem?_cons_zero, List.getElem?_cons_succ, Option.some.injEq] at ho
      subst ho
      try simp [Region.binds] at he
      clear q16
      try simp only [he, sel8_t]
      gi_wp2
      refine ⟨s5, by simp [sel8, *], HP.out.1, (by first | exact HP.out.2 | simpa [he] using HP.out.2)⟩
    · simp only [List.getElem?_cons_zero, List.getElem?_cons_succ, Option.some.injEq] at ho
      subst ho
      try simp [Region.binds] at he
      clear q16
      try simp only [he, sel8_t]
      gi_wp2
      refine ⟨s5, by simp [sel8, *], HP.out.1, (by first | exact HP.out.2 | simpa [he] using HP.out.2)⟩
    · simp only [List.getElem?_cons_zero, List.getElem?_cons_succ, Option.some.injEq] at ho
      subst ho
      try simp [Region.binds] at he
      clear q16
      try simp only [he, sel8_t]
      gi_wp2
      refine ⟨s5, by simp [sel8, *], HP.out.1, (by first | exact HP.out.2 | simpa [he] using HP.out.2)⟩
    · simp only [List.getElem?_cons_zero, List.getElem?_cons_succ, Option.some.injEq] at ho
      subst ho
      try simp [Region.binds] at he
      clear q16
      try simp only []
      gi_wp2
      refine ⟨s5, by simp [sel8, *], HP.out.1, (by first | exact HP.out.2 | simpa [he] using HP.out.2)⟩
    · simp only [List.getElem?_cons_zero, List.getElem?_cons_succ, Option.some.injEq] at ho
      subst ho
      try simp [Region.binds] at he
      clear q16
      try simp only [he, sel8_t]
      gi_wp2
      refine ⟨s5, by simp [sel8, *], HP.out.1, (by first | exact HP.out.2 | simpa [he] using HP.out.2)⟩
    · simp only [List.getElem?_cons_zero, List.getElem?_cons_succ, Option.some.injEq] at ho
      subst ho
      try simp [Region.binds] at he
      clear q16
      try simp only [he, sel8_t]
      gi_wp2
      refine ⟨s5, by simp [sel8, *], HP.out.1, (by first | exact HP.out.2 | simpa [he] using HP.out.2)⟩
    · simp only [List.getElem?_cons_zero, List.getElem?_cons_succ, Option.some.injEq] at ho
      subst ho
      try simp [Region.binds] at he
      clear q16
      try simp only [he, sel8_t]
      gi_wp2
      refine ⟨s5, by simp [sel8, *], HP.out.1, (by first | exact HP.out.2 | simpa [he] using HP.out.2)⟩
    · simp only [List.getElem?_cons_zero, List.getElem?_cons_succ, Option.some.injEq] at ho
      subst ho
      try simp [Region.binds] at he
      have z16 : L 16 = false := by cases h : L 16 with | false => rfl | true => (have := q16 h; simp_all)
      clear q16
      simp only [he, sel8_t]
      gi_wp2_with (refine ⟨trivial, ?_⟩; gi_at_call 131; refine (callsIn_wide.2 (HFr.out w2)).mono ?_; rintro e w3 ⟨rfl, hA3⟩; have HA3 := Lib.hid (hA3 ▸ Adds.refl w2 : Adds w2 w3); clear hA3)
      refine ⟨s5, by simp [sel8, *], Adds.trans HP.out.1 HA3.out, fun h => ?_⟩
      obtain ⟨B, e1, e2, e3⟩ := HP.out.2 (by first | exact h | (simp [he]; done) | simpa [he] using h)
      exact ⟨B, e1, e2, by (have e4 := e3.adds HA3.out; simp only [z16, cond_false] at e4; simpa [z16] using e4)⟩
    · simp only [List.getElem?_cons_zero, List.getElem?_cons_succ, Option.some.injEq] at ho
      subst ho
      try simp [Region.binds] at he
      have z16 : L 16 = false := by cases h : L 16 with | false => rfl | true => (have := q16 h; simp_all)
      clear q16
      simp only [he, sel8_t]
      gi_wp2_with (refine ⟨trivial, ?_⟩; gi_at_call 89; refine (callsIn_wide.2 (HNum.out w2 (Adds.trans HA1.out HP.out.1))).mono ?_; rintro e w3 ⟨rfl, hA3⟩; have HA3 := Lib.hid hA3; clear hA3)
      refine ⟨s5, by simp [sel8, *], Adds.trans HP.out.1 HA3.out, fun h => ?_⟩
      obtain ⟨B, e1, e2, e3⟩ := HP.out.2 (by first | exact h | (simp [he]; done) | simpa [he] using h)
      exact ⟨B, e1, e2, by (have e4 := e3.adds HA3.out; simp only [z16, cond_false] at e4; simpa [z16] using e4)⟩
    · simp only [List.getElem?_cons_zero, List.getElem?_cons_succ, Option.some.injEq] at ho
      subst ho
      try simp [Region.binds] at he
      clear q16
      try simp only [he, sel8_t]
      gi_wp2
      refine ⟨s5, by simp [sel8, *], HP.out.1, (by first | exact HP.out.2 | simpa [he] using HP.out.2)⟩
    · simp only [List.getElem?_cons_zero, List.getElem?_cons_succ, Option.some.injEq] at ho
      subst ho
      try simp [Region.binds] at he
      clear q16
      try simp only [he, sel8_t]
      gi_wp2
      refine ⟨s5, by simp [sel8, *], HP.out.1, (by first | exact HP.out.2 | simpa [he] using HP.out.2)⟩
    · simp only [List.getElem?_cons_zero, List.getElem?_cons_succ, Option.some.injEq] at ho
      subst ho
      try simp [Region.binds] at he
      clear q16
      try simp only [he, sel8_t]
      gi_wp2
      refine ⟨s5, by simp [sel8, *], HP.out.1, (by first | exact HP.out.2 | simpa [he] using HP.out.2)⟩
    · simp only [List.getElem?_cons_zero, List.getElem?_cons_succ, Option.some.injEq] at ho
      subst ho
      try simp [Region.binds] at he
      clear q16
      try simp only [he, sel8_t]
      gi_wp2
      refine ⟨s5, by simp [sel8, *], HP.out.1, (by first | exact HP.out.2 | simpa [he] using HP.out.2)⟩
    · simp only [List.getElem?_cons_zero, List.getElem?_cons_succ, Option.some.injEq] at ho
      subst ho
      try simp [Region.binds] at he
      have z16 : L 16 = false := by cases h : L 16 with | false => rfl | true => (have := q16 h; simp_all)
      clear q16
      gi_wp2
      refine ⟨.pointer (some ⟨w2.heap.size, 0, none⟩), by simp [sel8, *], Adds.trans HP.out.1 (Gr.new _ _).adds, fun _ => ⟨_, rfl, HP.out.1.size, ?_⟩⟩
      have e := BkS.new 25 w2 (insC (0, 0, 0, 0, 0))
      simpa [z16] using e
    · simp only [List.getElem?_cons_zero, List.getElem?_cons_succ, Option.some.injEq] at ho
      subst ho
      try simp [Region.binds] at he
      clear q16
      have p15 : L 15 = true := by simp [he]
      have p12 : L 12 = true := by simp [he]
      obtain ⟨B, rfl, e2, e3⟩ := HP.out.2 p15
      rw [hL] at e3
      simp only [p12, p15, sel8_t]
      have HE3 := Lib.hid (show BkS 25 w2 B (insC (0, 0, 0, 0, 0)) from e3)
      have x0 : w2.cell? ⟨B, 0, none⟩ = some (.int .i64 0) := HE3.out.cell 0
      have x1 : w2.cell? ⟨B, 1, none⟩ = some (.int .i64 0) := HE3.out.cell 1
      have x2 : w2.cell? ⟨B, 2, none⟩ = some (.int .i64 0) := HE3.out.cell 2
      have x3 : w2.cell? ⟨B, 3, none⟩ = some (.int .i64 0) := HE3.out.cell 3
      have x4 : w2.cell? ⟨B, 4, none⟩ = some (.int .u32 0) := HE3.out.cell 4
      have y0 := HE3.out.free 0
      have y1 := HE3.out.free 1
      have y2 := HE3.out.free 2
      have y3 := HE3.out.free 3
      have y4 := HE3.out.free 4
      have HE2 := Lib.hid e2
      clear e2 e3
      gi_wp2
      refine ⟨.pointer (some ⟨B, 0, none⟩), by simp [sel8, *], ?_, fun _ => ⟨B, rfl, HE2.out, ?_⟩⟩
      · exact TnS.own HP.out.1 HE2.out (((((TnS.setCell _ _ _ _).trans (TnS.setCell _ _ _ _)).trans (TnS.setCell _ _ _ _)).trans (TnS.setCell _ _ _ _)).trans (TnS.setCell _ _ _ _))
      · have := (((((HE3.out.set 0 (.int .i64 xo)).set 1 (.int .i64 xa)).set 2 (.int .i64 xb)).set 3 (.int .i64 xc)).set 4 (.int .u32 xi))
        simpa using this
    · simp only [List.getElem?_cons_zero, List.getElem?_cons_succ, Option.some.injEq] at ho
      subst ho
      try simp [Region.binds] at he
      clear q16
      try simp only [he, sel8_t]
      gi_wp2
      refine ⟨s5, by simp [sel8, *], HP.out.1, (by first | exact HP.out.2 | simpa [he] using HP.out.2)⟩
    · simp only [List.getElem?_cons_zero, List.getElem?_cons_succ, Option.some.injEq] at ho
      subst ho
      try simp [Region.binds] at he
      clear q16
      try simp only [he, sel8_t]
      gi_wp2
      refine ⟨s5, by simp [sel8, *], HP.out.1, (by first | exact HP.out.2 | simpa [he] using HP.out.2)⟩
    · simp at ho
  case fin =>
    rintro b' w4 ⟨s5, rfl, hA, hB⟩
    simp only [List.length_cons, List.length_nil, Nat.reduceAdd, Nat.reduceLT, decide_true, sel8_t] at hB ⊢
    obtain ⟨B, rfl, hB1, hB2⟩ := hB trivial
    simp only [cond_true] at hB2
    have HA4 := Lib.hid (Adds.trans HA1.out hA)
    have HR4 := Lib.hid (HRd.out.adds HA4.out)
    have HB5 := Lib.hid hB2
    have HB4' := Lib.hid (HB4.out.adds hA)
    have HNe := Lib.hid (show br < w.heap.size ∧ n4 = w.heap.size ∧ w.heap.size < B from ⟨HRd.out.lt, HN4.out.symm, by have := HB4.out.lt; have := HN4.out; omega⟩)
    have d1 : w4.cell? ⟨br, 1, none⟩ = some (.int .i64 (k : Int)) := HR4.out.cell 1
    have f1 := HR4.out.free 1
    have x0 : w4.cell? ⟨B, 0, none⟩ = some (.int .i64 xo) := HB5.out.cell 0
    have x1 : w4.cell? ⟨B, 1, none⟩ = some (.int .i64 xa) := HB5.out.cell 1
    have x2 : w4.cell? ⟨B, 2, none⟩ = some (.int .i64 xb) := HB5.out.cell 2
    have x3 : w4.cell? ⟨B, 3, none⟩ = some (.int .i64 xc) := HB5.out.cell 3
    have x4 : w4.cell? ⟨B, 4, none⟩ = some (.int .u32 xi) := HB5.out.cell 4
    have z0 : w4.cell? ⟨n4, 0, none⟩ = some (.int .i64 0) := HB4'.out.cell 0
    have z1 : w4.cell? ⟨n4, 1, none⟩ = some (.int .i64 0) := HB4'.out.cell 1
    have z2 : w4.cell? ⟨n4, 2, none⟩ = some (.int .i64 0) := HB4'.out.cell 2
    have z3 : w4.cell? ⟨n4, 3, none⟩ = some (.int .i64 0) := HB4'.out.cell 3
    have z4 : w4.cell? ⟨n4, 4, none⟩ = some (.int .u32 0) := HB4'.out.cell 4
    have y0 := HB4'.out.free 0
    have y1 := HB4'.out.free 1
    have y2 := HB4'.out.free 2
    have y3 := HB4'.out.free 3
    have y4 := HB4'.out.free 4
    have hne1 : br < n4 := by have := HNe.out; omega
    have hne2 : n4 < B := by have := HNe.out; omega
    clear hA hB hB1 hB2 HNum HFr
    cases ok
    · have he : er = 180 := by
        have h0 := HOk.out
        rw [decide_eq_false_iff_not] at h0
        exact HEr.out.resolve_left h0
      subst he
      go_wp2_with fail
      exact ⟨rfl, by simp [RdPostE]; exact HA4.out⟩
    · have he : er = 0 := of_decide_eq_true HOk.out
      subst he
      have hwr : wrap64 ((k : Int) + (wm : Nat)) = (k : Int) + (wm : Nat) := by
        have h1 := HKl.out
        have h2 := HWm.out
        have h3 := HL.out
        rw [List.length_drop] at h2
        unfold wrap64
        omega
      go_wp2_with fail
      have hr1 := HR4.out.set 1 (.int .i64 ((k : Int) + (wm : Nat)))
      have hb1 := HB4'.out.other (c := br) (i := 1) (by omega) (.int .i64 ((k : Int) + (wm : Nat)))
      have hb := (((((hb1.set 0 (.int .i64 xo)).set 1 (.int .i64 xa)).set 2 (.int .i64 xb)).set 3 (.int .i64 xc)).set 4 (.int .u32 xi))
      have hr2 := (((((hr1.other (c := n4) (i := 0) (by omega) (.int .i64 xo)).other (c := n4) (i := 1) (by omega) (.int .i64 xa)).other (c := n4) (i := 2) (by omega) (.int .i64 xb)).other (c := n4) (i := 3) (by omega) (.int .i64 xc)).other (c := n4) (i := 4) (by omega) (.int .u32 xi))
      refine bodyPost_ret (res_box rfl _ _ _ (insC (xo, xa, xb, xc, xi)).toArray _ _ _ rfl hb Tryz.underlying25 rfl (by kernel_rfl)) rfl ?_
      refine ⟨rfl, by simpa [rdC] using hr2, ?_⟩
      have hT := (TnS.of_adds br HA4.out).trans (TnS.setCell br 1 w4 (.int .i64 ((k : Int) + (wm : Nat))))
      exact hT.mine (by have := HNe.out; omega) (((((TnS.setCell n4 0 _ _).trans (TnS.setCell n4 1 _ _)).trans (TnS.setCell n4 2 _ _)).trans (TnS.setCell n4 3 _ _)).trans (TnS.setCell n4 4 _ _))
end Go.Proofs.YtkodjmdghjcndaaGreatDoor
