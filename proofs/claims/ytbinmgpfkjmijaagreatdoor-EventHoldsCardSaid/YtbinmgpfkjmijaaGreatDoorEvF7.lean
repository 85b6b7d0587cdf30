/- The words of parts: contract. (genF7.py wrote this.) -/
import Derived.Lib.ItoaLen
import Derived.Test.YtbinmgpfkjmijaaGreatDoorEvF6
namespace Go.Proofs.YtbinmgpfkjmijaaGreatDoor
open Go Go.RowKit Go.Shelf

def selE (b : Bool) (x y : Value) : Value := cond b x y
theorem selE_t (x y : Value) : selE true x y = x := rfl
/-- How the region stands in which a word is told and appended. -/
def RegEm (W0 : World) (l8 l9 : Bool) (lb : Nat) (vp : Value) (ts : ByteArray) (base : Nat) (pre : List (List UInt8)) (tt : List UInt8) (u5 : Value) (w2 : World) : Prop :=
  (l9 = false → Adds W0 w2 ∧ (l8 = true → w2.cell? ⟨lb, 0, none⟩ = some (.string ts))) ∧ (l9 = true → OwnT w2 base vp (pre ++ [tt]) ∧ ∃ wx, Adds W0 wx ∧ wx.grownBy w2 u5.ownBlock)
def RegE (W0 : World) (l8 l9 : Bool) (lb : Nat) (vp : Value) (ts : ByteArray) (base : Nat) (pre : List (List UInt8)) (tt : List UInt8) (u5 : Value) (b' fr : Act) (w2 : World) : Prop :=
  b' = fr ∧ RegEm W0 l8 l9 lb vp ts base pre tt u5 w2
section
variable {W0 w2 w3 : World} {l8 : Bool} {lb base : Nat} {vp u5 : Value} {ts : ByteArray} {pre : List (List UInt8)} {tt : List UInt8}
theorem RegEm.add (h : RegEm W0 false false lb vp ts base pre tt u5 w2) (ha : Adds w2 w3) : RegEm W0 false false lb vp ts base pre tt u5 w3 :=
  ⟨fun _ => ⟨Adds.trans (h.1 rfl).1 ha, fun e => (by cases e)⟩, fun e => (by cases e)⟩
theorem RegEm.lit (h : RegEm W0 l8 false lb vp ts base pre tt u5 w2) : RegEm W0 true false w2.heap.size vp ts base pre tt u5 (w2.alloc (.cells #[.string ts] 9)) :=
  ⟨fun _ => ⟨Adds.trans (h.1 rfl).1 (Gr.new _ _).adds, fun _ => (BkS.new 9 w2 [.string ts]).cell 0⟩, fun e => (by cases e)⟩
theorem RegEm.app {l9 : Bool} {v8 : Value} {t : List UInt8} (h : RegEm W0 l8 l9 lb vp ts base pre t u5 w2) (e : l9 = false) (o8 : OwnT w3 base v8 (pre ++ [t])) (g8 : w2.grownBy w3 u5.ownBlock) : RegEm W0 l8 true lb v8 ts base pre t u5 w3 :=
  ⟨fun e => (by cases e), fun _ => ⟨o8, w2, (h.1 e).1, g8⟩⟩
end
theorem saidE_take {l : List Nat} {x : Ev} {k : Nat} (h : k < l.length) : saidE (l.take (k + 1)) x = saidE (l.take k) x ++ [wordE (l.getD k 0) (getE (l.getD k 0) x)] := by
  unfold saidE
  rw [List.take_succ_eq_append_getElem h, List.map_append]
  simp [List.getD_eq_getElem?_getD, h]
theorem get_bound {p : Nat} {x : Ev} (hx : OkE x) (h : mayQ p x = true) (hp : p < 6) : (-9223372036854775808 ≤ getE p x ∧ getE p x ≤ 9223372036854775807) ∧ (p = 5 → 1 ≤ getE p x ∧ getE p x ≤ 6) := by
  have h1 := hx.adr
  clear hx
  match p, hp with
  | 0, _ => simp only [mayQ, decide_eq_true_eq] at h; simp only [getE]; omega
  | 1, _ => simp only [getE]; omega
  | 2, _ => simp only [mayQ, decide_eq_true_eq] at h; simp only [getE]; omega
  | 3, _ => simp only [mayQ, decide_eq_true_eq] at h; simp only [getE]; omega
  | 4, _ => simp only [mayQ, decide_eq_true_eq] at h; simp only [getE]; omega
  | 5, _ => simp only [mayQ, decide_eq_true_eq] at h; simp only [getE]; omega
set_option maxRecDepth 100000 in
set_option maxHeartbeats 4000000 in
theorem said_any (l : List Nat) (hl : okL l) (v : Value) (x : Ev) (hx : OkE x) (hM : ∀ p ∈ l, mayQ p x = true) (w : World) (hv : PartsAt w v l) (hw : EVars w) : Calls Tryz.prog 34 #[evV x, v] w (GivesQT (saidE l x) w) := by
  have hmx : Tryz.prog.follows .mixedOrders = true := by kernel_rfl
  have HX := Lib.hid hx
  have HL := Lib.hid hl
  have HMay := Lib.hid hM
  obtain ⟨w1, hw1⟩ : ∃ w1, w.alloc (.cells (evC x).toArray 28) = w1 := ⟨_, rfl⟩
  have HA1 := Lib.hid (show Adds w w1 by rw [← hw1]; exact (Gr.new _ _).adds)
  have HB1 := Lib.hid (show BkS 28 w1 w.heap.size (evC x) by rw [← hw1]; exact BkS.new _ _ _)
  have HSz := Lib.hid (show w1.heap.size = w.heap.size + 1 by rw [← hw1]; simp)
  have HW1 := Lib.hid (show EVars w1 from hw.adds HA1.out)
  obtain ⟨ao, cv, hvv, hrow⟩ : ∃ ao cv, v = .slice ao l.length cv ∧ (∀ i, i < l.length → ∃ gg, ao = some ⟨gg, 0, none⟩ ∧ RowQ w1 gg l) := by
    rcases hv with ⟨rfl, rfl⟩ | ⟨gg, cc, rfl, h1, h2, h3, h4⟩
    · exact ⟨none, 0, rfl, fun i hi => absurd hi (by simp)⟩
    · exact ⟨_, cc, rfl, fun i hi => ⟨gg, rfl, h4.adds HA1.out⟩⟩
  subst hvv
  have HRow := Lib.hid hrow
  have HLen := Lib.hid (show l.length ≤ 2 from hl.2)
  clear hrow hv hw hM hl hx
  obtain ⟨g, k, f, p, a, c, o, n, t⟩ := x
  go_enter Tryz.func34, Tryz.ntmps34
  go_wp2_with fail
  obtain ⟨n1, hn1⟩ : ∃ n1, w.heap.size = n1 := ⟨_, rfl⟩
  have HN1 := Lib.hid hn1
  rw [hn1] at HB1 HSz ⊢
  clear hn1 hw1
  go_loopw [5, 10] (fun s5 s10 wr => ∃ q : Nat, s10 = .int .i64 q ∧ q ≤ l.length ∧ Hid (OwnT wr w1.heap.size s5 (saidE (l.take q) ⟨g, k, f, p, a, c, o, n, t⟩)) ∧ Hid (Adds w1 wr)) (fun _ s10 _ => l.length + 1 - (RowKit.intOf s10).toNat)
  case atStart => exact ⟨0, rfl, Nat.zero_le _, Lib.hid (World.ownsRow_nil _ _ _ _), Lib.hid (Adds.refl _)⟩
  case round =>
    obtain ⟨q, rfl, hk, HO, HA⟩ := hrel
    have hkI : (q : Int) ≤ 2 := by have := HLen.out; omega
    have HBr := Lib.hid (HB1.out.adds HA.out)
    by_cases hlt : q < l.length
    · have hltI : (q : Int) < (l.length : Int) := by omega
      obtain ⟨gg, hgg, hrw⟩ := HRow.out q hlt
      subst hgg
      have hrow := (hrw.adds HA.out).2 q hlt
      have d0 := hrow 0 (by omega); have d1 := hrow 1 (by omega); have d2 := hrow 2 (by omega); have d3 := hrow 3 (by omega); have d4 := hrow 4 (by omega)
      have HP6 := Lib.hid (HL.out.1 _ (memQ hlt))
      have HGb0 := Lib.hid (get_bound (x := ⟨g, k, f, p, a, c, o, n, t⟩) HX.out (HMay.out _ (memQ hlt)) HP6.out)
      have HTk := Lib.hid (saidE_take (x := ⟨g, k, f, p, a, c, o, n, t⟩) hlt)
      have HLt := Lib.hid hlt
      have HSh := Lib.hid (show (saidE (l.take q) ⟨g, k, f, p, a, c, o, n, t⟩).length + 1 ≤ 1000000 by unfold saidE; rw [List.length_map, List.length_take]; have := HLen.out; omega)
      clear hrow hrw hlt hk
      obtain ⟨pp, hp⟩ : ∃ pp, l.getD q 0 = pp := ⟨_, rfl⟩
      rw [hp] at d0 d1 d2 d3 d4 HP6 HTk HGb0
      clear hp
      simp only [ptE, List.getElem?_cons_zero, List.getElem?_cons_succ, Nat.add_zero, fnE] at d0 d1 d2 d3 d4
      obtain ⟨wb, hwb⟩ : ∃ wb, wr.alloc (.cells #[.int .i64 (widE pp : Nat), .func (.func (getF pp)) #[] #[], .func (.func (putF pp)) #[] #[], .func (.func (mayF pp)) #[] #[], .func (.func (wordF pp)) #[] #[]] 70) = wb := ⟨_, rfl⟩
      obtain ⟨sz, hsz⟩ : ∃ sz, wr.heap.size = sz := ⟨_, rfl⟩
      have HGb := Lib.hid (show Adds wr wb by rw [← hwb]; exact (Gr.new _ _).adds)
      have HPb := Lib.hid (show BkS 70 wb sz [.int .i64 (widE pp : Nat), .func (.func (getF pp)) #[] #[], .func (.func (putF pp)) #[] #[], .func (.func (mayF pp)) #[] #[], .func (.func (wordF pp)) #[] #[]] by rw [← hwb, ← hsz]; exact BkS.new _ _ _)
      have HBb := Lib.hid (HBr.out.adds HGb.out)
      have HGet := Lib.hid (fun W => (getQ_any pp HP6.out ⟨g, k, f, p, a, c, o, n, t⟩ HX.out W).mono fun _ _ h => (⟨h.1, h.2.adds⟩ : _ ∧ Adds W _))
      have HWord := Lib.hid (fun W (h : Adds wb W) => (wordQ_any pp HP6.out (getE pp ⟨g, k, f, p, a, c, o, n, t⟩) HGb0.out.1.1 HGb0.out.1.2 HGb0.out.2 W (HW1.out.adds (Adds.trans HA.out (Adds.trans HGb.out h)))).mono fun _ _ h => (⟨h.1, h.2.adds⟩ : _ ∧ Adds W _))
      have eg := fun v => enter_getQ pp HP6.out v
      have ew := fun v => enter_wordQ pp HP6.out v
      clear HGb0
      obtain ⟨gv, hgv⟩ : ∃ gv, getE pp ⟨g, k, f, p, a, c, o, n, t⟩ = gv := ⟨_, rfl⟩
      rw [hgv] at HGet HWord HTk
      clear hgv
      obtain ⟨tt, htt⟩ : ∃ tt, wordE pp gv = tt := ⟨_, rfl⟩
      rw [htt] at HWord HTk
      clear htt
      obtain ⟨ts, hts⟩ : ∃ ts, str tt = ts := ⟨_, rfl⟩
      have HTs := Lib.hid hts
      rw [hts] at HWord
      clear hts
      obtain ⟨pre, hpre⟩ : ∃ pre, saidE (l.take q) ⟨g, k, f, p, a, c, o, n, t⟩ = pre := ⟨_, rfl⟩
      rw [hpre] at HO HTk HSh
      clear hpre
      generalize getF pp = fg at d1 HGet eg hwb HPb
      generalize putF pp = fp at d2 hwb HPb
      generalize mayF pp = fm at d3 hwb HPb
      generalize wordF pp = fw at d4 HWord ew hwb HPb
      generalize ((widE pp : Nat) : Int) = wd at d0 hwb HPb
      go_wp2_with fail
      try rw [hwb]
      try rw [hsz]
      clear hwb hsz d0 d1 d2 d3 d4
      refine (wpIn_wide (n := 6)).1 ?_
      refine wpIn_region_inv (fun L b' w6 => ∃ (lb : Nat) (vp : Value), RegE wb (L 8) (L 9) lb vp ts w1.heap.size pre tt u5 b' ({ tmps := #[evV ⟨g, k, f, p, a, c, o, n, t⟩, Value.slice (some { block := gg, off := 0 }) l.length cv, Value.pointer (some { block := n1, off := 0 }), undef, Value.slice none 0 0, selE (L 10) (vp) (u5), undef, Value.pointer (some { block := sz, off := 0 }), Value.slice (some { block := gg, off := 0 }) l.length cv, Value.int IntKind.i64 ((l.length : Nat) : Int), Value.int IntKind.i64 ((q : Nat) : Int), Value.bool true, Value.pointer (some { block := gg, off := q * 5 }), Value.agg #[Value.int IntKind.i64 wd, Value.func (Fn.func fg) #[] #[], Value.func (Fn.func fp) #[] #[], Value.func (Fn.func fm) #[] #[], Value.func (Fn.func fw) #[] #[]], selE (L 0) (u5) (u14), selE (L 1) (Value.pointer (some { block := sz, off := 4 })) (u15), selE (L 2) (Value.func (Fn.func fw) #[] #[]) (u16), selE (L 3) (Value.pointer (some { block := sz, off := 1 })) (u17), selE (L 4) (Value.func (Fn.func fg) #[] #[]) (u18), selE (L 5) (Value.agg #[Value.int IntKind.i64 g, Value.int IntKind.i64 k, Value.int IntKind.i64 f, Value.int IntKind.i64 p, Value.int IntKind.u32 a, Value.int IntKind.i64 c, Value.int IntKind.i64 o, Value.int IntKind.i64 n, Value.int IntKind.i64 t]) (u19), selE (L 6) (Value.int IntKind.i64 gv) (u20), selE (L 7) (Value.string ts) (u21), selE (L 8) (Value.slice (some { block := lb, off := 0 }) 1 1) (u22), selE (L 9) (vp) (u23), u24, undef], defers := [] }) w6) hmx (by kernel_rfl) ?inv0 ?step ?fin
      case inv0 => exact ⟨0, undef, rfl, fun _ => ⟨Adds.drew _, fun h => (by cases h)⟩, fun h => (by cases h)⟩
      case step =>
        rintro L b' w6 i o' ho hL hC he ⟨lb, vp, rfl, hP⟩
        have q2 := hC 2 _ rfl
        have q4 := hC 4 _ rfl
        have q6 := hC 6 _ rfl
        have q7 := hC 7 _ rfl
        have q8 := hC 8 _ rfl
        have q9 := hC 9 _ rfl
        have q10 := hC 10 _ rfl
        simp [Region.binds] at q2 q4 q6 q7 q8 q9 q10
        clear hC
        have HP := Lib.hid hP
        have hF : L 9 = false → w6.cell? ⟨sz, 1, none⟩ = some (.func (.func fg) #[] #[]) ∧ w6.cell? ⟨sz, 4, none⟩ = some (.func (.func fw) #[] #[]) ∧ w6.cell? ⟨n1, 0, none⟩ = some (.int .i64 g) ∧ w6.cell? ⟨n1, 1, none⟩ = some (.int .i64 k) ∧ w6.cell? ⟨n1, 2, none⟩ = some (.int .i64 f) ∧ w6.cell? ⟨n1, 3, none⟩ = some (.int .i64 p) ∧ w6.cell? ⟨n1, 4, none⟩ = some (.int .u32 a) ∧ w6.cell? ⟨n1, 5, none⟩ = some (.int .i64 c) ∧ w6.cell? ⟨n1, 6, none⟩ = some (.int .i64 o) ∧ w6.cell? ⟨n1, 7, none⟩ = some (.int .i64 n) ∧ w6.cell? ⟨n1, 8, none⟩ = some (.int .i64 t) := fun h => by
          have ha := (hP.1 h).1
          exact ⟨(HPb.out.adds ha).cell 1, (HPb.out.adds ha).cell 4, (HBb.out.adds ha).cell 0, (HBb.out.adds ha).cell 1, (HBb.out.adds ha).cell 2, (HBb.out.adds ha).cell 3, (HBb.out.adds ha).cell 4, (HBb.out.adds ha).cell 5, (HBb.out.adds ha).cell 6, (HBb.out.adds ha).cell 7, (HBb.out.adds ha).cell 8⟩
        have z9a : i ≠ 10 → L 9 = false ∧ L 10 = false := fun hi => by
          have h0 : L 9 = false := by
            cases h : L 9 with
            | false => rfl
            | true => (have := q9 h; rcases i with _ | _ | _ | _ | _ | _ | _ | _ | _ | _ | i <;> first | (exfalso; simp_all; done) | (exfalso; have := (List.getElem?_eq_some_iff.1 ho).1; simp at this; omega))
          exact ⟨h0, by cases h : L 10 with | false => rfl | true => (have := q10 h; simp_all)⟩
        clear hP
        rcases i with _ | _ | _ | _ | _ | _ | _ | _ | _ | _ | _ | i
        · simp only [List.getElem?_cons_zero, Option.some.injEq] at ho
          subst ho
          try simp [Region.binds] at he
          obtain ⟨g1, g4, j0, j1, j2, j3, j4, j5, j6, j7, j8⟩ := hF (z9a (by omega)).1
          obtain ⟨z9, z10⟩ := z9a (by omega)
          clear hF z9a
          clear q2 q4 q6 q7 q8 q9 q10
          try simp only []
          gi_wp2
          refine ⟨lb, vp, by simp [selE, *], (by first | exact HP.out | simpa [he, z9] using HP.out)⟩
        · simp only [List.getElem?_cons_zero, List.getElem?_cons_succ, Option.some.injEq] at ho
          subst ho
          try simp [Region.binds] at he
          obtain ⟨g1, g4, j0, j1, j2, j3, j4, j5, j6, j7, j8⟩ := hF (z9a (by omega)).1
          obtain ⟨z9, z10⟩ := z9a (by omega)
          clear hF z9a
          clear q2 q4 q6 q7 q8 q9 q10
          try simp only []
          gi_wp2
          refine ⟨lb, vp, by simp [selE, *], (by first | exact HP.out | simpa [he, z9] using HP.out)⟩
        · simp only [List.getElem?_cons_zero, List.getElem?_cons_succ, Option.some.injEq] at ho
          subst ho
          try simp [Region.binds] at he
          obtain ⟨g1, g4, j0, j1, j2, j3, j4, j5, j6, j7, j8⟩ := hF (z9a (by omega)).1
          obtain ⟨z9, z10⟩ := z9a (by omega)
          clear hF z9a
          clear q2 q4 q6 q7 q8 q9 q10
          try simp only [he, selE_t]
          gi_wp2
          refine ⟨lb, vp, by simp [selE, *], (by first | exact HP.out | simpa [he, z9] using HP.out)⟩
        · simp only [List.getElem?_cons_zero, List.getElem?_cons_succ, Option.some.injEq] at ho
          subst ho
          try simp [Region.binds] at he
          obtain ⟨g1, g4, j0, j1, j2, j3, j4, j5, j6, j7, j8⟩ := hF (z9a (by omega)).1
          obtain ⟨z9, z10⟩ := z9a (by omega)
          clear hF z9a
          clear q2 q4 q6 q7 q8 q9 q10
          try simp only []
          gi_wp2
          refine ⟨lb, vp, by simp [selE, *], (by first | exact HP.out | simpa [he, z9] using HP.out)⟩
        · simp only [List.getElem?_cons_zero, List.getElem?_cons_succ, Option.some.injEq] at ho
          subst ho
          try simp [Region.binds] at he
          obtain ⟨g1, g4, j0, j1, j2, j3, j4, j5, j6, j7, j8⟩ := hF (z9a (by omega)).1
          obtain ⟨z9, z10⟩ := z9a (by omega)
          clear hF z9a
          clear q2 q4 q6 q7 q8 q9 q10
          try simp only [he, selE_t]
          gi_wp2
          refine ⟨lb, vp, by simp [selE, *], (by first | exact HP.out | simpa [he, z9] using HP.out)⟩
        · simp only [List.getElem?_cons_zero, List.getElem?_cons_succ, Option.some.injEq] at ho
          subst ho
          try simp [Region.binds] at he
          obtain ⟨g1, g4, j0, j1, j2, j3, j4, j5, j6, j7, j8⟩ := hF (z9a (by omega)).1
          obtain ⟨z9, z10⟩ := z9a (by omega)
          clear hF z9a
          clear q2 q4 q6 q7 q8 q9 q10
          try simp only []
          gi_wp2
          refine ⟨lb, vp, by simp [selE, *], (by first | exact HP.out | simpa [he, z9] using HP.out)⟩
        · simp only [List.getElem?_cons_zero, List.getElem?_cons_succ, Option.some.injEq] at ho
          subst ho
          try simp [Region.binds] at he
          obtain ⟨g1, g4, j0, j1, j2, j3, j4, j5, j6, j7, j8⟩ := hF (z9a (by omega)).1
          obtain ⟨z9, z10⟩ := z9a (by omega)
          clear hF z9a
          have z8 : L 8 = false := by cases h : L 8 with | false => rfl | true => (have := q8 h; simp_all)
          clear q2 q4 q6 q7 q8 q9 q10
          rw [z8, z9] at HP
          simp only [he, selE_t]
          gi_wp2_with (refine ⟨trivial, ?_⟩; gi_at_fn fg; refine (callsIn_wide.2 (HGet.out w6)).mono ?_; rintro e w7 ⟨rfl, hA7⟩; have HA7 := Lib.hid hA7; clear hA7)
          refine ⟨lb, vp, by simp [selE, *], by first | exact HP.out.add HA7.out | (simp only [z8, z9]; exact HP.out.add HA7.out) | simpa [z8, z9] using HP.out.add HA7.out⟩
        · simp only [List.getElem?_cons_zero, List.getElem?_cons_succ, Option.some.injEq] at ho
          subst ho
          try simp [Region.binds] at he
          obtain ⟨g1, g4, j0, j1, j2, j3, j4, j5, j6, j7, j8⟩ := hF (z9a (by omega)).1
          obtain ⟨z9, z10⟩ := z9a (by omega)
          clear hF z9a
          have z8 : L 8 = false := by cases h : L 8 with | false => rfl | true => (have := q8 h; simp_all)
          clear q2 q4 q6 q7 q8 q9 q10
          rw [z8, z9] at HP
          simp only [he, selE_t]
          gi_wp2_with (refine ⟨trivial, ?_⟩; gi_at_fn fw; refine (callsIn_wide.2 (HWord.out w6 (HP.out.1 rfl).1)).mono ?_; rintro e w7 ⟨rfl, hA7⟩; have HA7 := Lib.hid hA7; clear hA7)
          refine ⟨lb, vp, by simp [selE, *], by first | exact HP.out.add HA7.out | (simp only [z8, z9]; exact HP.out.add HA7.out) | simpa [z8, z9] using HP.out.add HA7.out⟩
        · simp only [List.getElem?_cons_zero, List.getElem?_cons_succ, Option.some.injEq] at ho
          subst ho
          try simp [Region.binds] at he
          obtain ⟨g1, g4, j0, j1, j2, j3, j4, j5, j6, j7, j8⟩ := hF (z9a (by omega)).1
          obtain ⟨z9, z10⟩ := z9a (by omega)
          clear hF z9a
          clear q2 q4 q6 q7 q8 q9 q10
          rw [z9] at HP
          simp only [he, selE_t]
          gi_wp2
          refine ⟨w6.heap.size, vp, by simp [selE, *], by first | exact HP.out.lit | (simp only [z9]; exact HP.out.lit) | simpa [z9] using HP.out.lit⟩
        · simp only [List.getElem?_cons_zero, List.getElem?_cons_succ, Option.some.injEq] at ho
          subst ho
          try simp [Region.binds] at he
          obtain ⟨g1, g4, j0, j1, j2, j3, j4, j5, j6, j7, j8⟩ := hF (z9a (by omega)).1
          obtain ⟨z9, z10⟩ := z9a (by omega)
          clear hF z9a
          clear z9
          clear q2 q4 q6 q7 q8 q9 q10
          have he8 : L 8 = true := by simp [he]
          have hP := HP.out.1 hL
          simp only [he, hL, selE_t]
          refine wpIn_append_t rfl (.tmp 14) (.tmp 22) rfl w1.heap.size u5 pre rfl (HO.out.adds (Adds.trans HGb.out hP.1)) lb tt rfl (by rw [HTs.out]; exact hP.2 he8) HSh.out (Adds.trans HA.out (Adds.trans HGb.out hP.1)).size ?_
          intro v8 w8 o8 g8
          have hR := HP.out.app (t := tt) hL o8 g8
          refine ⟨lb, v8, (by simp [selE, *]; rfl), (by first | exact hR | simpa [he8] using hR)⟩
        · simp only [List.getElem?_cons_zero, List.getElem?_cons_succ, Option.some.injEq] at ho
          subst ho
          try simp [Region.binds] at he
          clear hF z9a
          clear q2 q4 q6 q7 q8 q9 q10
          try simp only [he, selE_t]
          gi_wp2
          refine ⟨lb, vp, by simp [selE, *], (by first | exact HP.out | simpa [he] using HP.out)⟩
        · simp at ho
      case fin =>
        rintro b' w7 ⟨lb, vp, rfl, _, hB⟩
        simp only [List.length_cons, List.length_nil, Nat.reduceAdd, Nat.reduceLT, decide_true, selE_t] at hB ⊢
        obtain ⟨hO8, wx, hX, hG⟩ := hB trivial
        have O8 := Lib.hid hO8; have HX := Lib.hid (Adds.trans HGb.out hX); have G8 := Lib.hid hG
        clear hB hO8 hX hG
        go_wp2_with fail
        go_roundw
        case rel =>
          refine ⟨q + 1, rfl, HLt.out, Lib.hid (by rw [HTk.out]; exact O8.out), Lib.hid ?_⟩
          exact Below.trans (Adds.trans HA.out HX.out) ((HO.out.adds HX.out).turned G8.out (Nat.le_refl _) (Adds.trans HA.out HX.out).size)
        case measure => simp [RowKit.intOf]; have := HLt.out; omega
    · obtain rfl : q = l.length := by omega
      have HOe := Lib.hid (show OwnT wr w1.heap.size u5 (saidE l ⟨g, k, f, p, a, c, o, n, t⟩) by have := HO.out; rwa [List.take_length] at this)
      clear HO hlt hk
      go_wp2_with fail
      go_ret
      exact ⟨_, rfl, HOe.out.lower HA1.out.size, Adds.trans HA1.out HA.out⟩
end Go.Proofs.YtbinmgpfkjmijaaGreatDoor
