/- The text of an event: contract. (genF9.py wrote this.) -/
import Derived.Lib.AppendIntMem
import Derived.Lib.ItoaLen
import Derived.Test.YtbinmgpfkjmijaaGreatDoorSF6
import Derived.Test.YtbinmgpfkjmijaaGreatDoorEvShelf
import Derived.Test.YtbinmgpfkjmijaaGreatDoorEvF8
namespace Go.Proofs.YtbinmgpfkjmijaaGreatDoor
open Go Go.RowKit Go.Shelf Go.Lib

theorem TxtS.adds {w w' : World} {v : Value} {l : List (List UInt8)} (h : TxtS w.heap.size w v l) (ha : Adds w w') : TxtS w'.heap.size w' v l := (h.below ha (Nat.le_refl _)).mono ha.size
theorem join_extra16 : Builder.Extra Tryz.prog Tryz.laysJoin_ren where
  sizeBuilder := by kernel_rfl
  liesBuilder := by kernel_rfl
  t5 := Tryz.underlying5
  a5 := Tryz.isAgg5
  z5 := Tryz.sizeOf5
  v5 := Tryz.zeroValue5
  infoByte := by kernel_rfl
  cellsByte := by kernel_rfl
  sizeByte := by kernel_rfl
  neB5 := by decide
theorem join16 (bk c : Nat) (l : List (List UInt8)) (w : World) (hcells : ∀ (j : Nat) x, l[j]? = some x → w.cell? ⟨bk, j, none⟩ = some (.string (str x))) (hbk : bk < w.heap.size) (hN : l.length ≤ 1000) (hcap : l.length ≤ c) (hlen : (Lib.join l [32]).length ≤ 100000) :
    Calls Tryz.prog 36 #[.slice (some ⟨bk, 0, none⟩) l.length c, .string ⟨#[32]⟩] w fun e w' => e = .returned (.string (str (Lib.join l [32]))) ∧ Adds w w' := by
  have e : (l.map str).map (·.data.toList) = l := by rw [List.map_map]; simp [Function.comp_def, str]
  have h := Any.strings_Join Tryz.laysJoin join_extra16 bk 0 c (l.map str) ⟨#[32]⟩ w (fun j x hx => by
    rw [List.getElem?_map] at hx
    cases hj : l[j]? with
    | none => rw [hj] at hx; cases hx
    | some y =>
      rw [hj] at hx
      obtain rfl : str y = x := Option.some.inj hx
      rw [Nat.zero_add]
      exact hcells j y hj) hbk (by rw [List.length_map]; omega) (by rw [List.length_map]; exact hcap) (by rw [e]; exact Nat.le_trans hlen (by omega))
  rw [e, List.length_map] at h
  exact h
theorem lens_le : ∀ (l : List (List UInt8)), (∀ x ∈ l, x.length ≤ 100) → Lib.lens l ≤ 100 * l.length
  | [], _ => by simp [Lib.lens]
  | x :: l, h => by
    have h1 := lens_le l (fun y hy => h y (List.mem_cons_of_mem _ hy))
    have h2 := h x (List.mem_cons_self)
    have : Lib.lens (x :: l) = x.length + Lib.lens l := rfl
    rw [this, List.length_cons]
    omega
theorem join_le (l : List (List UInt8)) (h : ∀ x ∈ l, x.length ≤ 100) (hn : l.length ≤ 100) : (Lib.join l [32]).length ≤ 100000 := by
  cases l with
  | nil => simp [Lib.join_nil]
  | cons x r =>
    rw [Lib.join_length]
    have := lens_le (x :: r) h
    simp only [List.length_cons, List.length_nil] at this hn ⊢
    omega
theorem word_le {p : Nat} {x : Ev} (hx : OkE x) (h : mayQ p x = true) (hp : p < 6) : (wordE p (getE p x)).length ≤ 100 := by
  obtain ⟨h1, h2⟩ := get_bound hx h hp
  unfold wordE
  split
  · have : ∀ i, (trapB.getD i []).length ≤ 100 := fun i => by
      rw [List.getD_eq_getElem?_getD]
      rcases i with _ | _ | _ | _ | _ | _ | _ | i <;> simp [trapB]
    exact this _
  · have := Lib.itoa_length_le (getE p x) h1.1 h1.2
    omega
theorem textE_short {x : Ev} (hx : OkE x) (h : mayE x = true) : (textE x).length ≤ 100000 ∧ (wordsE x).length ≤ 5 ∧ 0 < (wordsE x).length := by
  obtain ⟨h1, h2, h3, h4⟩ := may_all h
  have hk := okL_kind x.k.toNat
  have hn : (wordsE x).length ≤ 5 := by
    unfold wordsE saidE
    simp only [List.length_append, List.length_map, List.length_cons, List.length_nil]
    have := hk.2
    omega
  refine ⟨?_, hn, by unfold wordsE saidE; simp⟩
  unfold textE
  refine join_le _ (fun y hy => ?_) (by omega)
  unfold wordsE saidE at hy
  simp only [List.mem_append, List.mem_map, List.mem_cons, List.not_mem_nil, or_false] at hy
  rcases hy with (⟨p, rfl, rfl⟩ | rfl | rfl) | ⟨p, hp, rfl⟩
  · exact word_le hx h1 (by decide)
  · unfold txtS
    have hr := rightS_iff.1 h2
    simp only at hr
    have := dec_few x.f.toNat (by omega)
    have := dec_few x.p.toNat (by omega)
    simp only [List.length_cons, List.length_append]
    omega
  · have : ∀ i, (kindB.getD i []).length ≤ 100 := fun i => by
      rw [List.getD_eq_getElem?_getD]
      rcases i with _ | _ | _ | _ | _ | _ | _ | _ | _ | _ | _ | _ | _ | _ | _ | i <;> simp [kindB]
    exact this _
  · exact word_le hx (h3 p hp) (hk.1 p hp)
/-- What is known of the slots of Text's last drawn region. -/
def KeyT (n0 : Nat) (t0 tm tp all : List (List UInt8)) (d : Tmp) (u : Value) (w : World) : Prop :=
  if d = 19 then PartsAt w u [0] else if d = 20 then TxtS w.heap.size w u t0 else if d = 26 then TxtS w.heap.size w u tm else if d = 29 then TxtS w.heap.size w u tp
  else if d = 30 then ∃ (bk : Nat) (L : List (Value × List (List UInt8))), u = .slice (some ⟨bk, 0, none⟩) 3 3 ∧ bk < w.heap.size ∧ L.length = 3 ∧ flatT L = all ∧ ∀ (i : Nat) x, L[i]? = some x → w.cell? ⟨bk, i, none⟩ = some x.1 ∧ TxtS w.heap.size w x.1 x.2 ∧ x.2.length ≤ 100
  else OwnT w n0 u all
theorem KeyT.adds {n0 : Nat} {t0 tm tp all : List (List UInt8)} {d : Tmp} {u : Value} {w w' : World} (h : KeyT n0 t0 tm tp all d u w) (ha : Adds w w') : KeyT n0 t0 tm tp all d u w' := by
  unfold KeyT at h ⊢
  by_cases e1 : d = 19
  · rw [if_pos e1] at h ⊢; exact PartsAt.adds h ha
  rw [if_neg e1] at h ⊢
  by_cases e2 : d = 20
  · rw [if_pos e2] at h ⊢; exact TxtS.adds h ha
  rw [if_neg e2] at h ⊢
  by_cases e3 : d = 26
  · rw [if_pos e3] at h ⊢; exact TxtS.adds h ha
  rw [if_neg e3] at h ⊢
  by_cases e4 : d = 29
  · rw [if_pos e4] at h ⊢; exact TxtS.adds h ha
  rw [if_neg e4] at h ⊢
  by_cases e5 : d = 30
  · rw [if_pos e5] at h ⊢
    obtain ⟨bk, L, e, h1, h2, h3, h4⟩ := h
    exact ⟨bk, L, e, Nat.lt_of_lt_of_le h1 ha.size, h2, h3, fun i x hx => by
      obtain ⟨c1, c2, c3⟩ := h4 i x hx
      exact ⟨(ha.cell (World.block_lt_of_cell? w _ c1)).trans c1, TxtS.adds c2 ha, c3⟩⟩
  · rw [if_neg e5] at h ⊢; exact OwnT.adds h ha
theorem keyT_26 {n0 : Nat} {t0 tp all : List (List UInt8)} (s r : List UInt8) (w : World) : KeyT n0 t0 [s, r] tp all 26 (.slice (some ⟨w.heap.size, 0, none⟩) 2 2) (w.alloc (.cells #[.string (str s), .string (str r)] 9)) := by
  have hb := BkS.new 9 w [.string (str s), .string (str r)]
  refine ⟨some ⟨w.heap.size, 0, none⟩, 2, rfl, Nat.le_refl _, by simp [maxLen], fun _ => ⟨_, rfl, hb.lt, fun j x hx => ?_⟩, fun a e => by cases e; exact ⟨_, rfl⟩⟩
  rcases j with _ | _ | j
  · cases hx; exact hb.cell 0
  · cases hx; exact hb.cell 1
  · simp at hx
theorem keyT_30 {n0 : Nat} {t0 tm tp : List (List UInt8)} {u1 u2 u3 : Value} {w : World} (h1 : TxtS w.heap.size w u1 t0) (h2 : TxtS w.heap.size w u2 tm) (h3 : TxtS w.heap.size w u3 tp) (hl : t0.length ≤ 100 ∧ tm.length ≤ 100 ∧ tp.length ≤ 100) :
    KeyT n0 t0 tm tp (t0 ++ tm ++ tp) 30 (.slice (some ⟨w.heap.size, 0, none⟩) 3 3) (w.alloc (.cells #[u1, u2, u3] 55)) := by
  have ha := adds_box16 w (.cells #[u1, u2, u3] 55)
  have hb := BkS.new 55 w [u1, u2, u3]
  refine ⟨w.heap.size, [(u1, t0), (u2, tm), (u3, tp)], rfl, hb.lt, rfl, by simp [flatT], fun i x hx => ?_⟩
  rcases i with _ | _ | _ | i
  · cases hx; exact ⟨hb.cell 0, TxtS.adds h1 ha, hl.1⟩
  · cases hx; exact ⟨hb.cell 1, TxtS.adds h2 ha, hl.2.1⟩
  · cases hx; exact ⟨hb.cell 2, TxtS.adds h3 ha, hl.2.2⟩
  · simp at hx
theorem txt_slice {n : Nat} {w : World} {v : Value} {l : List (List UInt8)} (h : TxtS n w v l) : ∃ a c, v = .slice a l.length c := by
  obtain ⟨ao, c, rfl, _⟩ := h
  exact ⟨ao, c, rfl⟩
set_option maxRecDepth 100000 in
set_option maxHeartbeats 2000000 in
theorem text16_no (x : Ev) (hx : OkE x) (hm : mayE x = false) (w : World) : Calls Tryz.prog 9 #[evV x] w fun e w' => e = .returned (.tuple #[.string ⟨#[]⟩, .int .i64 2]) ∧ Adds w w' := by
  have hmf : ∀ (fn : Fn) (first cap : Array Value) (w : World), (Instr.makeFunc fn first cap).run Tryz.prog w = .ok (.func fn first cap) w := fun _ _ _ _ => rfl
  obtain ⟨w1, hw1⟩ : ∃ w1, (w.alloc (.cells (evC x).toArray 28)).alloc (.cells #[.int .i64 0] 30) = w1 := ⟨_, rfl⟩
  have HA1 := Lib.hid (show Adds w w1 by rw [← hw1]; exact ((Gr.new _ _).alloc _).adds)
  have HB1 := Lib.hid (show BkS 28 w1 w.heap.size (evC x) by rw [← hw1]; exact (BkS.new _ _ _).adds (Gr.new _ _).adds)
  have HB2 := Lib.hid (show BkS 30 w1 (w.heap.size + 1) [.int .i64 0] by rw [← hw1]; unfold BkS; exact heap_new1 _ _ _)
  have HHc := Lib.hid (hold_no x hx hm w1)
  clear hm hx
  obtain ⟨g, k, f, p, a, c, o, n, t⟩ := x
  have i0 : w1.cell? ⟨w.heap.size, 0, none⟩ = some (.int .i64 g) := HB1.out.cell 0
  have i1 : w1.cell? ⟨w.heap.size, 1, none⟩ = some (.int .i64 k) := HB1.out.cell 1
  have i2 : w1.cell? ⟨w.heap.size, 2, none⟩ = some (.int .i64 f) := HB1.out.cell 2
  have i3 : w1.cell? ⟨w.heap.size, 3, none⟩ = some (.int .i64 p) := HB1.out.cell 3
  have i4 : w1.cell? ⟨w.heap.size, 4, none⟩ = some (.int .u32 a) := HB1.out.cell 4
  have i5 : w1.cell? ⟨w.heap.size, 5, none⟩ = some (.int .i64 c) := HB1.out.cell 5
  have i6 : w1.cell? ⟨w.heap.size, 6, none⟩ = some (.int .i64 o) := HB1.out.cell 6
  have i7 : w1.cell? ⟨w.heap.size, 7, none⟩ = some (.int .i64 n) := HB1.out.cell 7
  have i8 : w1.cell? ⟨w.heap.size, 8, none⟩ = some (.int .i64 t) := HB1.out.cell 8
  go_enter_defers Tryz.func9, Tryz.ntmps9
  go_wp2_with (go_at_call 31; refine HHc.out.mono ?_; rintro e w2 ⟨rfl, q⟩; have HA2 := Lib.hid q; clear q)
  have b2 := HB2.out.adds HA2.out
  have d0 : w2.cell? ⟨w.heap.size + 1, 0, none⟩ = some (.int .i64 0) := b2.cell 0
  refine leaves_cons (f := 29) (args := #[.pointer (some ⟨w.heap.size + 1, 0, none⟩)]) (by simp) (by simp [go_sem]) ?_
  refine (catch_text (w.heap.size + 1) 0 2 [] w2 b2).mono ?_
  rintro e u' w'' ⟨rfl, rfl, rfl⟩
  have hA := Adds.set (Adds.trans HA1.out HA2.out) (b := w.heap.size + 1) (by omega) 0 (.int .i64 2)
  simp [Leaves, settle, results, Tryz.results9, go_sem, d0]
  exact hA
set_option maxRecDepth 100000 in
set_option maxHeartbeats 4000000 in
theorem text16_yes (x : Ev) (hx : OkE x) (hm : mayE x = true) (w : World) (hv : EVars w) : Calls Tryz.prog 9 #[evV x] w fun e w' => e = .returned (.tuple #[.string (str (textE x)), .int .i64 0]) ∧ Adds w w' := by
  have hmf : ∀ (fn : Fn) (first cap : Array Value) (w : World), (Instr.makeFunc fn first cap).run Tryz.prog w = .ok (.func fn first cap) w := fun _ _ _ _ => rfl
  obtain ⟨w1, hw1⟩ : ∃ w1, (w.alloc (.cells (evC x).toArray 28)).alloc (.cells #[.int .i64 0] 30) = w1 := ⟨_, rfl⟩
  have HA1 := Lib.hid (show Adds w w1 by rw [← hw1]; exact ((Gr.new _ _).alloc _).adds)
  have HB1 := Lib.hid (show BkS 28 w1 w.heap.size (evC x) by rw [← hw1]; exact (BkS.new _ _ _).adds (Gr.new _ _).adds)
  have HB2 := Lib.hid (show BkS 30 w1 (w.heap.size + 1) [.int .i64 0] by rw [← hw1]; unfold BkS; exact heap_new1 _ _ _)
  have HTs := Lib.hid (textE_short hx hm)
  have HHc := Lib.hid (hold_yes x hx hm w1)
  have HX := Lib.hid hx
  have HAll := Lib.hid (may_all hm)
  have HV := Lib.hid hv
  clear hm hx hv
  obtain ⟨g, k, f, p, a, c, o, n, t⟩ := x
  obtain ⟨m, hm⟩ : ∃ m : Nat, k = m := ⟨k.toNat, by have h := HAll.out.2.2.2; simp only at h; omega⟩
  subst hm
  obtain ⟨f', hf'⟩ : ∃ m : Nat, f = m := ⟨f.toNat, by have h := rightS_iff.1 HAll.out.2.1; simp only at h; omega⟩
  subst hf'
  obtain ⟨p', hp'⟩ : ∃ m : Nat, p = m := ⟨p.toNat, by have h := rightS_iff.1 HAll.out.2.1; simp only at h; omega⟩
  subst hp'
  have HFP := Lib.hid (show f' < 32 ∧ p' < 512 by have h := rightS_iff.1 HAll.out.2.1; simp only at h; omega)
  have HM := Lib.hid (show m < 256 by have h := HAll.out.2.2.2; simp only at h; omega)
  have HM15 := Lib.hid (show ((m : Nat) : Int) < 15 by have h := HAll.out.2.2.2; simp only at h; omega)
  have HSi := Lib.hid (fun W (h : Adds w W) => (siteText_yes f' p' HFP.out.1 HFP.out.2 W (HV.out.adds h).sv).mono fun _ _ h => (⟨h.1, h.2.adds⟩ : _ ∧ Adds W _))
  have HKin0 := Lib.hid (fun W (h : Adds w W) => (HV.out.adds h).kin m (by have h := HAll.out.2.2.2; simp only at h; omega))
  have i0 : w1.cell? ⟨w.heap.size, 0, none⟩ = some (.int .i64 g) := HB1.out.cell 0
  have i1 : w1.cell? ⟨w.heap.size, 1, none⟩ = some (.int .i64 (m : Nat)) := HB1.out.cell 1
  have i2 : w1.cell? ⟨w.heap.size, 2, none⟩ = some (.int .i64 (f' : Nat)) := HB1.out.cell 2
  have i3 : w1.cell? ⟨w.heap.size, 3, none⟩ = some (.int .i64 (p' : Nat)) := HB1.out.cell 3
  have i4 : w1.cell? ⟨w.heap.size, 4, none⟩ = some (.int .u32 a) := HB1.out.cell 4
  have i5 : w1.cell? ⟨w.heap.size, 5, none⟩ = some (.int .i64 c) := HB1.out.cell 5
  have i6 : w1.cell? ⟨w.heap.size, 6, none⟩ = some (.int .i64 o) := HB1.out.cell 6
  have i7 : w1.cell? ⟨w.heap.size, 7, none⟩ = some (.int .i64 n) := HB1.out.cell 7
  have i8 : w1.cell? ⟨w.heap.size, 8, none⟩ = some (.int .i64 t) := HB1.out.cell 8
  go_enter_defers Tryz.func9, Tryz.ntmps9
  go_wp2_with (first
    | (go_at_call 31; refine HHc.out.mono ?_; rintro e w2 ⟨⟨v4, rfl, hp2⟩, q⟩; have HP2 := Lib.hid hp2; have HA2 := Lib.hid (Adds.trans HA1.out q); have HB3 := Lib.hid (HB1.out.adds q); have HQ2 := Lib.hid q; have j2 : w2.cell? ⟨w.heap.size, 2, none⟩ = some (.int .i64 (f' : Nat)) := HB3.out.cell 2; have j3 : w2.cell? ⟨w.heap.size, 3, none⟩ = some (.int .i64 (p' : Nat)) := HB3.out.cell 3; clear q hp2)
    | (go_at_call 32; refine (HSi.out _ HA2.out).mono ?_; rintro e w5 ⟨rfl, h2⟩; have HA5 := Lib.hid (Adds.trans HA2.out h2); have HA5b := Lib.hid (Adds.trans HQ2.out h2); have HP5 := Lib.hid (HP2.out.adds h2); clear h2))
  obtain ⟨n1, hn1⟩ : ∃ n1, w.heap.size = n1 := ⟨_, rfl⟩
  have HN1 := Lib.hid hn1
  rw [hn1] at HB1 HB2 ⊢
  clear hn1 hw1 i0 i1 i2 i3 i4 i5 i6 i7 i8
  have HB5 := Lib.hid (HB1.out.adds HA5b.out)
  have HKin := Lib.hid (fun W (h : Adds w5 W) => HKin0.out W (Adds.trans HA5.out h))
  obtain ⟨t0, ht0⟩ : ∃ t0, saidE [0] ⟨g, (m : Nat), (f' : Nat), (p' : Nat), a, c, o, n, t⟩ = t0 := ⟨_, rfl⟩
  obtain ⟨tp, htp⟩ : ∃ tp, saidE (partsE m) ⟨g, (m : Nat), (f' : Nat), (p' : Nat), a, c, o, n, t⟩ = tp := ⟨_, rfl⟩
  have HLn := Lib.hid (show t0.length ≤ 100 ∧ [txtS ((f' : Int), (p' : Int)), kindB.getD m []].length ≤ 100 ∧ tp.length ≤ 100 by
    refine ⟨?_, by simp, ?_⟩
    · rw [← ht0]; simp [saidE]
    · rw [← htp]; unfold saidE; rw [List.length_map]; have := (okL_kind m).2; omega)
  have HAllT := Lib.hid (show wordsE ⟨g, (m : Nat), (f' : Nat), (p' : Nat), a, c, o, n, t⟩ = t0 ++ [txtS ((f' : Int), (p' : Int)), kindB.getD m []] ++ tp by rw [← ht0, ← htp]; rfl)
  have HWr0 := Lib.hid (fun W u (h : Adds w W) (hu : KeyT n1 t0 [txtS ((f' : Int), (p' : Int)), kindB.getD m []] tp (t0 ++ [txtS ((f' : Int), (p' : Int)), kindB.getD m []] ++ tp) 19 u W) => (said_any [0] ⟨by simp, by simp⟩ u ⟨g, (m : Nat), (f' : Nat), (p' : Nat), a, c, o, n, t⟩ HX.out (fun p hp => by obtain rfl : p = 0 := (by simpa using hp); exact HAll.out.1) W hu (HV.out.adds h)).mono fun e' w' ⟨v, h1, h2, h3⟩ => (⟨v, h1, by rw [ht0] at h2; exact h2.txt, h3⟩ : ∃ v, e' = Ending.returned v ∧ KeyT n1 t0 [txtS ((f' : Int), (p' : Int)), kindB.getD m []] tp (t0 ++ [txtS ((f' : Int), (p' : Int)), kindB.getD m []] ++ tp) 20 v w' ∧ Adds W w'))
  have HWrp := Lib.hid (fun W (h : Adds w5 W) => (said_any (partsE m) (okL_kind m) v4 ⟨g, (m : Nat), (f' : Nat), (p' : Nat), a, c, o, n, t⟩ HX.out (fun p hp => HAll.out.2.2.1 p hp) W (HP5.out.adds h) (HV.out.adds (Adds.trans HA5.out h))).mono fun e' w' ⟨v, h1, h2, h3⟩ => (⟨v, h1, by rw [htp] at h2; exact h2.txt, h3⟩ : ∃ v, e' = Ending.returned v ∧ KeyT n1 t0 [txtS ((f' : Int), (p' : Int)), kindB.getD m []] tp (t0 ++ [txtS ((f' : Int), (p' : Int)), kindB.getD m []] ++ tp) 29 v w' ∧ Adds W w'))
  have HCat := Lib.hid (fun W u (h : Adds w W) (hu : KeyT n1 t0 [txtS ((f' : Int), (p' : Int)), kindB.getD m []] tp (t0 ++ [txtS ((f' : Int), (p' : Int)), kindB.getD m []] ++ tp) 30 u W) => show Calls Tryz.prog 33 #[u] W fun e' w' => ∃ v, e' = .returned v ∧ KeyT n1 t0 [txtS ((f' : Int), (p' : Int)), kindB.getD m []] tp (t0 ++ [txtS ((f' : Int), (p' : Int)), kindB.getD m []] ++ tp) 31 v w' ∧ Adds W w' by
    obtain ⟨bk, L, rfl, h1, h2, h3, h4⟩ := hu
    have hc := concatT_any L (by omega) bk 3 W h4 h1 (by omega)
    rw [h2, h3] at hc
    exact hc.mono fun e' w' ⟨v, e1, e2, e3⟩ => ⟨v, e1, e2.lower (by have := h.size; have := HN1.out; omega), e3⟩)
  clear ht0 htp
  refine wp_region_loose [19, 20, 26, 29, 30, 31, 7] (KeyT n1 t0 [txtS ((f' : Int), (p' : Int)), kindB.getD m []] tp (t0 ++ [txtS ((f' : Int), (p' : Int)), kindB.getD m []] ++ tp)) Adds (by kernel_rfl) (by kernel_rfl) (by simp []) Adds.refl (fun _ _ _ h k => Adds.trans h k) (fun _ _ _ _ h k => k.adds h) ?_
  (repeat (refine wpL_step (fun K hK => ?_); first
    | (refine stepL_mk 19 rfl rfl rfl rfl (fun w' hw' => ⟨_, _, mkP1_run rfl rfl w', partG w', (Gr.new _ _).adds⟩) ?_; refine hK _ ?_; clear hK K)
    | (refine stepL_mk 26 rfl rfl rfl rfl (fun w' hw' => ⟨_, _, mkS2_run rfl rfl rfl w', keyT_26 _ _ w', (Gr.new _ _).adds⟩) ?_; refine hK _ ?_; clear hK K)
    | (refine stepL_keyc1 (f := 34) 20 19 rfl rfl rfl (fun u => #[evV ⟨g, (m : Nat), (f' : Nat), (p' : Nat), a, c, o, n, t⟩, u]) (fun w' u hw' hu => ⟨rfl, ?_⟩) (fun w' u hw' hu => HWr0.out w' u (Adds.trans HA5.out (Adds.trans (Adds.drew _) hw')) hu) ?_; (· (clear hK; go_simp)); refine hK _ ?_; clear hK K)
    | (refine stepL_key (f := 34) (args := #[evV ⟨g, (m : Nat), (f' : Nat), (p' : Nat), a, c, o, n, t⟩, v4]) 29 rfl rfl rfl rfl ?_ (fun w' hw' => HWrp.out w' (Adds.trans (Adds.drew _) hw')) ?_; (· (intro w'; clear hK; go_simp)); refine hK _ ?_; clear hK K)
    | (refine stepL_mk3 30 20 26 29 rfl rfl rfl (fun w' u1 u2 u3 hw' h1 h2 h3 => ⟨rfl, ?_⟩) ?_; (· (clear hK; obtain ⟨a1, c1, e1⟩ := txt_slice (show TxtS w'.heap.size w' u1 _ from h1); obtain ⟨a2, c2, e2⟩ := txt_slice (show TxtS w'.heap.size w' u2 _ from h2); obtain ⟨a3, c3, e3⟩ := txt_slice (show TxtS w'.heap.size w' u3 _ from h3); subst e1 e2 e3; exact ⟨_, _, mkT3_run rfl rfl rfl rfl w', keyT_30 h1 h2 h3 HLn.out, (Gr.new _ _).adds⟩)); refine hK _ ?_; clear hK K)
    | (refine stepL_keyc1 (f := 33) 31 30 rfl rfl rfl (fun u => #[u]) (fun w' u hw' hu => ⟨rfl, ?_⟩) (fun w' u hw' hu => HCat.out w' u (Adds.trans HA5.out (Adds.trans (Adds.drew _) hw')) hu) ?_; (· (clear hK; go_simp)); refine hK _ ?_; clear hK K)
    | (refine stepL_mk1 7 31 rfl rfl rfl (fun w' u hw' hu => ⟨rfl, u, w', rfl, hu, Adds.refl _⟩) ?_; refine hK _ ?_; clear hK K)
    | (refine stepL_call (v := .agg #[.int .i64 2, .func (.func 66) #[] #[], .func (.func 67) #[] #[], .func (.func 68) #[] #[], .func (.func 69) #[] #[]]) (f := 35) (args := #[]) rfl rfl rfl ?_ (fun w' hw' => mkG w') ?_; (· (intro w'; clear hK; go_simp)); go_simp; refine hK _ ?_; clear hK K)
    | (refine stepL_ex (v := .pointer (some ⟨n1, 1, none⟩)) rfl rfl rfl Adds.refl ?_ ?_; (· (intro w' hw'; clear hK; have hl := (HB5.out.adds (Adds.trans (Adds.drew _) hw')).lt; go_simp)); go_simp; refine hK _ ?_; clear hK K)
    | (refine stepL_ex (v := .int .i64 (m : Nat)) rfl rfl rfl Adds.refl ?_ ?_; (· (intro w' hw'; clear hK; have c1 : w'.cell? ⟨n1, 1, none⟩ = some (.int .i64 (m : Nat)) := (HB5.out.adds (Adds.trans (Adds.drew _) hw')).cell 1; go_simp)); go_simp; refine hK _ ?_; clear hK K)
    | (refine stepL_ex (v := .pointer (some ⟨0, m, none⟩)) rfl rfl rfl Adds.refl ?_ ?_; (· (intro w' hw'; clear hK; have hm15 := HM15.out; go_simp)); go_simp; refine hK _ ?_; clear hK K)
    | (refine stepL_ex (v := .string (str (kindB.getD m []))) rfl rfl rfl Adds.refl ?_ ?_; (· (intro w' hw'; clear hK; have ck := HKin.out w' (Adds.trans (Adds.drew _) hw'); go_simp)); go_simp; refine hK _ ?_; clear hK K)
    | (refine stepL_ex rfl rfl rfl Adds.refl (fun w' hw' => rfl) ?_; go_simp; refine hK _ ?_; clear hK K)
    | (refine stepL_ex (v := .agg #[.int .i64 g, .int .i64 (m : Nat), .int .i64 (f' : Nat), .int .i64 (p' : Nat), .int .u32 a, .int .i64 c, .int .i64 o, .int .i64 n, .int .i64 t]) rfl rfl rfl Adds.refl ?_ ?_; (· (intro w' hw'; clear hK; have b9 := HB5.out.adds (Adds.trans (Adds.drew _) hw'); have c0 : w'.cell? ⟨n1, 0, none⟩ = some (.int .i64 g) := b9.cell 0; have c1 : w'.cell? ⟨n1, 1, none⟩ = some (.int .i64 (m : Nat)) := b9.cell 1; have c2 : w'.cell? ⟨n1, 2, none⟩ = some (.int .i64 (f' : Nat)) := b9.cell 2; have c3 : w'.cell? ⟨n1, 3, none⟩ = some (.int .i64 (p' : Nat)) := b9.cell 3; have c4 : w'.cell? ⟨n1, 4, none⟩ = some (.int .u32 a) := b9.cell 4; have c5 : w'.cell? ⟨n1, 5, none⟩ = some (.int .i64 c) := b9.cell 5; have c6 : w'.cell? ⟨n1, 6, none⟩ = some (.int .i64 o) := b9.cell 6; have c7 : w'.cell? ⟨n1, 7, none⟩ = some (.int .i64 n) := b9.cell 7; have c8 : w'.cell? ⟨n1, 8, none⟩ = some (.int .i64 t) := b9.cell 8; go_simp)); go_simp; refine hK _ ?_; clear hK K)))
  refine wpL_nil ?_
  intro w7 a7
  simp only [forL]
  intro u1 _ u2 _ u3 _ u4 _ u5 _ u6 _ u7 h7
  have A7 := Lib.hid (Adds.trans HA5.out (Adds.trans (Adds.drew _) a7))
  have O7 := Lib.hid (show OwnT w7 n1 u7 (wordsE ⟨g, (m : Nat), (f' : Nat), (p' : Nat), a, c, o, n, t⟩) by rw [HAllT.out]; exact h7)
  have b9 := Lib.hid (HB2.out.adds (Adds.trans HA5b.out (Adds.trans (Adds.drew _) a7)))
  obtain ⟨q, c9, rfl, hq1, hq2, hq3⟩ := O7.out.cells HTs.out.2.2
  have HJ := Lib.hid (join16 q c9 (wordsE ⟨g, (m : Nat), (f' : Nat), (p' : Nat), a, c, o, n, t⟩) w7 hq3 hq1 (by have := HTs.out.2.1; omega) hq2 HTs.out.1)
  clear a7 h7 hq1 hq2 hq3
  obtain ⟨jt, hjt⟩ : ∃ jt, textE ⟨g, (m : Nat), (f' : Nat), (p' : Nat), a, c, o, n, t⟩ = jt := ⟨_, rfl⟩
  rw [show Lib.join (wordsE ⟨g, (m : Nat), (f' : Nat), (p' : Nat), a, c, o, n, t⟩) [32] = jt from hjt] at HJ
  have HJt := Lib.hid hjt
  clear hjt
  generalize (wordsE ⟨g, (m : Nat), (f' : Nat), (p' : Nat), a, c, o, n, t⟩).length = jn at HJ
  go_wp2_with (go_at_call 36; refine HJ.out.mono ?_; rintro e w9 ⟨rfl, q9⟩; have HA9 := Lib.hid q9; have bb := b9.out.adds q9; have d0 : w9.cell? ⟨n1 + 1, 0, none⟩ = some (.int .i64 0) := bb.cell 0; have f0 := bb.free 0; clear q9 bb)
  have b9z := (b9.out.adds HA9.out)
  have hst := b9z.still 0 (.int .i64 0) rfl
  have d0 : w9.cell? ⟨n1 + 1, 0, none⟩ = some (.int .i64 0) := b9z.cell 0
  try rw [hst]
  refine leaves_cons (f := 29) (args := #[.pointer (some ⟨n1 + 1, 0, none⟩)]) (by simp) (by simp [go_sem]) ?_
  refine (idle_text _ _).mono ?_
  rintro e u' w'' ⟨rfl, rfl, rfl⟩
  simp [Leaves, settle, results, Tryz.results9, go_sem, d0]
  exact ⟨HJt.out.symm ▸ rfl, Adds.trans A7.out HA9.out⟩
end Go.Proofs.YtbinmgpfkjmijaaGreatDoor
