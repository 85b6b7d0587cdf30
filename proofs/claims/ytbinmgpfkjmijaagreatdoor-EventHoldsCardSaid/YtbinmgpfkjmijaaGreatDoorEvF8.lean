/- The bytes of an event: contract. (genF8.py wrote this.) -/
import Derived.Test.YtbinmgpfkjmijaaGreatDoorSF11
import Derived.Test.YtbinmgpfkjmijaaGreatDoorEvF5
import Derived.Test.YtbinmgpfkjmijaaGreatDoorEvMk
namespace Go.Proofs.YtbinmgpfkjmijaaGreatDoor
open Go Go.RowKit Go.Shelf Go.Lib

theorem may_all {x : Ev} (h : mayE x = true) : mayQ 0 x = true ∧ rightS (x.f, x.p) = true ∧ (∀ p ∈ partsE x.k.toNat, mayQ p x = true) ∧ 1 ≤ x.k ∧ x.k ≤ 14 := by
  unfold mayE holdsE at h
  simp only [Bool.and_eq_true, decide_eq_true_eq] at h
  exact ⟨h.2.1, h.2.2.1, fun p hp => List.all_eq_true.1 h.2.2.2.1 p hp, h.1.1, h.1.2⟩
theorem partG (w : World) : PartsAt (w.alloc (.cells #[.int .i64 2, .func (.func 66) #[] #[], .func (.func 67) #[] #[], .func (.func 68) #[] #[], .func (.func 69) #[] #[]] 70)) (.slice (some ⟨w.heap.size, 0, none⟩) 1 1) [0] := .inr ⟨_, 1, rfl, by decide, by decide, by decide, RowQ.one w 0⟩
/-- What is known of the slots of Bytes' last region. -/
def KeyB (n0 : Nat) (k8 b0 bp all : List UInt8) (d : Tmp) (u : Value) (w : World) : Prop :=
  if d = 19 then Bytes w.heap.size w u k8 else if d = 22 then PartsAt w u [0] else if d = 23 then Bytes w.heap.size w u b0 else if d = 27 then Bytes w.heap.size w u bp
  else if d = 28 then ∃ (bk : Nat) (L : List (Value × List UInt8)), u = .slice (some ⟨bk, 0, none⟩) 4 4 ∧ bk < w.heap.size ∧ L.length = 4 ∧ flatB L = all ∧ ∀ (i : Nat) x, L[i]? = some x → w.cell? ⟨bk, i, none⟩ = some x.1 ∧ Bytes w.heap.size w x.1 x.2 ∧ x.2.length ≤ 100
  else OwnB w n0 u all
theorem KeyB.adds {n0 : Nat} {k8 b0 bp all : List UInt8} {d : Tmp} {u : Value} {w w' : World} (h : KeyB n0 k8 b0 bp all d u w) (ha : Adds w w') : KeyB n0 k8 b0 bp all d u w' := by
  unfold KeyB at h ⊢
  by_cases e1 : d = 19
  · rw [if_pos e1] at h ⊢; exact h.adds ha
  rw [if_neg e1] at h ⊢
  by_cases e2 : d = 22
  · rw [if_pos e2] at h ⊢; exact PartsAt.adds h ha
  rw [if_neg e2] at h ⊢
  by_cases e3 : d = 23
  · rw [if_pos e3] at h ⊢; exact h.adds ha
  rw [if_neg e3] at h ⊢
  by_cases e4 : d = 27
  · rw [if_pos e4] at h ⊢; exact h.adds ha
  rw [if_neg e4] at h ⊢
  by_cases e5 : d = 28
  · rw [if_pos e5] at h ⊢
    obtain ⟨bk, L, e, h1, h2, h3, h4⟩ := h
    exact ⟨bk, L, e, Nat.lt_of_lt_of_le h1 ha.size, h2, h3, fun i x hx => by
      obtain ⟨c1, c2, c3⟩ := h4 i x hx
      exact ⟨(ha.cell (World.block_lt_of_cell? w _ c1)).trans c1, c2.adds ha, c3⟩⟩
  · rw [if_neg e5] at h ⊢; exact OwnB.adds h ha
theorem keyB_19 {n0 : Nat} {b0 bp all : List UInt8} (m : Nat) (hm : m < 256) (w : World) : KeyB n0 [UInt8.ofNat m] b0 bp all 19 (.slice (some ⟨w.heap.size, 0, none⟩) 1 1) (w.alloc (.cells #[.int .u8 (m : Nat)] 5)) := by
  have h := OwnB.lit w [UInt8.ofNat m] (by simp [maxLen])
  have e : ([UInt8.ofNat m].map byteV).toArray = #[.int .u8 (m : Nat)] := by
    simp [byteV]
    omega
  rw [e] at h
  exact h.bytes
theorem keyB_28 {n0 : Nat} {k8 b0 bp pl : List UInt8} {u1 u2 u3 u4 : Value} {w : World} (h1 : Bytes w.heap.size w u1 k8) (h2 : Bytes w.heap.size w u2 b0) (h3 : Bytes w.heap.size w u3 pl) (h4 : Bytes w.heap.size w u4 bp) (hl : k8.length ≤ 100 ∧ b0.length ≤ 100 ∧ pl.length ≤ 100 ∧ bp.length ≤ 100) :
    KeyB n0 k8 b0 bp (k8 ++ b0 ++ pl ++ bp) 28 (.slice (some ⟨w.heap.size, 0, none⟩) 4 4) (w.alloc (.cells #[u1, u2, u3, u4] 37)) := by
  have ha := adds_box16 w (.cells #[u1, u2, u3, u4] 37)
  have hb := BkS.new 37 w [u1, u2, u3, u4]
  refine ⟨w.heap.size, [(u1, k8), (u2, b0), (u3, pl), (u4, bp)], rfl, hb.lt, rfl, by simp [flatB], fun i x hx => ?_⟩
  rcases i with _ | _ | _ | _ | i
  · cases hx; exact ⟨hb.cell 0, h1.adds ha, hl.1⟩
  · cases hx; exact ⟨hb.cell 1, h2.adds ha, hl.2.1⟩
  · cases hx; exact ⟨hb.cell 2, h3.adds ha, hl.2.2.1⟩
  · cases hx; exact ⟨hb.cell 3, h4.adds ha, hl.2.2.2⟩
  · simp at hx
theorem bytes_slice {n : Nat} {w : World} {v : Value} {l : List UInt8} (h : Bytes n w v l) : ∃ a c, v = .slice a l.length c := by
  obtain ⟨ao, c, rfl, _⟩ := h
  exact ⟨ao, c, rfl⟩
set_option maxRecDepth 100000 in
set_option maxHeartbeats 2000000 in
theorem bytes16_no (x : Ev) (hx : OkE x) (hm : mayE x = false) (w : World) : Calls Tryz.prog 16 #[evV x] w fun e w' => e = .returned (.tuple #[.slice none 0 0, .int .i64 2]) ∧ Adds w w' := by
  have hmf : ∀ (fn : Fn) (first cap : Array Value) (w : World), (Instr.makeFunc fn first cap).run Tryz.prog w = .ok (.func fn first cap) w := fun _ _ _ _ => rfl
  obtain ⟨w1, hw1⟩ : ∃ w1, (w.alloc (.cells (evC x).toArray 28)).alloc (.cells #[.int .i64 0] 30) = w1 := ⟨_, rfl⟩
  have HA1 := Lib.hid (show Adds w w1 by rw [← hw1]; exact ((Gr.new _ _).alloc _).adds)
  have HB1 := Lib.hid (show BkS 28 w1 w.heap.size (evC x) by rw [← hw1]; exact (BkS.new _ _ _).adds (Gr.new _ _).adds)
  have HB2 := Lib.hid (show BkS 30 w1 (w.heap.size + 1) [.int .i64 0] by rw [← hw1]; unfold BkS; exact heap_new1 _ _ _)
  have HHc := Lib.hid (hold_no x hx hm w1)
  clear hm hx
  obtain ⟨g, k, f, p, a, c, o, n, t⟩ := x
  have i0 : w1.cell? ⟨w.heap.size, 0, none⟩ = some (.int .i64 g) := HB1.out.cell 0
  have i1 : w1.cell? ⟨w.heap.size, 1, none⟩ = some (.int .i64 k) := HB1.out.cell 1
  have i2 : w1.cell? ⟨w.heap.size, 2, none⟩ = some (.int .i64 f) := HB1.out.cell 2
  have i3 : w1.cell? ⟨w.heap.size, 3, none⟩ = some (.int .i64 p) := HB1.out.cell 3
  have i4 : w1.cell? ⟨w.heap.size, 4, none⟩ = some (.int .u32 a) := HB1.out.cell 4
  have i5 : w1.cell? ⟨w.heap.size, 5, none⟩ = some (.int .i64 c) := HB1.out.cell 5
  have i6 : w1.cell? ⟨w.heap.size, 6, none⟩ = some (.int .i64 o) := HB1.out.cell 6
  have i7 : w1.cell? ⟨w.heap.size, 7, none⟩ = some (.int .i64 n) := HB1.out.cell 7
  have i8 : w1.cell? ⟨w.heap.size, 8, none⟩ = some (.int .i64 t) := HB1.out.cell 8
  go_enter_defers Tryz.func16, Tryz.ntmps16
  go_wp2_with (go_at_call 31; refine HHc.out.mono ?_; rintro e w2 ⟨rfl, q⟩; have HA2 := Lib.hid q; clear q)
  have b2 := HB2.out.adds HA2.out
  have d0 : w2.cell? ⟨w.heap.size + 1, 0, none⟩ = some (.int .i64 0) := b2.cell 0
  refine leaves_cons (f := 43) (args := #[.pointer (some ⟨w.heap.size + 1, 0, none⟩)]) (by simp) (by simp [go_sem]) ?_
  refine (catch_bytes (w.heap.size + 1) 0 2 [] w2 b2).mono ?_
  rintro e u' w'' ⟨rfl, rfl, rfl⟩
  have hA := Adds.set (Adds.trans HA1.out HA2.out) (b := w.heap.size + 1) (by omega) 0 (.int .i64 2)
  simp [Leaves, settle, results, Tryz.results16, go_sem, d0]
  exact hA
set_option maxRecDepth 100000 in
set_option maxHeartbeats 4000000 in
theorem bytes16_yes (x : Ev) (hx : OkE x) (hm : mayE x = true) (w : World) (hv : EVars w) : Calls Tryz.prog 16 #[evV x] w fun e w' => ∃ v, e = .returned (.tuple #[v, .int .i64 0]) ∧ OwnB w' w.heap.size v (bytesE x) ∧ Adds w w' := by
  have hmf : ∀ (fn : Fn) (first cap : Array Value) (w : World), (Instr.makeFunc fn first cap).run Tryz.prog w = .ok (.func fn first cap) w := fun _ _ _ _ => rfl
  obtain ⟨w1, hw1⟩ : ∃ w1, (w.alloc (.cells (evC x).toArray 28)).alloc (.cells #[.int .i64 0] 30) = w1 := ⟨_, rfl⟩
  have HA1 := Lib.hid (show Adds w w1 by rw [← hw1]; exact ((Gr.new _ _).alloc _).adds)
  have HB1 := Lib.hid (show BkS 28 w1 w.heap.size (evC x) by rw [← hw1]; exact (BkS.new _ _ _).adds (Gr.new _ _).adds)
  have HB2 := Lib.hid (show BkS 30 w1 (w.heap.size + 1) [.int .i64 0] by rw [← hw1]; unfold BkS; exact heap_new1 _ _ _)
  have HHc := Lib.hid (hold_yes x hx hm w1)
  have HX := Lib.hid hx
  have HAll := Lib.hid (may_all hm)
  have HV := Lib.hid hv
  clear hm hx hv
  obtain ⟨g, k, f, p, a, c, o, n, t⟩ := x
  obtain ⟨m, hm⟩ : ∃ m : Nat, k = m := ⟨k.toNat, by have h := HAll.out.2.2.2; simp only at h; omega⟩
  subst hm
  obtain ⟨f', hf'⟩ : ∃ m : Nat, f = m := ⟨f.toNat, by have h := rightS_iff.1 HAll.out.2.1; simp only at h; omega⟩
  subst hf'
  obtain ⟨p', hp'⟩ : ∃ m : Nat, p = m := ⟨p.toNat, by have h := rightS_iff.1 HAll.out.2.1; simp only at h; omega⟩
  subst hp'
  have HFP := Lib.hid (show f' < 32 ∧ p' < 512 by have h := rightS_iff.1 HAll.out.2.1; simp only at h; omega)
  have HM := Lib.hid (show m < 256 by have h := HAll.out.2.2.2; simp only at h; omega)
  have HE8 := Lib.hid (show IntKind.u8.wrap ((m : Nat) : Int) = (m : Int) by rw [byte_wrap, Nat.mod_eq_of_lt HM.out])
  have HSi := Lib.hid (fun W (h : Adds w W) => siteBytes_yes f' p' HFP.out.1 HFP.out.2 W (HV.out.adds h).sv.wid)
  have i0 : w1.cell? ⟨w.heap.size, 0, none⟩ = some (.int .i64 g) := HB1.out.cell 0
  have i1 : w1.cell? ⟨w.heap.size, 1, none⟩ = some (.int .i64 (m : Nat)) := HB1.out.cell 1
  have i2 : w1.cell? ⟨w.heap.size, 2, none⟩ = some (.int .i64 (f' : Nat)) := HB1.out.cell 2
  have i3 : w1.cell? ⟨w.heap.size, 3, none⟩ = some (.int .i64 (p' : Nat)) := HB1.out.cell 3
  have i4 : w1.cell? ⟨w.heap.size, 4, none⟩ = some (.int .u32 a) := HB1.out.cell 4
  have i5 : w1.cell? ⟨w.heap.size, 5, none⟩ = some (.int .i64 c) := HB1.out.cell 5
  have i6 : w1.cell? ⟨w.heap.size, 6, none⟩ = some (.int .i64 o) := HB1.out.cell 6
  have i7 : w1.cell? ⟨w.heap.size, 7, none⟩ = some (.int .i64 n) := HB1.out.cell 7
  have i8 : w1.cell? ⟨w.heap.size, 8, none⟩ = some (.int .i64 t) := HB1.out.cell 8
  go_enter_defers Tryz.func16, Tryz.ntmps16
  go_wp2_with (first
    | (go_at_call 31; refine HHc.out.mono ?_; rintro e w2 ⟨⟨v4, rfl, hp2⟩, q⟩; have HP2 := Lib.hid hp2; have HA2 := Lib.hid (Adds.trans HA1.out q); have HB3 := Lib.hid (HB1.out.adds q); have HQ2 := Lib.hid q; have j2 : w2.cell? ⟨w.heap.size, 2, none⟩ = some (.int .i64 (f' : Nat)) := HB3.out.cell 2; have j3 : w2.cell? ⟨w.heap.size, 3, none⟩ = some (.int .i64 (p' : Nat)) := HB3.out.cell 3; clear q hp2)
    | (go_at_call 44; refine (HSi.out _ HA2.out).mono ?_; rintro e w5 ⟨v5, rfl, h1, h2⟩; have HO5 := Lib.hid h1; have HA5 := Lib.hid (Adds.trans HA2.out h2); have HA5b := Lib.hid (Adds.trans HQ2.out h2); have HP5 := Lib.hid (HP2.out.adds h2); clear h1 h2))
  obtain ⟨n1, hn1⟩ : ∃ n1, w.heap.size = n1 := ⟨_, rfl⟩
  have HN1 := Lib.hid hn1
  rw [hn1] at HB1 HB2 ⊢
  clear hn1 hw1 i0 i1 i2 i3 i4 i5 i6 i7 i8
  have HB5 := Lib.hid (HB1.out.adds HA5b.out)
  have HPl := Lib.hid (fun W (h : Adds w5 W) => (HO5.out.bytes.adds h))
  obtain ⟨ap, cp, hvp⟩ := bytes_slice HO5.out.bytes
  subst hvp
  obtain ⟨pl, hpl⟩ : ∃ pl, leB 1 f' ++ leB 2 p' = pl := ⟨_, rfl⟩
  rw [hpl] at HO5 HPl ⊢
  obtain ⟨b0, hb0⟩ : ∃ b0, bytE [0] ⟨g, (m : Nat), (f' : Nat), (p' : Nat), a, c, o, n, t⟩ = b0 := ⟨_, rfl⟩
  obtain ⟨bp, hbp⟩ : ∃ bp, bytE (partsE m) ⟨g, (m : Nat), (f' : Nat), (p' : Nat), a, c, o, n, t⟩ = bp := ⟨_, rfl⟩
  have HLn := Lib.hid (show [UInt8.ofNat m].length ≤ 100 ∧ b0.length ≤ 100 ∧ pl.length ≤ 100 ∧ bp.length ≤ 100 by
    refine ⟨by simp, ?_, ?_, ?_⟩
    · rw [← hb0]; have := bytE_short [0] ⟨g, (m : Nat), (f' : Nat), (p' : Nat), a, c, o, n, t⟩; simp only [List.length_cons, List.length_nil] at this; omega
    · rw [← hpl]; simp [leB_length]
    · rw [← hbp]; have := bytE_short (partsE m) ⟨g, (m : Nat), (f' : Nat), (p' : Nat), a, c, o, n, t⟩; have := (okL_kind m).2; omega)
  have HAllB := Lib.hid (show bytesE ⟨g, (m : Nat), (f' : Nat), (p' : Nat), a, c, o, n, t⟩ = [UInt8.ofNat m] ++ b0 ++ pl ++ bp by rw [← hb0, ← hbp, ← hpl]; rfl)
  have HWr0 := Lib.hid (fun W u (h : Adds w W) (hu : KeyB n1 [UInt8.ofNat m] b0 bp ([UInt8.ofNat m] ++ b0 ++ pl ++ bp) 22 u W) => (written_any [0] ⟨by simp, by simp⟩ u ⟨g, (m : Nat), (f' : Nat), (p' : Nat), a, c, o, n, t⟩ HX.out (fun p hp => by obtain rfl : p = 0 := (by simpa using hp); exact HAll.out.1) W hu (HV.out.adds h).sv.wid).mono fun e' w' ⟨v, h1, h2, h3⟩ => (⟨v, h1, by rw [hb0] at h2; exact h2.bytes, h3⟩ : ∃ v, e' = Ending.returned v ∧ KeyB n1 [UInt8.ofNat m] b0 bp ([UInt8.ofNat m] ++ b0 ++ pl ++ bp) 23 v w' ∧ Adds W w'))
  have HWrp := Lib.hid (fun W (h : Adds w5 W) => (written_any (partsE m) (okL_kind m) v4 ⟨g, (m : Nat), (f' : Nat), (p' : Nat), a, c, o, n, t⟩ HX.out (fun p hp => HAll.out.2.2.1 p hp) W (HP5.out.adds h) (HV.out.adds (Adds.trans HA5.out h)).sv.wid).mono fun e' w' ⟨v, h1, h2, h3⟩ => (⟨v, h1, by rw [hbp] at h2; exact h2.bytes, h3⟩ : ∃ v, e' = Ending.returned v ∧ KeyB n1 [UInt8.ofNat m] b0 bp ([UInt8.ofNat m] ++ b0 ++ pl ++ bp) 27 v w' ∧ Adds W w'))
  have HCat := Lib.hid (fun W u (h : Adds w W) (hu : KeyB n1 [UInt8.ofNat m] b0 bp ([UInt8.ofNat m] ++ b0 ++ pl ++ bp) 28 u W) => show Calls Tryz.prog 45 #[u] W fun e' w' => ∃ v, e' = Ending.returned v ∧ KeyB n1 [UInt8.ofNat m] b0 bp ([UInt8.ofNat m] ++ b0 ++ pl ++ bp) 29 v w' ∧ Adds W w' by
    obtain ⟨bk, L, rfl, h1, h2, h3, h4⟩ := hu
    have hc := concatB_any L (by omega) bk 4 W h4 h1 (by omega)
    rw [h2, h3] at hc
    exact hc.mono fun e' w' ⟨v, e1, e2, e3⟩ => ⟨v, e1, e2.lower (by have := h.size; have := HN1.out; omega), e3⟩)
  clear hb0 hbp hpl
  refine wp_region_loose [19, 22, 23, 27, 28, 29, 2] (KeyB n1 [UInt8.ofNat m] b0 bp ([UInt8.ofNat m] ++ b0 ++ pl ++ bp)) Adds (by kernel_rfl) (by kernel_rfl) (by simp []) Adds.refl (fun _ _ _ h k => Adds.trans h k) (fun _ _ _ _ h k => k.adds h) ?_
  (repeat (refine wpL_step (fun K hK => ?_); first
    | (refine stepL_mk 19 rfl rfl rfl rfl (fun w' hw' => ⟨_, _, mkB1_run rfl rfl w', keyB_19 m HM.out w', (Gr.new _ _).adds⟩) ?_; refine hK _ ?_; clear hK K)
    | (refine stepL_mk 22 rfl rfl rfl rfl (fun w' hw' => ⟨_, _, mkP1_run rfl rfl w', partG w', (Gr.new _ _).adds⟩) ?_; refine hK _ ?_; clear hK K)
    | (refine stepL_keyc1 (f := 46) 23 22 rfl rfl rfl (fun u => #[evV ⟨g, (m : Nat), (f' : Nat), (p' : Nat), a, c, o, n, t⟩, u]) (fun w' u hw' hu => ⟨rfl, ?_⟩) (fun w' u hw' hu => HWr0.out w' u (Adds.trans HA5.out (Adds.trans (Adds.drew _) hw')) hu) ?_; (· (clear hK; go_simp)); refine hK _ ?_; clear hK K)
    | (refine stepL_key (f := 46) (args := #[evV ⟨g, (m : Nat), (f' : Nat), (p' : Nat), a, c, o, n, t⟩, v4]) 27 rfl rfl rfl rfl ?_ (fun w' hw' => HWrp.out w' (Adds.trans (Adds.drew _) hw')) ?_; (· (intro w'; clear hK; go_simp)); refine hK _ ?_; clear hK K)
    | (refine stepL_mk3 28 19 23 27 rfl rfl rfl (fun w' u1 u2 u3 hw' h1 h2 h3 => ⟨rfl, ?_⟩) ?_; (· (clear hK; obtain ⟨a1, c1, e1⟩ := bytes_slice (show Bytes w'.heap.size w' u1 _ from h1); obtain ⟨a2, c2, e2⟩ := bytes_slice (show Bytes w'.heap.size w' u2 _ from h2); obtain ⟨a3, c3, e3⟩ := bytes_slice (show Bytes w'.heap.size w' u3 _ from h3); subst e1 e2 e3; exact ⟨_, _, mkB4_run rfl rfl rfl rfl rfl w', keyB_28 h1 h2 (HPl.out w' (Adds.trans (Adds.drew _) hw')) h3 HLn.out, (Gr.new _ _).adds⟩)); refine hK _ ?_; clear hK K)
    | (refine stepL_keyc1 (f := 45) 29 28 rfl rfl rfl (fun u => #[u]) (fun w' u hw' hu => ⟨rfl, ?_⟩) (fun w' u hw' hu => HCat.out w' u (Adds.trans HA5.out (Adds.trans (Adds.drew _) hw')) hu) ?_; (· (clear hK; go_simp)); refine hK _ ?_; clear hK K)
    | (refine stepL_mk1 2 29 rfl rfl rfl (fun w' u hw' hu => ⟨rfl, u, w', rfl, hu, Adds.refl _⟩) ?_; refine hK _ ?_; clear hK K)
    | (refine stepL_st rfl rfl rfl Adds.refl ?_ ?_; (· (intro w' hw'; clear hK; have b9 := HB2.out.adds (Adds.trans HA5b.out (Adds.trans (Adds.drew _) hw')); have c9 : w'.cell? ⟨n1 + 1, 0, none⟩ = some (.int .i64 0) := b9.cell 0; have f9 := b9.free 0; have s9 := b9.still 0 (.int .i64 0) rfl; go_simp)); go_simp; refine hK _ ?_; clear hK K)
    | (refine stepL_call (v := .agg #[.int .i64 2, .func (.func 66) #[] #[], .func (.func 67) #[] #[], .func (.func 68) #[] #[], .func (.func 69) #[] #[]]) (f := 35) (args := #[]) rfl rfl rfl ?_ (fun w' hw' => mkG w') ?_; (· (intro w'; clear hK; go_simp)); go_simp; refine hK _ ?_; clear hK K)
    | (refine stepL_ex (v := .pointer (some ⟨n1, 1, none⟩)) rfl rfl rfl Adds.refl ?_ ?_; (· (intro w' hw'; clear hK; have hl := (HB5.out.adds (Adds.trans (Adds.drew _) hw')).lt; go_simp)); go_simp; refine hK _ ?_; clear hK K)
    | (refine stepL_ex (v := .int .i64 (m : Nat)) rfl rfl rfl Adds.refl ?_ ?_; (· (intro w' hw'; clear hK; have c1 : w'.cell? ⟨n1, 1, none⟩ = some (.int .i64 (m : Nat)) := (HB5.out.adds (Adds.trans (Adds.drew _) hw')).cell 1; go_simp)); go_simp; refine hK _ ?_; clear hK K)
    | (refine stepL_ex (v := .int .u8 (m : Nat)) rfl rfl rfl Adds.refl ?_ ?_; (· (intro w' hw'; clear hK; have e8 := HE8.out; go_simp)); go_simp; refine hK _ ?_; clear hK K)
    | (refine stepL_ex rfl rfl rfl Adds.refl (fun w' hw' => rfl) ?_; go_simp; refine hK _ ?_; clear hK K)
    | (refine stepL_ex (v := .agg #[.int .i64 g, .int .i64 (m : Nat), .int .i64 (f' : Nat), .int .i64 (p' : Nat), .int .u32 a, .int .i64 c, .int .i64 o, .int .i64 n, .int .i64 t]) rfl rfl rfl Adds.refl ?_ ?_; (· (intro w' hw'; clear hK; have b9 := HB5.out.adds (Adds.trans (Adds.drew _) hw'); have c0 : w'.cell? ⟨n1, 0, none⟩ = some (.int .i64 g) := b9.cell 0; have c1 : w'.cell? ⟨n1, 1, none⟩ = some (.int .i64 (m : Nat)) := b9.cell 1; have c2 : w'.cell? ⟨n1, 2, none⟩ = some (.int .i64 (f' : Nat)) := b9.cell 2; have c3 : w'.cell? ⟨n1, 3, none⟩ = some (.int .i64 (p' : Nat)) := b9.cell 3; have c4 : w'.cell? ⟨n1, 4, none⟩ = some (.int .u32 a) := b9.cell 4; have c5 : w'.cell? ⟨n1, 5, none⟩ = some (.int .i64 c) := b9.cell 5; have c6 : w'.cell? ⟨n1, 6, none⟩ = some (.int .i64 o) := b9.cell 6; have c7 : w'.cell? ⟨n1, 7, none⟩ = some (.int .i64 n) := b9.cell 7; have c8 : w'.cell? ⟨n1, 8, none⟩ = some (.int .i64 t) := b9.cell 8; go_simp)); go_simp; refine hK _ ?_; clear hK K)))
  refine wpL_nil ?_
  intro w7 a7
  simp only [forL]
  intro u1 _ u2 _ u3 _ u4 _ u5 _ u6 _ u7 h7
  have A7 := Lib.hid (Adds.trans HA5.out (Adds.trans (Adds.drew _) a7))
  have O7 := Lib.hid (show OwnB w7 n1 u7 ([UInt8.ofNat m] ++ b0 ++ pl ++ bp) from h7)
  have b9 := HB2.out.adds (Adds.trans HA5b.out (Adds.trans (Adds.drew _) a7))
  have d0 : w7.cell? ⟨n1 + 1, 0, none⟩ = some (.int .i64 0) := b9.cell 0
  clear a7 h7 b9
  go_wp2_with fail
  refine leaves_cons (f := 43) (args := #[.pointer (some ⟨n1 + 1, 0, none⟩)]) (by simp) (by simp [go_sem]) ?_
  refine (idle_bytes _ _).mono ?_
  rintro e u' w'' ⟨rfl, rfl, rfl⟩
  simp [Leaves, settle, results, Tryz.results16, go_sem, d0]
  exact ⟨by rw [HAllB.out, HN1.out]; exact O7.out, A7.out⟩
end Go.Proofs.YtbinmgpfkjmijaaGreatDoor
