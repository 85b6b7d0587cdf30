/- Contracts: Tick, of the program and of the reference. -/
import Derived.Test.YtcimppggemdidaaDoorVG4
import Derived.Test.YtcimppggemdidaaDoorVR1
namespace Go.Proofs.YtcimppggemdidaaDoor
open Go Go.RowKit

/-- What follows an epoch, in one. -/
def nextE (e n : Nat) (y z : Int) : Prop := (¬ (1 ≤ n ∧ n < 281474976710656) ∧ y = 0 ∧ z = 2) ∨ ((1 ≤ n ∧ n < 281474976710656) ∧ n ≤ eC e ∧ y = 0 ∧ z = 130) ∨ ((1 ≤ n ∧ n < 281474976710656) ∧ eC e < n ∧ y = ((e + 1 : Nat) : Int) ∧ z = 0)
theorem nextE_ex (e n : Nat) : ∃ y z, nextE e n y z := by
  by_cases h : 1 ≤ n ∧ n < 281474976710656
  · by_cases h2 : n ≤ eC e
    · exact ⟨_, _, .inr (.inl ⟨h, h2, rfl, rfl⟩)⟩
    · exact ⟨_, _, .inr (.inr ⟨h, by omega, rfl, rfl⟩)⟩
  · exact ⟨_, _, .inl ⟨h, rfl, rfl⟩⟩
theorem vnext_any (e n : Nat) (he : e < 18446744073709551616) (y z : Int) (h : nextE e n y z) (w : World) :
    Calls Tryd.prog 69 #[.int .u64 e, .int .u64 n] w fun x w' => x = .returned (.tuple #[.int .u64 y, .int .i64 z]) ∧ Below w.heap.size w w' := by
  rcases h with ⟨h, rfl, rfl⟩ | ⟨h, h2, rfl, rfl⟩ | ⟨h, h2, rfl, rfl⟩
  · exact next_arg e n h w
  · exact next_full e n h.1 h.2 h2 w
  · have e1 : epN (eI e) (eC e + 1) = e + 1 := by unfold epN eI eC; omega
    have := next_yes e n he h.1 h.2 h2 w
    rw [e1] at this
    exact this
theorem rnext_any (e n : Nat) (he : e < 18446744073709551616) (y z : Int) (h : nextE e n y z) (w : World) :
    Calls Tryd.prog 73 #[.int .u64 e, .int .u64 n] w fun x w' => x = .returned (.tuple #[.int .u64 y, .int .i64 z]) ∧ w = w' := by
  rcases h with ⟨h, rfl, rfl⟩ | ⟨h, h2, rfl, rfl⟩ | ⟨h, h2, rfl, rfl⟩
  · exact refNext_arg e n h w
  · exact refNext_full e n he h.1 h.2 h2 w
  · exact refNext_yes e n he h.1 h.2 h2 w

/-- The vector one clock later. -/
def vTickL (c : List UInt64) (i : Nat) : List UInt64 := vRaise (vTrim c) i (UInt64.ofNat ((gD c i).toNat + 1))
theorem up_toNat {g : UInt64} (h : g.toNat < 281474976710656) : (UInt64.ofNat (g.toNat + 1)).toNat = g.toNat + 1 := by rw [UInt64.toNat_ofNat']; omega
theorem vTickL_eq {c : List UInt64} {i : Nat} (h : (gD c i).toNat < 281474976710656) : vTickL c i = (vReach (i + 1) (vTrim c)).set i (UInt64.ofNat ((gD c i).toNat + 1)) := by
  unfold vTickL vRaise
  rw [gD_trim, if_neg]
  rw [UInt64.le_iff_toNat_le, up_toNat h]
  omega
theorem gD_tick {c : List UInt64} {i : Nat} (h : (gD c i).toNat < 281474976710656) (k : Nat) : gD (vTickL c i) k = if k = i then UInt64.ofNat ((gD c i).toNat + 1) else gD c k := by
  rw [vTickL_eq h, gD_set (by rw [reach_length]; omega), gD_reach, gD_trim]
theorem tick_trimmed {c : List UInt64} {i : Nat} (h : (gD c i).toNat < 281474976710656) : vTrim (vTickL c i) = vTickL c i := by
  have hl : (vTickL c i).length = max (i + 1) (tN c) := by rw [vTickL_eq h, List.length_set, reach_length, len_trim]
  refine trim_self (tN_eq (fun j hj => gD_ge hj) fun hp => ?_)
  rw [hl, gD_tick h]
  split
  · intro h0
    have := up_toNat h
    rw [h0] at this
    simp at this
  · rename_i hne
    have := tN_last c (by omega)
    rw [show max (i + 1) (tN c) - 1 = tN c - 1 by omega]
    exact this
theorem tick_ref {c : List UInt64} {i k : Nat} (h : (gD c i).toNat < 281474976710656) (hk : i < c.length + k) : vTrim ((c ++ List.replicate k 0).set i (UInt64.ofNat ((gD c i).toNat + 1))) = vTickL c i := by
  rw [← tick_trimmed h]
  refine trim_congr fun j => ?_
  have hr : ∀ j, gD (c ++ List.replicate k 0) j = gD c j := fun j => by
    have := gD_reach (c.length + k) c j
    unfold vReach at this
    rwa [Nat.add_sub_cancel_left] at this
  rw [gD_tick h, gD_set (by simp; omega), hr]

def TickNo (c : List UInt64) (x : Int) (n : Nat) (z : Int) : Prop := (epV c x 0 2 ∧ z = 2) ∨ (∃ e : Nat, e < 18446744073709551616 ∧ epV c x e 0 ∧ nextE e n 0 z ∧ (z = 2 ∨ z = 130))
structure TickYes (c : List UInt64) (x : Int) (n i : Nat) : Prop where
  hx : x = i
  hi : i < 65536
  hr : rightB c = true
  hg : (gD c i).toNat < 281474976710656
  h1 : 1 ≤ n
  h2 : n < 281474976710656
  h3 : (gD c i).toNat < n
theorem tick_ex (c : List UInt64) (x : Int) (n : Nat) : (∃ z, TickNo c x n z) ∨ ∃ i, TickYes c x n i := by
  obtain ⟨y, z, h⟩ := epV_ex c x
  rcases id h with ⟨i, rfl, hi, hr, hg, rfl, rfl⟩ | ⟨hn, rfl, rfl⟩
  · obtain ⟨y, z, h'⟩ := nextE_ex (epN i (gD c i).toNat) n
    rcases id h' with ⟨_, rfl, rfl⟩ | ⟨_, _, rfl, rfl⟩ | ⟨h1, h2, _, _⟩
    · exact .inl ⟨2, .inr ⟨_, epN_lt hi hg, h, h', .inl rfl⟩⟩
    · exact .inl ⟨130, .inr ⟨_, epN_lt hi hg, h, h', .inr rfl⟩⟩
    · exact .inr ⟨i, rfl, hi, hr, hg, h1.1, h1.2, by rw [eC_epN hg] at h2; exact h2⟩
  · exact .inl ⟨2, .inl ⟨h, rfl⟩⟩

set_option maxHeartbeats 1000000 in
theorem tick_no {m : Nat} (v : Value) (c : List UInt64) (x z : Int) (n : Nat) (hx : (Lit.int .i64 x).wf = true) (h : TickNo c x n z) (w : World) (hv : Words m w v c) :
    Calls Tryd.prog 37 #[v, .int .i64 x, .int .u64 n] w fun e w' => e = .returned (.tuple #[.slice none 0 0, .int .i64 z]) ∧ Adds w w' := by
  rcases h with ⟨h, rfl⟩ | ⟨e0, he0, h, h2, hz⟩
  · have HE := Lib.hid (vEpoch_any v c x 0 2 hx h w hv)
    clear hv h hx
    go_enter Tryd.func37, Tryd.ntmps37
    go_wp2
    refine wp_scope_fwd 0 rfl ?_
    go_wp2_with (go_at_call 25; refine HE.out.mono ?_; rintro e w1 ⟨rfl, a1⟩; have A1 := Lib.hid a1; clear a1)
    go_step3
    refine ⟨rfl, ?_⟩
    go_wp2
    rw [Exit.noGoto_ret]
    go_ret2
    exact ⟨rfl, A1.out⟩
  · have HE := Lib.hid (vEpoch_any v c x e0 0 hx h w hv)
    have HN := Lib.hid (vnext_any e0 n he0 0 z h2)
    clear hv h hx h2
    obtain ⟨y, hy⟩ : ∃ y : Int, (e0 : Int) = y := ⟨_, rfl⟩
    obtain ⟨u, hu⟩ : ∃ u : Int, (n : Int) = u := ⟨_, rfl⟩
    rw [hy] at HE HN
    rw [hu] at HN ⊢
    clear hy hu he0
    have hz0 : z ≠ 0 := by omega
    go_enter Tryd.func37, Tryd.ntmps37
    go_wp2
    refine wp_scope_fwd 0 rfl ?_
    go_wp2_with (first
      | (go_at_call 25; refine HE.out.mono ?_; rintro e w1 ⟨rfl, a1⟩; have A1 := Lib.hid a1; clear a1)
      | (go_at_call 69; refine (HN.out _).mono ?_; rintro e w2 ⟨rfl, a2⟩; have A2 := Lib.hid (show Adds w1 w2 from a2); clear a2))
    go_step3
    refine ⟨rfl, ?_⟩
    go_wp2
    rw [Exit.noGoto_ret]
    go_ret2
    exact ⟨rfl, A1.out.trans A2.out⟩

set_option maxRecDepth 100000 in
set_option maxHeartbeats 1000000 in
theorem tick_yes {m : Nat} (v : Value) (c : List UInt64) (x : Int) (n i : Nat) (hx : (Lit.int .i64 x).wf = true) (h : TickYes c x n i) (w : World) (hv : Words m w v c) (hc : c.length ≤ 200000) :
    Calls Tryd.prog 37 #[v, .int .i64 x, .int .u64 n] w fun e w' => ∃ v', e = .returned (.tuple #[v', .int .i64 0]) ∧ OwnW w' w.heap.size v' (vTickL c i) ∧ Adds w w' := by
  obtain ⟨hxi, hi, hr, hg, h1, h2, h3⟩ := h
  have hlt := epN_lt hi hg
  have HE := Lib.hid (vEpoch_any v c x _ 0 hx (.inl ⟨i, hxi, hi, hr, hg, rfl, rfl⟩) w hv)
  have HN := Lib.hid (vnext_any (epN i (gD c i).toNat) n hlt _ 0 (.inr (.inr ⟨⟨h1, h2⟩, by rw [eC_epN hg]; exact h3, rfl, rfl⟩)))
  have e1 : epN i (gD c i).toNat + 1 = epN i ((gD c i).toNat + 1) := by unfold epN; omega
  have hg1 : (gD c i).toNat + 1 < 281474976710656 := by omega
  have HP := Lib.hid (epParts_any (epN i (gD c i).toNat + 1) (by rw [e1]; exact epN_lt hi hg1))
  rw [e1] at HN HP
  rw [eI_epN hg1, eC_epN hg1] at HP
  have HT := Lib.hid (fun W (h : Adds w W) => take_any W.heap.size W.heap.size (.slice none 0 0) v [] c (W.alloc (.cells #[.slice none 0 0] gT)) (Boxed.new _ _ _) (World.ownsRow_nil _ _ _ _) (Nat.le_refl _) ((hv.here.adds h).below (Adds.new _ _)) (by simp) hc)
  have HR := Lib.hid (fun (B bg : Nat) v' W (hx : Boxed W bg gT v') (ho : OwnW W B v' (vTrim c)) (hb : B ≤ bg) => raise_any B bg i v' (vTrim c) (UInt64.ofNat ((gD c i).toNat + 1)) W hx ho hb (by omega) (by rw [len_trim]; have := tN_le c; omega))
  have HUP := Lib.hid (up_toNat hg)
  obtain ⟨y0, hy0⟩ : ∃ y : Int, ((epN i (gD c i).toNat : Nat) : Int) = y := ⟨_, rfl⟩
  obtain ⟨y1, hy1⟩ : ∃ y : Int, ((epN i ((gD c i).toNat + 1) : Nat) : Int) = y := ⟨_, rfl⟩
  obtain ⟨g1, hg1'⟩ : ∃ y : Int, (((gD c i).toNat + 1 : Nat) : Int) = y := ⟨_, rfl⟩
  obtain ⟨nn, hnn⟩ : ∃ y : Int, (n : Int) = y := ⟨_, rfl⟩
  rw [HUP.out, hg1'] at HR
  rw [hy0] at HE HN
  rw [hy1] at HN HP
  rw [hg1'] at HP
  rw [hnn] at HN ⊢
  have HV := Lib.hid hv
  obtain ⟨ao, cap, rfl, _⟩ := hv
  clear hxi hi hr hg h1 h2 h3 hlt e1 hg1 hy0 hy1 hg1' hnn hx HUP

  go_enter Tryd.func37, Tryd.ntmps37
  go_wp2
  refine wp_scope_fwd 0 rfl ?_
  go_wp2_with (first
    | (go_at_call 25; refine HE.out.mono ?_; rintro e w1 ⟨rfl, a1⟩; have A1 := Lib.hid a1; clear a1)
    | (go_at_call 69; refine (HN.out _).mono ?_; rintro e w2 ⟨rfl, a2⟩; have A2 := Lib.hid (A1.out.trans (show Adds w1 w2 from a2)); clear a2)
    | (go_at_call 70; refine (HT.out _ A2.out).mono ?_; rintro e w3 ⟨rfl, v3, x3, o3, b3⟩; rw [vTake_nil_left] at o3; have X3 := Lib.hid x3; have O3 := Lib.hid o3; have B3 := Lib.hid b3; clear x3 o3 b3)
    | (go_at_call 67; refine (HP.out _).mono ?_; rintro e w4 ⟨rfl, a4⟩; have A4 := Lib.hid (show Adds w3 w4 from a4); clear a4)
    | (go_at_call 71; refine (HR.out w2.heap.size w2.heap.size _ w4 (boxed_adds X3.out A4.out) (O3.out.adds A4.out) (Nat.le_refl _)).mono ?_; rintro e w5 ⟨rfl, v5, x5, o5, b5, _⟩; have T5 := Lib.hid (told_any _ v5 w5 x5 (by obtain ⟨_, _, e⟩ := o5.isSlice; exact ⟨_, _, _, e⟩)); have O5 := Lib.hid o5; have B5 := Lib.hid b5; clear x5 o5 b5)
    | (go_at_call 72; refine T5.out.mono ?_; rintro e w' ⟨rfl, rfl⟩))
  simp only [Exit.jump]
  go_ret2
  refine ⟨_, rfl, O5.out.lower A2.out.size, A2.out.trans ?_⟩
  have s3 := B3.out.size
  simp at s3
  exact Below.trans (Adds.new w2 _) (B3.out.trans ((Below.mono A4.out (by omega)).trans B5.out))

set_option maxHeartbeats 1000000 in
theorem refTick_no {m : Nat} (v : Value) (c : List UInt64) (x z : Int) (n : Nat) (hx : (Lit.int .i64 x).wf = true) (h : TickNo c x n z) (w : World) (hv : Words m w v c) :
    Calls Tryd.prog 38 #[v, .int .i64 x, .int .u64 n] w fun e w' => e = .returned (.tuple #[.slice none 0 0, .int .i64 z]) ∧ w = w' := by
  rcases h with ⟨h, rfl⟩ | ⟨e0, he0, h, h2, hz⟩
  · have HE := Lib.hid (refEpoch_any v c x 0 2 hx h w hv)
    clear hv h hx
    go_enter Tryd.func38, Tryd.ntmps38
    go_wp2_with (go_at_call 26; refine HE.out.mono ?_; rintro e w1 ⟨rfl, rfl⟩)
    go_ret2
    exact ⟨rfl, rfl⟩
  · have HE := Lib.hid (refEpoch_any v c x e0 0 hx h w hv)
    have HN := Lib.hid (rnext_any e0 n he0 0 z h2)
    clear hv h hx h2
    obtain ⟨y, hy⟩ : ∃ y : Int, (e0 : Int) = y := ⟨_, rfl⟩
    obtain ⟨u, hu⟩ : ∃ u : Int, (n : Int) = u := ⟨_, rfl⟩
    rw [hy] at HE HN
    rw [hu] at HN ⊢
    clear hy hu he0
    have hz0 : z ≠ 0 := by omega
    go_enter Tryd.func38, Tryd.ntmps38
    go_wp2_with (first
      | (go_at_call 26; refine HE.out.mono ?_; rintro e w1 ⟨rfl, rfl⟩)
      | (go_at_call 73; refine (HN.out _).mono ?_; rintro e w2 ⟨rfl, rfl⟩))
    go_ret2
    exact ⟨rfl, rfl⟩

def sliceLen : Value → Nat
  | .slice _ n _ => n
  | _ => 0
theorem words_zero (w : World) : Words (w.heap.size + 1) (w.alloc (.cells #[.int .u64 0] 26)) (.slice (some ⟨w.heap.size, 0, none⟩) 1 1) [0] :=
  ⟨_, 1, rfl, by simp, by simp [maxLen], fun _ => ⟨w.heap.size, 0, rfl, by omega, fun i hi => by
    obtain rfl : i = 0 := by simpa using hi
    simp [wordV]⟩⟩
theorem rep_snoc (c : List UInt64) (k : Nat) : c ++ List.replicate k 0 ++ [0] = c ++ List.replicate (k + 1) 0 := by rw [List.append_assoc, List.replicate_succ']

set_option maxRecDepth 100000 in
set_option maxHeartbeats 2000000 in
theorem refTick_yes {m : Nat} (v : Value) (c : List UInt64) (x : Int) (n i : Nat) (hx : (Lit.int .i64 x).wf = true) (h : TickYes c x n i) (w : World) (hv : Words m w v c) (hc : c.length ≤ 100000) :
    Calls Tryd.prog 38 #[v, .int .i64 x, .int .u64 n] w fun e w' => ∃ v', e = .returned (.tuple #[v', .int .i64 0]) ∧ OwnW w' w.heap.size v' (vTickL c i) ∧ Adds w w' := by
  obtain ⟨hxi, hi, hr, hg, h1, h2, h3⟩ := h
  have hlt := epN_lt hi hg
  have HE := Lib.hid (refEpoch_any v c x _ 0 hx (.inl ⟨i, hxi, hi, hr, hg, rfl, rfl⟩) w hv)
  have HN := Lib.hid (rnext_any (epN i (gD c i).toNat) n hlt _ 0 (.inr (.inr ⟨⟨h1, h2⟩, by rw [eC_epN hg]; exact h3, rfl, rfl⟩)))
  have e1 : epN i (gD c i).toNat + 1 = epN i ((gD c i).toNat + 1) := by unfold epN; omega
  have hg1 : (gD c i).toNat + 1 < 281474976710656 := by omega
  have HP := Lib.hid (refParts_any (epN i (gD c i).toNat + 1) (by rw [e1]; exact epN_lt hi hg1))
  rw [e1] at HN HP
  rw [eI_epN hg1, eC_epN hg1] at HP
  have HUP := Lib.hid (up_toNat hg)
  have HTE := Lib.hid (fun k => tick_ref (c := c) (i := i) (k := k) hg)
  obtain ⟨u1, hu1⟩ : ∃ u, UInt64.ofNat ((gD c i).toNat + 1) = u := ⟨_, rfl⟩
  rw [hu1] at HTE
  obtain ⟨y0, hy0⟩ : ∃ y : Int, ((epN i (gD c i).toNat : Nat) : Int) = y := ⟨_, rfl⟩
  obtain ⟨y1, hy1⟩ : ∃ y : Int, ((epN i ((gD c i).toNat + 1) : Nat) : Int) = y := ⟨_, rfl⟩
  obtain ⟨g1, hg1'⟩ : ∃ y : Int, (((gD c i).toNat + 1 : Nat) : Int) = y := ⟨_, rfl⟩
  have HG1 := Lib.hid (show Value.int .u64 g1 = wordV u1 by unfold wordV; rw [← hu1, HUP.out, hg1'])
  obtain ⟨nn, hnn⟩ : ∃ y : Int, (n : Int) = y := ⟨_, rfl⟩
  rw [hy0] at HE HN
  rw [hy1] at HN HP
  rw [hg1'] at HP
  rw [hnn] at HN ⊢
  have HV := Lib.hid hv
  obtain ⟨ao, cap, rfl, _⟩ := hv
  subst hxi
  have hi' : (i : Int) < 65536 := by omega
  clear hi hr hg h1 h2 h3 hlt e1 hg1 hy0 hy1 hg1' hnn hx HUP hu1
  go_enter Tryd.func38, Tryd.ntmps38
  go_wp2_with (first
    | (go_at_call 26; refine HE.out.mono ?_; rintro e w1 ⟨rfl, rfl⟩)
    | (go_at_call 73; refine (HN.out _).mono ?_; rintro e w2 ⟨rfl, rfl⟩)
    | (at_builtin; refine wp_append_w rfl _ _ 48 rfl Tryd.underlying48 w.heap.size (.slice none 0 0) [] rfl (World.ownsRow_nil _ _ _ _) _ c m rfl (by exact HV.out) (by simp; omega) (Nat.le_refl _) ?_; intro v1 w1 o1 b1; have O1 := Lib.hid o1; have B1 := Lib.hid (show Adds w w1 from (Below.refl _ w).grown b1 (Nat.le_refl _) (fun j hj => by cases hj)); clear o1 b1))
  go_loopw [11] (fun s wr => ∃ k : Nat, c.length + k ≤ c.length + i + 1 ∧ OwnW wr w.heap.size s (c ++ List.replicate k 0) ∧ Adds w wr) (fun s _ => c.length + i + 1 - sliceLen s)
  case atStart => exact ⟨0, by omega, by simpa using O1.out, B1.out⟩
  case round =>
    obtain ⟨k, hk, ho, ha⟩ := hrel
    obtain ⟨a1, c1, rfl⟩ := ho.isSlice
    rw [List.length_append, List.length_replicate] at ho ⊢
    have HO := Lib.hid ho; clear ho
    have HA := Lib.hid ha; clear ha
    obtain ⟨M, hM⟩ : ∃ M, c.length + k = M := ⟨_, rfl⟩
    rw [hM] at HO ⊢
    have HM := Lib.hid hM; clear hM
    have HK := Lib.hid hk; clear hk
    by_cases hle : M ≤ i
    · have hle' : (M : Int) ≤ (i : Int) := by omega
      have HWZ := Lib.hid (words_zero wr)
      have HO2 := Lib.hid (show OwnW (wr.alloc (.cells #[.int .u64 0] 26)) w.heap.size _ (c ++ List.replicate k 0) from World.ownsRow.alloc (show OwnW wr w.heap.size (.slice a1 M c1) (c ++ List.replicate k 0) from HO.out) _)
      have HSW := Lib.hid (show w.heap.size ≤ wr.heap.size from HA.out.size)
      go_wp2_with (at_builtin; refine wp_append_w rfl _ _ 48 rfl Tryd.underlying48 w.heap.size _ (c ++ List.replicate k 0) rfl (by exact HO2.out) _ [0] _ rfl (by exact HWZ.out) (by have := HM.out; simp; omega) (by have := HSW.out; simp; omega) ?_; intro v1 w1 o1 b1; rw [rep_snoc] at o1; have O2 := Lib.hid o1; have B2 := Lib.hid ((((Below.refl w.heap.size wr).alloc HSW.out _).grown b1 (by have := HSW.out; simp; omega) (fun j hj => (World.ownsRow.lt HO2.out j hj.symm.symm).1))); clear o1 b1)
      go_roundw
      case rel => exact ⟨k + 1, by have := HM.out; omega, O2.out, Below.trans HA.out B2.out⟩
      case measure =>
        obtain ⟨a2, c2, e2⟩ := O2.out.isSlice
        rw [e2]
        have := HM.out
        simp [sliceLen]
        omega
    · have hle' : ¬ (M : Int) ≤ (i : Int) := by omega
      have hlt : i < M := by omega
      have hlen : (c ++ List.replicate k 0).length = M := by rw [← HM.out]; simp
      have HLN := Lib.hid hlen
      obtain ⟨g, cap', e, hgb, _, hfz⟩ := OwnW.form' (l := c ++ List.replicate k 0) HO.out (by intro h0; rw [h0] at hlen; simp at hlen; omega)
      simp only [Value.slice.injEq] at e
      obtain ⟨rfl, hq1, hq2⟩ := e
      clear hq1 hq2
      have fz := hfz i
      have hO' : OwnW wr w.heap.size (.slice (some ⟨g, 0, none⟩) (c ++ List.replicate k 0).length c1) (c ++ List.replicate k 0) := hlen.symm ▸ HO.out
      rw [hlen] at hO'
      obtain ⟨yo, hyo⟩ := hO'.cellAt i (by omega)
      have hset := OwnW.set (l := c ++ List.replicate k 0) (hlen.symm ▸ hO') i u1
      have hw := hset.words
      have HTR := Lib.hid (refTrim_any _ _ _ hw (by rw [List.length_set, hlen]; have := HM.out; have := HK.out; omega))
      rw [HTE.out k (by have := HM.out; omega), ← HG1.out, hlen] at HTR
      have HZ := Lib.hid (show Below w.heap.size wr (wr.setCell ⟨g, i, none⟩ (.int .u64 g1)) from (Below.refl _ wr).setCell (p := ⟨g, i, none⟩) hgb _)
      have hiM : (i : Int) < (M : Int) := by omega
      have hcapb : M ≤ c1 := by
        have := hO'.2
        rcases this with ⟨e, _⟩ | ⟨_, _, _, e, _, _, hn, _⟩
        · cases e
        · cases e; rw [hlen] at hn; exact hn
      clear hset hw hlen hfz hO' hle
      go_wp2_with (first
        | (go_at_call 68; refine (HP.out _).mono ?_; rintro e w4 ⟨rfl, rfl⟩)
        | (go_at_call 32; refine HTR.out.mono ?_; rintro e w5 ⟨v5, rfl, o5, a5⟩; have O5 := Lib.hid o5; have A5 := Lib.hid a5; obtain ⟨a6, c6, rfl⟩ := o5.isSlice; clear o5 a5))
      go_ret2
      have hs1 := HA.out.size
      have hs2 := HZ.out.size
      exact ⟨_, rfl, O5.out.lower (by omega), Below.trans HA.out (HZ.out.trans (Below.mono A5.out (by omega)))⟩
end Go.Proofs.YtcimppggemdidaaDoor
