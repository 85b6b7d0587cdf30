/- Contracts: Tick, of the program and of the reference. -/
import Derived.Test.YtcimppggemdidaaDoorVG4
import Derived.Test.YtcimppggemdidaaDoorVR2
namespace Go.Proofs.YtcimppggemdidaaDoor
open Go Go.RowKit

/-- What follows an epoch, in one. -/
def nextE (e n : Nat) (y z : Int) : Prop := (¬ (1 ≤ n ∧ n < 281474976710656) ∧ y = 0 ∧ z = 2) ∨ ((1 ≤ n ∧ n < 281474976710656) ∧ n ≤ eC e ∧ y = 0 ∧ z = 130) ∨ ((1 ≤ n ∧ n < 281474976710656) ∧ eC e < n ∧ y = ((e + 1 : Nat) : Int) ∧ z = 0)
theorem nextE_ex (e n : Nat) : ∃ y z, nextE e n y z := by
  by_cases h : 1 ≤ n ∧ n < 281474976710656
  · by_cases h2 : n ≤ eC e
    · exact ⟨_, _, .inr (.inl ⟨h, h2, rfl, rfl⟩)⟩
    · exact ⟨_, _, .inr (.inr ⟨h, by omega, rfl, rfl⟩)⟩
  · exact ⟨_, _, .inl ⟨h, rfl, rfl⟩⟩
theorem vnext_any (e n : Nat) (he : e < 18446744073709551616) (y z : Int) (h : nextE e n y z) (w : World) :
    Calls Tryd.prog 69 #[.int .u64 e, .int .u64 n] w fun x w' => x = .returned (.tuple #[.int .u64 y, .int .i64 z]) ∧ Below w.heap.size w w' := by
  rcases h with ⟨h, rfl, rfl⟩ | ⟨h, h2, rfl, rfl⟩ | ⟨h, h2, rfl, rfl⟩
  · exact next_arg e n h w
  · exact next_full e n h.1 h.2 h2 w
  · have e1 : epN (eI e) (eC e + 1) = e + 1 := by unfold epN eI eC; omega
    have := next_yes e n he h.1 h.2 h2 w
    rw [e1] at this
    exact this
theorem rnext_any (e n : Nat) (he : e < 18446744073709551616) (y z : Int) (h : nextE e n y z) (w : World) :
    Calls Tryd.prog 73 #[.int .u64 e, .int .u64 n] w fun x w' => x = .returned (.tuple #[.int .u64 y, .int .i64 z]) ∧ w = w' := by
  rcases h with ⟨h, rfl, rfl⟩ | ⟨h, h2, rfl, rfl⟩ | ⟨h, h2, rfl, rfl⟩
  · exact refNext_arg e n h w
  · exact refNext_full e n he h.1 h.2 h2 w
  · exact refNext_yes e n he h.1 h.2 h2 w

/-- The vector one clock later. -/
def vTickL (c : List UInt64) (i : Nat) : List UInt64 := vRaise (vTrim c) i (UInt64.ofNat ((gD c i).toNat + 1))
theorem up_toNat {g : UInt64} (h : g.toNat < 281474976710656) : (UInt64.ofNat (g.toNat + 1)).toNat = g.toNat + 1 := by rw [UInt64.toNat_ofNat']; omega
theorem vTickL_eq {c : List UInt64} {i : Nat} (h : (gD c i).toNat < 281474976710656) : vTickL c i = (vReach (i + 1) (vTrim c)).set i (UInt64.ofNat ((gD c i).toNat + 1)) := by
  unfold vTickL vRaise
  rw [gD_trim, if_neg]
  rw [UInt64.le_iff_toNat_le, up_toNat h]
  omega
theorem gD_tick {c : List UInt64} {i : Nat} (h : (gD c i).toNat < 281474976710656) (k : Nat) : gD (vTickL c i) k = if k = i then UInt64.ofNat ((gD c i).toNat + 1) else gD c k := by
  rw [vTickL_eq h, gD_set (by rw [reach_length]; omega), gD_reach, gD_trim]
theorem tick_trimmed {c : List UInt64} {i : Nat} (h : (gD c i).toNat < 281474976710656) : vTrim (vTickL c i) = vTickL c i := by
  have hl : (vTickL c i).length = max (i + 1) (tN c) := by rw [vTickL_eq h, List.length_set, reach_length, len_trim]
  refine trim_self (tN_eq (fun j hj => gD_ge hj) fun hp => ?_)
  rw [hl, gD_tick h]
  split
  · intro h0
    have := up_toNat h
    rw [h0] at this
    simp at this
  · rename_i hne
    have := tN_last c (by omega)
    rw [show max (i + 1) (tN c) - 1 = tN c - 1 by omega]
    exact this
theorem tick_ref {c : List UInt64} {i k : Nat} (h : (gD c i).toNat < 281474976710656) (hk : i < c.length + k) : vTrim ((c ++ List.replicate k 0).set i (UInt64.ofNat ((gD c i).toNat + 1))) = vTickL c i := by
  rw [← tick_trimmed h]
  refine trim_congr fun j => ?_
  have hr : ∀ j, gD (c ++ List.replicate k 0) j = gD c j := fun j => by
    have := gD_reach (c.length + k) c j
    unfold vReach at this
    rwa [Nat.add_sub_cancel_left] at this
  rw [gD_tick h, gD_set (by simp; omega), hr]

def TickNo (c : List UInt64) (x : Int) (n : Nat) (z : Int) : Prop := (epV c x 0 2 ∧ z = 2) ∨ (∃ e : Nat, e < 18446744073709551616 ∧ epV c x e 0 ∧ nextE e n 0 z ∧ (z = 2 ∨ z = 130))
structure TickYes (c : List UInt64) (x : Int) (n i : Nat) : Prop where
  hx : x = i
  hi : i < 65536
  hr : rightB c = true
  hg : (gD c i).toNat < 281474976710656
  h1 : 1 ≤ n
  h2 : n < 281474976710656
  h3 : (gD c i).toNat < n
theorem tick_ex (c : List UInt64) (x : Int) (n : Nat) : (∃ z, TickNo c x n z) ∨ ∃ i, TickYes c x n i := by
  obtain ⟨y, z, h⟩ := epV_ex c x
  rcases id h with ⟨i, rfl, hi, hr, hg, rfl, rfl⟩ | ⟨hn, rfl, rfl⟩
  · obtain ⟨y, z, h'⟩ := nextE_ex (epN i (gD c i).toNat) n
    rcases id h' with ⟨_, rfl, rfl⟩ | ⟨_, _, rfl, rfl⟩ | ⟨h1, h2, _, _⟩
    · exact .inl ⟨2, .inr ⟨_, epN_lt hi hg, h, h', .inl rfl⟩⟩
    · exact .inl ⟨130, .inr ⟨_, epN_lt hi hg, h, h', .inr rfl⟩⟩
    · exact .inr ⟨i, rfl, hi, hr, hg, h1.1, h1.2, by rw [eC_epN hg] at h2; exact h2⟩
  · exact .inl ⟨2, .inl ⟨h, rfl⟩⟩

set_option maxHeartbeats 1000000 in
theorem tick_no {m : Nat} (v : Value) (c : List UInt64) (x z : Int) (n : Nat) (hx : (Lit.int .i64 x).wf = true) (h : TickNo c x n z) (w : World) (hv : Words m w v c) :
    Calls Tryd.prog 37 #[v, .int .i64 x, .int .u64 n] w fun e w' => e = .returned (.tuple #[.slice none 0 0, .int .i64 z]) ∧ Adds w w' := by
  rcases h with ⟨h, rfl⟩ | ⟨e0, he0, h, h2, hz⟩
  · have HE := Lib.hid (vEpoch_any v c x 0 2 hx h w hv)
    clear hv h hx
    go_enter Tryd.func37, Tryd.ntmps37
    go_wp2
    refine wp_scope_fwd 0 rfl ?_
    go_wp2_with (go_at_call 25; refine HE.out.mono ?_; rintro e w1 ⟨rfl, a1⟩; have A1 := Lib.hid a1; clear a1)
    go_step3
    refine ⟨rfl, ?_⟩
    go_wp2
    rw [Exit.noGoto_ret]
    go_ret2
    exact ⟨rfl, A1.out⟩
  · have HE := Lib.hid (vEpoch_any v c x e0 0 hx h w hv)
    have HN := Lib.hid (vnext_any e0 n he0 0 z h2)
    clear hv h hx h2
    obtain ⟨y, hy⟩ : ∃ y : Int, (e0 : Int) = y := ⟨_, rfl⟩
    obtain ⟨u, hu⟩ : ∃ u : Int, (n : Int) = u := ⟨_, rfl⟩
    rw [hy] at HE HN
    rw [hu] at HN ⊢
    clear hy hu he0
    have hz0 : z ≠ 0 := by omega
    go_enter Tryd.func37, Tryd.ntmps37
    go_wp2
    refine wp_scope_fwd 0 rfl ?_
    go_wp2_with (first
      | (go_at_call 25; refine HE.out.mono ?_; rintro e w1 ⟨rfl, a1⟩; have A1 := Lib.hid a1; clear a1)
      | (go_at_call 69; refine (HN.out _).mono ?_; rintro e w2 ⟨rfl, a2⟩; have A2 := Lib.hid (show Adds w1 w2 from a2); clear a2))
    go_step3
    refine ⟨rfl, ?_⟩
    go_wp2
    rw [Exit.noGoto_ret]
    go_ret2
    exact ⟨rfl, A1.out.trans A2.out⟩
end Go.Proofs.YtcimppggemdidaaDoor
