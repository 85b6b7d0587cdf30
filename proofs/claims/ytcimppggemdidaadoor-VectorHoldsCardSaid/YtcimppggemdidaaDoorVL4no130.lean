/- The law VectorHolds, walked: no tick (130). -/
import Derived.BigQuiet
import Derived.Deep.QuietTactic
import Derived.Test.YtcimppggemdidaaDoorVL3
namespace Go.Proofs.YtcimppggemdidaaDoor
open Go Go.RowKit

set_option maxRecDepth 100000 in
set_option maxHeartbeats 16000000 in
theorem law_vholds_no130 {nb : Nat} (u v x : Value) (a b c : List UInt64) (i : Int) (hi : (Lit.int .i64 i).wf = true) (ht : TickNo a i 281474976710655 130) (w : World) (hu : Words nb w u a) (hv : Words nb w v b) (hx : Words nb w x c) (hw : How w) (hla : a.length ≤ 40) (hlb : b.length ≤ 40) (hlc : c.length ≤ 40) (h0 : 0 ≤ i) (h7 : i ≤ 70) :
    Calls Tryd.prog 9 #[.agg #[u, v, x], .int .i64 i] w (TrueAdds w) := by
  have HF := Lib.hid (few_any _ [a, b, c] _ (listsW_arr w u v x a b c hu hv hx))
  rw [few_three hla hlb hlc] at HF
  have HW := Lib.hid (fun W (h : Adds w W) => works4_any W (hw.adds h))
  have HHW := Lib.hid (fun W (h : Adds w W) => hw.adds h); clear hw
  have HVA := Lib.hid (fun W (h : Adds w W) => hu.here.adds h)
  have HVB := Lib.hid (fun W (h : Adds w W) => hv.here.adds h)
  have HVC := Lib.hid (fun W (h : Adds w W) => hx.here.adds h)
  obtain ⟨ao, capa, rfl, _⟩ := hu
  obtain ⟨bo, capb, rfl, _⟩ := hv
  obtain ⟨co, capc, rfl, _⟩ := hx
  have hjl := join2_length a b 40 hla hlb
  have HLS := Lib.hid (show ∀ d ∈ [b, a, vJoin [a, b]], d.length ≤ 200000 from by intro d hd; simp at hd; rcases hd with rfl | rfl | rfl <;> omega)
  have HL2 := Lib.hid (show ∀ d ∈ [a, b], d.length ≤ 200000 from by intro d hd; simp at hd; rcases hd with rfl | rfl <;> omega)
  have HJ1 := Lib.hid (fun W k (hk : k = W.heap.size) (h : Adds w W) => join_any (.slice (some ⟨k, 0, none⟩) 2 2) [a, b] _ (hk ▸ listsW_2 W _ _ _ _ (HVA.out W h) (HVB.out W h)) HL2.out)
  have HJA := Lib.hid (join_up1 a b)
  have HJB := Lib.hid (join_up2 a b)
  have HJS := Lib.hid (join_again a b)
  obtain ⟨jl, hj⟩ : ∃ y, vJoin [a, b] = y := ⟨_, rfl⟩
  have HJ2 := Lib.hid (fun (vl : Value) (W : World) (h : ListsW (W.heap.size + 1) (W.alloc (.cells #[.slice bo b.length capb, .slice ao a.length capa, vl] 48)) (.slice (some ⟨W.heap.size, 0, none⟩) 3 3) [b, a, jl]) (hh : ∀ d ∈ [b, a, jl], d.length ≤ 200000) => join_any _ [b, a, jl] _ h hh)
  unfold JoinPost at HJ1 HJ2
  rw [hj] at HJ1 HJA HJB HJS HLS
  have HJL := Lib.hid (fun (d : List UInt64) (h1 : upB a d = true) (h2 : upB b d = true) => hj ▸ join_least h1 h2)
  obtain ⟨kl, hk⟩ : ∃ y, vJoin [b, a, jl] = y := ⟨_, rfl⟩
  rw [hk] at HJ2 HJS
  clear hj hk hjl
  have HUaa := Lib.hid (fun W (h : Adds w W) => lawUpTo_any _ _ a a true (upB_refl a) W (HVA.out W h) (HVA.out W h) (HHW.out W h))
  obtain ⟨p, hp⟩ : ∃ z, upB a c = z := ⟨_, rfl⟩
  obtain ⟨q, hq⟩ : ∃ z, upB b c = z := ⟨_, rfl⟩
  obtain ⟨s, hs⟩ : ∃ z, upB a b = z := ⟨_, rfl⟩
  have HUac := Lib.hid (fun W (h : Adds w W) => lawUpTo_any _ _ a c p hp W (HVA.out W h) (HVC.out W h) (HHW.out W h))
  have HUbc := Lib.hid (fun W (h : Adds w W) => lawUpTo_any _ _ b c q hq W (HVB.out W h) (HVC.out W h) (HHW.out W h))
  have HUab := Lib.hid (fun W (h : Adds w W) => lawUpTo_any _ _ a b s hs W (HVA.out W h) (HVB.out W h) (HHW.out W h))
  have HUaj := Lib.hid (fun vj W (hj : Words W.heap.size W vj jl) (h : Adds w W) => lawUpTo_any _ vj a jl true HJA.out W (HVA.out W h) hj (HHW.out W h))
  have HUbj := Lib.hid (fun vj W (hj : Words W.heap.size W vj jl) (h : Adds w W) => lawUpTo_any _ vj b jl true HJB.out W (HVB.out W h) hj (HHW.out W h))
  have HPQ := Lib.hid (show s = true → q = true → p = true from fun h1 h2 => by rw [← hp]; exact upB_trans (hs.trans h1) (hq.trans h2))
  have HJC0 := Lib.hid (show p = true → q = true → upB jl c = true from fun h1 h2 => HJL.out c (hp.trans h1) (hq.trans h2))
  have AX := Lib.hid (Adds.new w (.cells #[.slice ao a.length capa, .slice bo b.length capb, .slice co c.length capc] 67))
  have hi0 : ¬ (i < 0) := by omega
  have hi7 : ¬ (70 < i) := by omega
  have HT := Lib.hid (fun W (h : Adds w W) => tick_no _ a i 130 281474976710655 hi ht W (HVA.out W h))
  clear ht hi

  clear hp hq hs h0 h7 hla hlb hlc
  have hcases : (p = true ∧ q = true ∧ s = true) ∨ (p = true ∧ q = true ∧ s = false) ∨ (p = true ∧ q = false ∧ s = true) ∨ (p = true ∧ q = false ∧ s = false) ∨ (p = false ∧ s = false) ∨ (p = false ∧ q = false ∧ s = true) := by
    have := HPQ.out
    cases p <;> cases q <;> cases s <;> simp at this ⊢
  rcases hcases with ⟨rfl, rfl, rfl⟩ | ⟨rfl, rfl, rfl⟩ | ⟨rfl, rfl, rfl⟩ | ⟨rfl, rfl, rfl⟩ | ⟨rfl, rfl⟩ | ⟨rfl, rfl, rfl⟩
  · have K0 := HUaa
    have K1 := HUaj
    have K2 := HUbj
    have K3 := HUac
    have K4 := HUbc
    have K5 := Lib.hid (fun vj W (hj : Words W.heap.size W vj jl) (h : Adds w W) => lawUpTo_any vj _ jl c true (HJC0.out rfl rfl) W hj (HVC.out W h) (HHW.out W h))
    have K6 := HUab
    have K7 := HUbc
    have K8 := HUac
    clear HJC0 HPQ HJL HUaa HUac HUbc HUab HUaj HUbj
    go_enter Tryd.func9, Tryd.ntmps9
    go_wp2_with (go_at_call 23; refine HF.out.mono ?_; rintro e w' ⟨rfl, rfl⟩)
    go_quiet (fail)
    have AXN := Lib.hid (fun n => AX.out.trans (Adds.drewN _ n))
    go_wp2_with (first
      | (go_at_call 23; refine HF.out.mono ?_; rintro e w' ⟨rfl, rfl⟩)
      | (go_at_call 24; refine (HW.out _ AX.out).mono ?_; rintro e w3 ⟨rfl, a3⟩; have AX := Lib.hid (AX.out.trans a3); clear a3)
      | (go_at_call 27; refine (num4_any _ _).mono ?_; rintro e w' ⟨rfl, rfl⟩)
      | (go_at_call 39; first
          | (refine (HJ1.out _ _ (by show _ = (World.alloc w _).heap.size; simp) (AXN.out _)).mono ?_; rintro e w1 ⟨v1, rfl, o1, a1⟩; obtain ⟨aj, cj, rfl⟩ := o1.isSlice; have OJ := Lib.hid o1.words; have AX := Lib.hid (Adds.trans (AXN.out _) ((Adds.new _ _).trans a1)); have AY := Lib.hid (Adds.refl w1); clear a1 o1 HJ1)
          | (refine (HJ2.out _ _ (listsW_3 _ _ _ _ _ _ _ (HVB.out _ AX.out) (HVA.out _ AX.out) (OJ.out.adds AY.out)) HLS.out).mono ?_; rintro e w2 ⟨v2, rfl, o2, a2⟩; obtain ⟨ak, ck, rfl⟩ := o2.isSlice; have OK := Lib.hid o2.words; have AX := Lib.hid (AX.out.trans ((Adds.new _ _).trans a2)); have AY := Lib.hid (AY.out.trans ((Adds.new _ _).trans a2)); clear a2 o2))
      | (go_at_call 44; first
          | (refine (K0.out _ AX.out).mono ?_; rintro e w3 ⟨rfl, a3⟩; have AX := Lib.hid (AX.out.trans a3); have AY := Lib.hid (AY.out.trans a3); clear a3 K0)
          | (refine (K1.out _ _ (OJ.out.adds AY.out) AX.out).mono ?_; rintro e w3 ⟨rfl, a3⟩; have AX := Lib.hid (AX.out.trans a3); have AY := Lib.hid (AY.out.trans a3); clear a3 K1)
          | (refine (K2.out _ _ (OJ.out.adds AY.out) AX.out).mono ?_; rintro e w3 ⟨rfl, a3⟩; have AX := Lib.hid (AX.out.trans a3); have AY := Lib.hid (AY.out.trans a3); clear a3 K2)
          | (refine (K3.out _ AX.out).mono ?_; rintro e w3 ⟨rfl, a3⟩; have AX := Lib.hid (AX.out.trans a3); have AY := Lib.hid (AY.out.trans a3); clear a3 K3)
          | (refine (K4.out _ AX.out).mono ?_; rintro e w3 ⟨rfl, a3⟩; have AX := Lib.hid (AX.out.trans a3); have AY := Lib.hid (AY.out.trans a3); clear a3 K4)
          | (refine (K5.out _ _ (OJ.out.adds AY.out) AX.out).mono ?_; rintro e w3 ⟨rfl, a3⟩; have AX := Lib.hid (AX.out.trans a3); have AY := Lib.hid (AY.out.trans a3); clear a3 K5)
          | (refine (K6.out _ AX.out).mono ?_; rintro e w3 ⟨rfl, a3⟩; have AX := Lib.hid (AX.out.trans a3); have AY := Lib.hid (AY.out.trans a3); clear a3 K6)
          | (refine (K7.out _ AX.out).mono ?_; rintro e w3 ⟨rfl, a3⟩; have AX := Lib.hid (AX.out.trans a3); have AY := Lib.hid (AY.out.trans a3); clear a3 K7)
          | (refine (K8.out _ AX.out).mono ?_; rintro e w3 ⟨rfl, a3⟩; have AX := Lib.hid (AX.out.trans a3); have AY := Lib.hid (AY.out.trans a3); clear a3 K8))
      | (go_at_call 41; refine (stands_any _ _ jl kl _ (OJ.out.adds AY.out) OK.out (HHW.out _ AX.out)).mono ?_; rintro e w3 ⟨rfl, a3⟩; rw [HJS.out]; have AX := Lib.hid (AX.out.trans a3); clear a3 OK)
      | (go_at_call 37; refine (HT.out _ AX.out).mono ?_; rintro e w3 ⟨rfl, a3⟩; have AX := Lib.hid (AX.out.trans a3); clear a3))
    go_ret
    exact ⟨rfl, AX.out⟩
  · have K0 := HUaa
    have K1 := HUaj
    have K2 := HUbj
    have K3 := HUac
    have K4 := HUbc
    have K5 := Lib.hid (fun vj W (hj : Words W.heap.size W vj jl) (h : Adds w W) => lawUpTo_any vj _ jl c true (HJC0.out rfl rfl) W hj (HVC.out W h) (HHW.out W h))
    have K6 := HUab
    clear HJC0 HPQ HJL HUaa HUac HUbc HUab HUaj HUbj
    go_enter Tryd.func9, Tryd.ntmps9
    go_wp2_with (go_at_call 23; refine HF.out.mono ?_; rintro e w' ⟨rfl, rfl⟩)
    go_quiet (fail)
    have AXN := Lib.hid (fun n => AX.out.trans (Adds.drewN _ n))
    go_wp2_with (first
      | (go_at_call 23; refine HF.out.mono ?_; rintro e w' ⟨rfl, rfl⟩)
      | (go_at_call 24; refine (HW.out _ AX.out).mono ?_; rintro e w3 ⟨rfl, a3⟩; have AX := Lib.hid (AX.out.trans a3); clear a3)
      | (go_at_call 27; refine (num4_any _ _).mono ?_; rintro e w' ⟨rfl, rfl⟩)
      | (go_at_call 39; first
          | (refine (HJ1.out _ _ (by show _ = (World.alloc w _).heap.size; simp) (AXN.out _)).mono ?_; rintro e w1 ⟨v1, rfl, o1, a1⟩; obtain ⟨aj, cj, rfl⟩ := o1.isSlice; have OJ := Lib.hid o1.words; have AX := Lib.hid (Adds.trans (AXN.out _) ((Adds.new _ _).trans a1)); have AY := Lib.hid (Adds.refl w1); clear a1 o1 HJ1)
          | (refine (HJ2.out _ _ (listsW_3 _ _ _ _ _ _ _ (HVB.out _ AX.out) (HVA.out _ AX.out) (OJ.out.adds AY.out)) HLS.out).mono ?_; rintro e w2 ⟨v2, rfl, o2, a2⟩; obtain ⟨ak, ck, rfl⟩ := o2.isSlice; have OK := Lib.hid o2.words; have AX := Lib.hid (AX.out.trans ((Adds.new _ _).trans a2)); have AY := Lib.hid (AY.out.trans ((Adds.new _ _).trans a2)); clear a2 o2))
      | (go_at_call 44; first
          | (refine (K0.out _ AX.out).mono ?_; rintro e w3 ⟨rfl, a3⟩; have AX := Lib.hid (AX.out.trans a3); have AY := Lib.hid (AY.out.trans a3); clear a3 K0)
          | (refine (K1.out _ _ (OJ.out.adds AY.out) AX.out).mono ?_; rintro e w3 ⟨rfl, a3⟩; have AX := Lib.hid (AX.out.trans a3); have AY := Lib.hid (AY.out.trans a3); clear a3 K1)
          | (refine (K2.out _ _ (OJ.out.adds AY.out) AX.out).mono ?_; rintro e w3 ⟨rfl, a3⟩; have AX := Lib.hid (AX.out.trans a3); have AY := Lib.hid (AY.out.trans a3); clear a3 K2)
          | (refine (K3.out _ AX.out).mono ?_; rintro e w3 ⟨rfl, a3⟩; have AX := Lib.hid (AX.out.trans a3); have AY := Lib.hid (AY.out.trans a3); clear a3 K3)
          | (refine (K4.out _ AX.out).mono ?_; rintro e w3 ⟨rfl, a3⟩; have AX := Lib.hid (AX.out.trans a3); have AY := Lib.hid (AY.out.trans a3); clear a3 K4)
          | (refine (K5.out _ _ (OJ.out.adds AY.out) AX.out).mono ?_; rintro e w3 ⟨rfl, a3⟩; have AX := Lib.hid (AX.out.trans a3); have AY := Lib.hid (AY.out.trans a3); clear a3 K5)
          | (refine (K6.out _ AX.out).mono ?_; rintro e w3 ⟨rfl, a3⟩; have AX := Lib.hid (AX.out.trans a3); have AY := Lib.hid (AY.out.trans a3); clear a3 K6))
      | (go_at_call 41; refine (stands_any _ _ jl kl _ (OJ.out.adds AY.out) OK.out (HHW.out _ AX.out)).mono ?_; rintro e w3 ⟨rfl, a3⟩; rw [HJS.out]; have AX := Lib.hid (AX.out.trans a3); clear a3 OK)
      | (go_at_call 37; refine (HT.out _ AX.out).mono ?_; rintro e w3 ⟨rfl, a3⟩; have AX := Lib.hid (AX.out.trans a3); clear a3))
    go_ret
    exact ⟨rfl, AX.out⟩
  · have K0 := HUaa
    have K1 := HUaj
    have K2 := HUbj
    have K3 := HUac
    have K4 := HUbc
    have K5 := HUab
    have K6 := HUbc
    clear HJC0 HPQ HJL HUaa HUac HUbc HUab HUaj HUbj
    go_enter Tryd.func9, Tryd.ntmps9
    go_wp2_with (go_at_call 23; refine HF.out.mono ?_; rintro e w' ⟨rfl, rfl⟩)
    go_quiet (fail)
    have AXN := Lib.hid (fun n => AX.out.trans (Adds.drewN _ n))
    go_wp2_with (first
      | (go_at_call 23; refine HF.out.mono ?_; rintro e w' ⟨rfl, rfl⟩)
      | (go_at_call 24; refine (HW.out _ AX.out).mono ?_; rintro e w3 ⟨rfl, a3⟩; have AX := Lib.hid (AX.out.trans a3); clear a3)
      | (go_at_call 27; refine (num4_any _ _).mono ?_; rintro e w' ⟨rfl, rfl⟩)
      | (go_at_call 39; first
          | (refine (HJ1.out _ _ (by show _ = (World.alloc w _).heap.size; simp) (AXN.out _)).mono ?_; rintro e w1 ⟨v1, rfl, o1, a1⟩; obtain ⟨aj, cj, rfl⟩ := o1.isSlice; have OJ := Lib.hid o1.words; have AX := Lib.hid (Adds.trans (AXN.out _) ((Adds.new _ _).trans a1)); have AY := Lib.hid (Adds.refl w1); clear a1 o1 HJ1)
          | (refine (HJ2.out _ _ (listsW_3 _ _ _ _ _ _ _ (HVB.out _ AX.out) (HVA.out _ AX.out) (OJ.out.adds AY.out)) HLS.out).mono ?_; rintro e w2 ⟨v2, rfl, o2, a2⟩; obtain ⟨ak, ck, rfl⟩ := o2.isSlice; have OK := Lib.hid o2.words; have AX := Lib.hid (AX.out.trans ((Adds.new _ _).trans a2)); have AY := Lib.hid (AY.out.trans ((Adds.new _ _).trans a2)); clear a2 o2))
      | (go_at_call 44; first
          | (refine (K0.out _ AX.out).mono ?_; rintro e w3 ⟨rfl, a3⟩; have AX := Lib.hid (AX.out.trans a3); have AY := Lib.hid (AY.out.trans a3); clear a3 K0)
          | (refine (K1.out _ _ (OJ.out.adds AY.out) AX.out).mono ?_; rintro e w3 ⟨rfl, a3⟩; have AX := Lib.hid (AX.out.trans a3); have AY := Lib.hid (AY.out.trans a3); clear a3 K1)
          | (refine (K2.out _ _ (OJ.out.adds AY.out) AX.out).mono ?_; rintro e w3 ⟨rfl, a3⟩; have AX := Lib.hid (AX.out.trans a3); have AY := Lib.hid (AY.out.trans a3); clear a3 K2)
          | (refine (K3.out _ AX.out).mono ?_; rintro e w3 ⟨rfl, a3⟩; have AX := Lib.hid (AX.out.trans a3); have AY := Lib.hid (AY.out.trans a3); clear a3 K3)
          | (refine (K4.out _ AX.out).mono ?_; rintro e w3 ⟨rfl, a3⟩; have AX := Lib.hid (AX.out.trans a3); have AY := Lib.hid (AY.out.trans a3); clear a3 K4)
          | (refine (K5.out _ AX.out).mono ?_; rintro e w3 ⟨rfl, a3⟩; have AX := Lib.hid (AX.out.trans a3); have AY := Lib.hid (AY.out.trans a3); clear a3 K5)
          | (refine (K6.out _ AX.out).mono ?_; rintro e w3 ⟨rfl, a3⟩; have AX := Lib.hid (AX.out.trans a3); have AY := Lib.hid (AY.out.trans a3); clear a3 K6))
      | (go_at_call 41; refine (stands_any _ _ jl kl _ (OJ.out.adds AY.out) OK.out (HHW.out _ AX.out)).mono ?_; rintro e w3 ⟨rfl, a3⟩; rw [HJS.out]; have AX := Lib.hid (AX.out.trans a3); clear a3 OK)
      | (go_at_call 37; refine (HT.out _ AX.out).mono ?_; rintro e w3 ⟨rfl, a3⟩; have AX := Lib.hid (AX.out.trans a3); clear a3))
    go_ret
    exact ⟨rfl, AX.out⟩
  · have K0 := HUaa
    have K1 := HUaj
    have K2 := HUbj
    have K3 := HUac
    have K4 := HUbc
    have K5 := HUab
    clear HJC0 HPQ HJL HUaa HUac HUbc HUab HUaj HUbj
    go_enter Tryd.func9, Tryd.ntmps9
    go_wp2_with (go_at_call 23; refine HF.out.mono ?_; rintro e w' ⟨rfl, rfl⟩)
    go_quiet (fail)
    have AXN := Lib.hid (fun n => AX.out.trans (Adds.drewN _ n))
    go_wp2_with (first
      | (go_at_call 23; refine HF.out.mono ?_; rintro e w' ⟨rfl, rfl⟩)
      | (go_at_call 24; refine (HW.out _ AX.out).mono ?_; rintro e w3 ⟨rfl, a3⟩; have AX := Lib.hid (AX.out.trans a3); clear a3)
      | (go_at_call 27; refine (num4_any _ _).mono ?_; rintro e w' ⟨rfl, rfl⟩)
      | (go_at_call 39; first
          | (refine (HJ1.out _ _ (by show _ = (World.alloc w _).heap.size; simp) (AXN.out _)).mono ?_; rintro e w1 ⟨v1, rfl, o1, a1⟩; obtain ⟨aj, cj, rfl⟩ := o1.isSlice; have OJ := Lib.hid o1.words; have AX := Lib.hid (Adds.trans (AXN.out _) ((Adds.new _ _).trans a1)); have AY := Lib.hid (Adds.refl w1); clear a1 o1 HJ1)
          | (refine (HJ2.out _ _ (listsW_3 _ _ _ _ _ _ _ (HVB.out _ AX.out) (HVA.out _ AX.out) (OJ.out.adds AY.out)) HLS.out).mono ?_; rintro e w2 ⟨v2, rfl, o2, a2⟩; obtain ⟨ak, ck, rfl⟩ := o2.isSlice; have OK := Lib.hid o2.words; have AX := Lib.hid (AX.out.trans ((Adds.new _ _).trans a2)); have AY := Lib.hid (AY.out.trans ((Adds.new _ _).trans a2)); clear a2 o2))
      | (go_at_call 44; first
          | (refine (K0.out _ AX.out).mono ?_; rintro e w3 ⟨rfl, a3⟩; have AX := Lib.hid (AX.out.trans a3); have AY := Lib.hid (AY.out.trans a3); clear a3 K0)
          | (refine (K1.out _ _ (OJ.out.adds AY.out) AX.out).mono ?_; rintro e w3 ⟨rfl, a3⟩; have AX := Lib.hid (AX.out.trans a3); have AY := Lib.hid (AY.out.trans a3); clear a3 K1)
          | (refine (K2.out _ _ (OJ.out.adds AY.out) AX.out).mono ?_; rintro e w3 ⟨rfl, a3⟩; have AX := Lib.hid (AX.out.trans a3); have AY := Lib.hid (AY.out.trans a3); clear a3 K2)
          | (refine (K3.out _ AX.out).mono ?_; rintro e w3 ⟨rfl, a3⟩; have AX := Lib.hid (AX.out.trans a3); have AY := Lib.hid (AY.out.trans a3); clear a3 K3)
          | (refine (K4.out _ AX.out).mono ?_; rintro e w3 ⟨rfl, a3⟩; have AX := Lib.hid (AX.out.trans a3); have AY := Lib.hid (AY.out.trans a3); clear a3 K4)
          | (refine (K5.out _ AX.out).mono ?_; rintro e w3 ⟨rfl, a3⟩; have AX := Lib.hid (AX.out.trans a3); have AY := Lib.hid (AY.out.trans a3); clear a3 K5))
      | (go_at_call 41; refine (stands_any _ _ jl kl _ (OJ.out.adds AY.out) OK.out (HHW.out _ AX.out)).mono ?_; rintro e w3 ⟨rfl, a3⟩; rw [HJS.out]; have AX := Lib.hid (AX.out.trans a3); clear a3 OK)
      | (go_at_call 37; refine (HT.out _ AX.out).mono ?_; rintro e w3 ⟨rfl, a3⟩; have AX := Lib.hid (AX.out.trans a3); clear a3))
    go_ret
    exact ⟨rfl, AX.out⟩
  · have K0 := HUaa
    have K1 := HUaj
    have K2 := HUbj
    have K3 := HUac
    have K4 := HUab
    clear HJC0 HPQ HJL HUaa HUac HUbc HUab HUaj HUbj
    go_enter Tryd.func9, Tryd.ntmps9
    go_wp2_with (go_at_call 23; refine HF.out.mono ?_; rintro e w' ⟨rfl, rfl⟩)
    go_quiet (fail)
    have AXN := Lib.hid (fun n => AX.out.trans (Adds.drewN _ n))
    go_wp2_with (first
      | (go_at_call 23; refine HF.out.mono ?_; rintro e w' ⟨rfl, rfl⟩)
      | (go_at_call 24; refine (HW.out _ AX.out).mono ?_; rintro e w3 ⟨rfl, a3⟩; have AX := Lib.hid (AX.out.trans a3); clear a3)
      | (go_at_call 27; refine (num4_any _ _).mono ?_; rintro e w' ⟨rfl, rfl⟩)
      | (go_at_call 39; first
          | (refine (HJ1.out _ _ (by show _ = (World.alloc w _).heap.size; simp) (AXN.out _)).mono ?_; rintro e w1 ⟨v1, rfl, o1, a1⟩; obtain ⟨aj, cj, rfl⟩ := o1.isSlice; have OJ := Lib.hid o1.words; have AX := Lib.hid (Adds.trans (AXN.out _) ((Adds.new _ _).trans a1)); have AY := Lib.hid (Adds.refl w1); clear a1 o1 HJ1)
          | (refine (HJ2.out _ _ (listsW_3 _ _ _ _ _ _ _ (HVB.out _ AX.out) (HVA.out _ AX.out) (OJ.out.adds AY.out)) HLS.out).mono ?_; rintro e w2 ⟨v2, rfl, o2, a2⟩; obtain ⟨ak, ck, rfl⟩ := o2.isSlice; have OK := Lib.hid o2.words; have AX := Lib.hid (AX.out.trans ((Adds.new _ _).trans a2)); have AY := Lib.hid (AY.out.trans ((Adds.new _ _).trans a2)); clear a2 o2))
      | (go_at_call 44; first
          | (refine (K0.out _ AX.out).mono ?_; rintro e w3 ⟨rfl, a3⟩; have AX := Lib.hid (AX.out.trans a3); have AY := Lib.hid (AY.out.trans a3); clear a3 K0)
          | (refine (K1.out _ _ (OJ.out.adds AY.out) AX.out).mono ?_; rintro e w3 ⟨rfl, a3⟩; have AX := Lib.hid (AX.out.trans a3); have AY := Lib.hid (AY.out.trans a3); clear a3 K1)
          | (refine (K2.out _ _ (OJ.out.adds AY.out) AX.out).mono ?_; rintro e w3 ⟨rfl, a3⟩; have AX := Lib.hid (AX.out.trans a3); have AY := Lib.hid (AY.out.trans a3); clear a3 K2)
          | (refine (K3.out _ AX.out).mono ?_; rintro e w3 ⟨rfl, a3⟩; have AX := Lib.hid (AX.out.trans a3); have AY := Lib.hid (AY.out.trans a3); clear a3 K3)
          | (refine (K4.out _ AX.out).mono ?_; rintro e w3 ⟨rfl, a3⟩; have AX := Lib.hid (AX.out.trans a3); have AY := Lib.hid (AY.out.trans a3); clear a3 K4))
      | (go_at_call 41; refine (stands_any _ _ jl kl _ (OJ.out.adds AY.out) OK.out (HHW.out _ AX.out)).mono ?_; rintro e w3 ⟨rfl, a3⟩; rw [HJS.out]; have AX := Lib.hid (AX.out.trans a3); clear a3 OK)
      | (go_at_call 37; refine (HT.out _ AX.out).mono ?_; rintro e w3 ⟨rfl, a3⟩; have AX := Lib.hid (AX.out.trans a3); clear a3))
    go_ret
    exact ⟨rfl, AX.out⟩
  · have K0 := HUaa
    have K1 := HUaj
    have K2 := HUbj
    have K3 := HUac
    have K4 := HUab
    have K5 := HUbc
    clear HJC0 HPQ HJL HUaa HUac HUbc HUab HUaj HUbj
    go_enter Tryd.func9, Tryd.ntmps9
    go_wp2_with (go_at_call 23; refine HF.out.mono ?_; rintro e w' ⟨rfl, rfl⟩)
    go_quiet (fail)
    have AXN := Lib.hid (fun n => AX.out.trans (Adds.drewN _ n))
    go_wp2_with (first
      | (go_at_call 23; refine HF.out.mono ?_; rintro e w' ⟨rfl, rfl⟩)
      | (go_at_call 24; refine (HW.out _ AX.out).mono ?_; rintro e w3 ⟨rfl, a3⟩; have AX := Lib.hid (AX.out.trans a3); clear a3)
      | (go_at_call 27; refine (num4_any _ _).mono ?_; rintro e w' ⟨rfl, rfl⟩)
      | (go_at_call 39; first
          | (refine (HJ1.out _ _ (by show _ = (World.alloc w _).heap.size; simp) (AXN.out _)).mono ?_; rintro e w1 ⟨v1, rfl, o1, a1⟩; obtain ⟨aj, cj, rfl⟩ := o1.isSlice; have OJ := Lib.hid o1.words; have AX := Lib.hid (Adds.trans (AXN.out _) ((Adds.new _ _).trans a1)); have AY := Lib.hid (Adds.refl w1); clear a1 o1 HJ1)
          | (refine (HJ2.out _ _ (listsW_3 _ _ _ _ _ _ _ (HVB.out _ AX.out) (HVA.out _ AX.out) (OJ.out.adds AY.out)) HLS.out).mono ?_; rintro e w2 ⟨v2, rfl, o2, a2⟩; obtain ⟨ak, ck, rfl⟩ := o2.isSlice; have OK := Lib.hid o2.words; have AX := Lib.hid (AX.out.trans ((Adds.new _ _).trans a2)); have AY := Lib.hid (AY.out.trans ((Adds.new _ _).trans a2)); clear a2 o2))
      | (go_at_call 44; first
          | (refine (K0.out _ AX.out).mono ?_; rintro e w3 ⟨rfl, a3⟩; have AX := Lib.hid (AX.out.trans a3); have AY := Lib.hid (AY.out.trans a3); clear a3 K0)
          | (refine (K1.out _ _ (OJ.out.adds AY.out) AX.out).mono ?_; rintro e w3 ⟨rfl, a3⟩; have AX := Lib.hid (AX.out.trans a3); have AY := Lib.hid (AY.out.trans a3); clear a3 K1)
          | (refine (K2.out _ _ (OJ.out.adds AY.out) AX.out).mono ?_; rintro e w3 ⟨rfl, a3⟩; have AX := Lib.hid (AX.out.trans a3); have AY := Lib.hid (AY.out.trans a3); clear a3 K2)
          | (refine (K3.out _ AX.out).mono ?_; rintro e w3 ⟨rfl, a3⟩; have AX := Lib.hid (AX.out.trans a3); have AY := Lib.hid (AY.out.trans a3); clear a3 K3)
          | (refine (K4.out _ AX.out).mono ?_; rintro e w3 ⟨rfl, a3⟩; have AX := Lib.hid (AX.out.trans a3); have AY := Lib.hid (AY.out.trans a3); clear a3 K4)
          | (refine (K5.out _ AX.out).mono ?_; rintro e w3 ⟨rfl, a3⟩; have AX := Lib.hid (AX.out.trans a3); have AY := Lib.hid (AY.out.trans a3); clear a3 K5))
      | (go_at_call 41; refine (stands_any _ _ jl kl _ (OJ.out.adds AY.out) OK.out (HHW.out _ AX.out)).mono ?_; rintro e w3 ⟨rfl, a3⟩; rw [HJS.out]; have AX := Lib.hid (AX.out.trans a3); clear a3 OK)
      | (go_at_call 37; refine (HT.out _ AX.out).mono ?_; rintro e w3 ⟨rfl, a3⟩; have AX := Lib.hid (AX.out.trans a3); clear a3))
    go_ret
    exact ⟨rfl, AX.out⟩
end Go.Proofs.YtcimppggemdidaaDoor
