/- slices.Grow of a slice that is none; slices.Concat: contracts. (genCat.py wrote this.) -/
import Derived.Test.YtbinmgpfkjmijaaGreatDoorEvShelf2
import Derived.Test.YtbinmgpfkjmijaaGreatDoorEvTx
namespace Go.Proofs.YtbinmgpfkjmijaaGreatDoor
open Go Go.RowKit Go.Shelf

/-- A row of the call's own is answered, and nothing else was turned. -/
def GivesQB (l : List UInt8) (w : World) (e : Ending) (w' : World) : Prop := ∃ v, e = .returned v ∧ OwnB w' w.heap.size v l ∧ Adds w w'
theorem bytes_below16 {n : Nat} {w w' : World} {v : Value} {l : List UInt8} (h : Bytes n w v l) (hb : Below n w w') : Bytes n w' v l := h.below hb
theorem growB_any (m : Nat) (hm : m ≤ 1000) (w : World) : Calls Tryz.prog 77 #[.slice none 0 0, .int .i64 m] w (GivesQB [] w) := by
  by_cases h0 : m = 0
  · subst h0
    refine (Any8.slices_Grow_room Tryz.laysGrowB none 0 0 0 w (by omega) (by omega) (by omega) (by omega)).mono ?_
    rintro e w' ⟨rfl, rfl⟩
    exact ⟨_, rfl, World.ownsRow_nil _ _ _ _, Adds.refl _⟩
  · obtain ⟨i0, hi, hz0, hz1, hz2⟩ := info_parts info8
    refine (Any8.slices_Grow_grow Tryz.laysGrowB i0 (.int .u8 0) hi hz0 (by rw [hz1]; decide) none 0 0 m [] w (by omega) (by omega) (by rw [hz2]; omega) (by omega) (by simp) (fun _ => rfl) (fun a e => by cases e)).mono ?_
    rintro e w' ⟨rfl, rfl⟩
    have hge := grownCap_ge w (0 + m) 0 (Tryz.laysGrowB_ren.t 25)
    have hcm : grownCap w (0 + m) 0 (Tryz.laysGrowB_ren.t 25) ≤ maxLen := grownCap_le_maxLen w (0 + m) 0 (Tryz.laysGrowB_ren.t 25) (by unfold maxLen; omega)
    refine ⟨_, rfl, ?_, Adds.trans (Adds.drew _) (Gr.new _ _).adds⟩
    unfold OwnB
    refine ⟨by simp,   .inr ⟨w.heap.size, _, _, rfl, Nat.le_refl _, heap_new w.drew _, Nat.zero_le _, hcm, ?_, by simp⟩⟩
    rw [Nat.zero_add] at hge hcm
    simp [size_zeroCells, Value.cells]
    omega
def flatB (L : List (Value × List UInt8)) : List UInt8 := L.flatMap (·.2)
theorem flatB_take {L : List (Value × List UInt8)} {k : Nat} {x : Value × List UInt8} (h : L[k]? = some x) : flatB (L.take (k + 1)) = flatB (L.take k) ++ x.2 := by
  obtain ⟨h1, rfl⟩ := List.getElem?_eq_some_iff.1 h
  unfold flatB
  rw [List.take_succ_eq_append_getElem h1, List.flatMap_append]
  simp
theorem flatB_len : ∀ (L : List (Value × List UInt8)) (k : Nat), (∀ x ∈ L, x.2.length ≤ 100) → (flatB (L.take k)).length ≤ 100 * k
  | [], k, _ => by simp [flatB]
  | x :: L, 0, _ => by simp [flatB]
  | x :: L, k + 1, h => by
    have h1 := flatB_len L k (fun y hy => h y (List.mem_cons_of_mem _ hy))
    have h2 := h x (List.mem_cons_self)
    have : flatB ((x :: L).take (k + 1)) = x.2 ++ flatB (L.take k) := rfl
    rw [this, List.length_append]
    omega
set_option maxRecDepth 100000 in
set_option maxHeartbeats 4000000 in
theorem concatB_any (L : List (Value × List UInt8)) (hL : L.length ≤ 4) (bk cap : Nat) (w : World) (hc : ∀ (i : Nat) x, L[i]? = some x → w.cell? ⟨bk, i, none⟩ = some x.1 ∧ Bytes w.heap.size w x.1 x.2 ∧ x.2.length ≤ 100) (hbk : bk < w.heap.size) (hcap : L.length ≤ cap) :
    Calls Tryz.prog 45 #[.slice (some ⟨bk, 0, none⟩) L.length cap] w (GivesQB (flatB L) w) := by
  have HC := Lib.hid hc
  have HLen := Lib.hid (fun k => flatB_len L k (fun x hx => by
    obtain ⟨i, hi, rfl⟩ := List.getElem_of_mem hx
    exact (hc i L[i] (List.getElem?_eq_getElem hi)).2.2))
  have HL := Lib.hid (And.intro hL hcap)
  have HGw := Lib.hid (fun m hm W => growB_any m hm W)
  clear hc hL hcap
  go_enter Tryz.func45, Tryz.ntmps45
  go_wp2_with fail
  go_loopw [3, 11] (fun s3 s11 wr => ∃ k : Nat, s11 = .int .i64 k ∧ s3 = .int .i64 ((flatB (L.take k)).length : Nat) ∧ k ≤ L.length ∧ wr = w) (fun _ s11 _ => L.length + 1 - (RowKit.intOf s11).toNat)
  case atStart => exact ⟨0, rfl, rfl, Nat.zero_le _, rfl⟩
  case round =>
    obtain ⟨k, rfl, rfl, hk, hw⟩ := hrel
    have hw2 := hw.symm
    subst hw2
    have hkI : (k : Int) ≤ 4 := by have := HL.out.1; omega
    by_cases hlt : k < L.length
    · have hltI : (k : Int) < (L.length : Int) := by omega
      obtain ⟨x, hxk⟩ : ∃ x, L[k]? = some x := ⟨L[k], List.getElem?_eq_getElem hlt⟩
      obtain ⟨h1, h2, h3⟩ := HC.out k x hxk
      have HTk := Lib.hid (flatB_take hxk)
      clear hxk
      have HLt := Lib.hid hlt
      have hb := HLen.out k
      have hn4 := HL.out.1
      obtain ⟨ao, cx, hx, hx1, hx2, hx3⟩ := h2
      rw [hx] at h1
      clear hx hx3
      obtain ⟨sx, hsx⟩ : ∃ n, x.2.length = n := ⟨_, rfl⟩
      obtain ⟨sk, hsk⟩ : ∃ n, (flatB (L.take k)).length = n := ⟨_, rfl⟩
      have HS := Lib.hid (show (flatB (L.take (k + 1))).length = sk + sx by rw [HTk.out, List.length_append, hsx, hsk])
      rw [hsx] at h1 h3 hx1
      rw [hsk] at hb ⊢
      have hsI : (sk : Int) + (sx : Int) ≤ 1000 := by omega
      have hs0 : ¬ ((sk : Int) + (sx : Int) < 0) := by omega
      clear hsx hsk hlt hk hb hn4
      go_wp2_with fail
      go_roundw
      case rel => exact ⟨k + 1, rfl, by rw [HS.out]; rfl, HLt.out, trivial⟩
      case measure => simp [RowKit.intOf]; have := HLt.out; omega
    · obtain rfl : k = L.length := by omega
      rw [List.take_length]
      obtain ⟨m, hm⟩ : ∃ m, (flatB L).length = m := ⟨_, rfl⟩
      have HM := Lib.hid (show m ≤ 1000 by have h := HLen.out L.length; rw [List.take_length] at h; have := HL.out.1; omega)
      rw [hm]
      clear hm hlt hk
      go_wp2_with (go_at_call 77; refine (HGw.out m HM.out _).mono ?_; rintro e w2 ⟨v0, rfl, h1, h2⟩; have HO0 := Lib.hid h1; have HA2 := Lib.hid h2; clear h1 h2)
      go_loopw [6, 27] (fun s6 s27 wr => ∃ k : Nat, s27 = .int .i64 k ∧ k ≤ L.length ∧ Hid (OwnB wr w.heap.size s6 (flatB (L.take k))) ∧ Hid (Adds w wr)) (fun _ s27 _ => L.length + 1 - (RowKit.intOf s27).toNat)
      case atStart => exact ⟨0, rfl, Nat.zero_le _, HO0, HA2⟩
      case round =>
        obtain ⟨k, rfl, hk, HO, HA⟩ := hrel
        have hkI : (k : Int) ≤ 4 := by have := HL.out.1; omega
        have hbr := Nat.lt_of_lt_of_le hbk HA.out.size
        by_cases hlt : k < L.length
        · have hltI : (k : Int) < (L.length : Int) := by omega
          obtain ⟨x, hxk⟩ : ∃ x, L[k]? = some x := ⟨L[k], List.getElem?_eq_getElem hlt⟩
          obtain ⟨h1, h2, h3⟩ := HC.out k x hxk
          have c1 : wr.cell? ⟨bk, k, none⟩ = some x.1 := (HA.out.cell (World.block_lt_of_cell? w _ h1)).trans h1
          have HV := Lib.hid (bytes_below16 h2 HA.out)
          have HTk := Lib.hid (flatB_take hxk)
          clear hxk
          have HLt := Lib.hid hlt
          have HB := Lib.hid (show (flatB (L.take k)).length + x.2.length ≤ 1000 by have := HLen.out k; have := HL.out.1; omega)
          obtain ⟨vk, hvk⟩ : ∃ v, x.1 = v := ⟨_, rfl⟩
          rw [hvk] at c1 HV
          clear hvk h1 h2 h3 hlt hk
          go_wp2_with (at_builtin; refine wp_append_bytes rfl _ _ rfl w.heap.size u6 _ rfl HO.out vk _ _ rfl HV.out (by have := HB.out; omega) HA.out.size ?_; intro v8 w8 o8 b8; have O8 := Lib.hid o8; have B8 := Lib.hid b8; clear o8 b8)
          go_roundw
          case rel => exact ⟨k + 1, rfl, HLt.out, Lib.hid (by rw [HTk.out]; exact O8.out), Lib.hid (Below.trans HA.out B8.out)⟩
          case measure => simp [RowKit.intOf]; have := HLt.out; omega
        · obtain rfl : k = L.length := by omega
          have HOe := Lib.hid (show OwnB wr w.heap.size u6 (flatB L) by have := HO.out; rwa [List.take_length] at this)
          clear HO hlt hk
          go_wp2_with fail
          go_ret
          exact ⟨_, rfl, HOe.out, HA.out⟩
/-- A row of the call's own is answered, and nothing else was turned. -/
def GivesQT (l : List (List UInt8)) (w : World) (e : Ending) (w' : World) : Prop := ∃ v, e = .returned v ∧ OwnT w' w.heap.size v l ∧ Adds w w'
theorem growT_any (m : Nat) (hm : m ≤ 1000) (w : World) : Calls Tryz.prog 65 #[.slice none 0 0, .int .i64 m] w (GivesQT [] w) := by
  by_cases h0 : m = 0
  · subst h0
    refine (Any8.slices_Grow_room Tryz.laysGrowT none 0 0 0 w (by omega) (by omega) (by omega) (by omega)).mono ?_
    rintro e w' ⟨rfl, rfl⟩
    exact ⟨_, rfl, World.ownsRow_nil _ _ _ _, Adds.refl _⟩
  · obtain ⟨i0, hi, hz0, hz1, hz2⟩ := info_parts info_str
    refine (Any8.slices_Grow_grow Tryz.laysGrowT i0 (.string ByteArray.empty) hi hz0 (by rw [hz1]; decide) none 0 0 m [] w (by omega) (by omega) (by rw [hz2]; omega) (by omega) (by simp) (fun _ => rfl) (fun a e => by cases e)).mono ?_
    rintro e w' ⟨rfl, rfl⟩
    have hge := grownCap_ge w (0 + m) 0 (Tryz.laysGrowT_ren.t 25)
    have hcm : grownCap w (0 + m) 0 (Tryz.laysGrowT_ren.t 25) ≤ maxLen := grownCap_le_maxLen w (0 + m) 0 (Tryz.laysGrowT_ren.t 25) (by unfold maxLen; omega)
    refine ⟨_, rfl, ?_, Adds.trans (Adds.drew _) (Gr.new _ _).adds⟩
    unfold OwnT
    refine ⟨by simp,   .inr ⟨w.heap.size, _, _, rfl, Nat.le_refl _, heap_new w.drew _, Nat.zero_le _, hcm, ?_, by simp⟩⟩
    rw [Nat.zero_add] at hge hcm
    simp [size_zeroCells, Value.cells]
    omega
def flatT (L : List (Value × List (List UInt8))) : List (List UInt8) := L.flatMap (·.2)
theorem flatT_take {L : List (Value × List (List UInt8))} {k : Nat} {x : Value × List (List UInt8)} (h : L[k]? = some x) : flatT (L.take (k + 1)) = flatT (L.take k) ++ x.2 := by
  obtain ⟨h1, rfl⟩ := List.getElem?_eq_some_iff.1 h
  unfold flatT
  rw [List.take_succ_eq_append_getElem h1, List.flatMap_append]
  simp
theorem flatT_len : ∀ (L : List (Value × List (List UInt8))) (k : Nat), (∀ x ∈ L, x.2.length ≤ 100) → (flatT (L.take k)).length ≤ 100 * k
  | [], k, _ => by simp [flatT]
  | x :: L, 0, _ => by simp [flatT]
  | x :: L, k + 1, h => by
    have h1 := flatT_len L k (fun y hy => h y (List.mem_cons_of_mem _ hy))
    have h2 := h x (List.mem_cons_self)
    have : flatT ((x :: L).take (k + 1)) = x.2 ++ flatT (L.take k) := rfl
    rw [this, List.length_append]
    omega
set_option maxRecDepth 100000 in
set_option maxHeartbeats 4000000 in
theorem concatT_any (L : List (Value × List (List UInt8))) (hL : L.length ≤ 4) (bk cap : Nat) (w : World) (hc : ∀ (i : Nat) x, L[i]? = some x → w.cell? ⟨bk, i, none⟩ = some x.1 ∧ TxtS w.heap.size w x.1 x.2 ∧ x.2.length ≤ 100) (hbk : bk < w.heap.size) (hcap : L.length ≤ cap) :
    Calls Tryz.prog 33 #[.slice (some ⟨bk, 0, none⟩) L.length cap] w (GivesQT (flatT L) w) := by
  have HC := Lib.hid hc
  have HLen := Lib.hid (fun k => flatT_len L k (fun x hx => by
    obtain ⟨i, hi, rfl⟩ := List.getElem_of_mem hx
    exact (hc i L[i] (List.getElem?_eq_getElem hi)).2.2))
  have HL := Lib.hid (And.intro hL hcap)
  have HGw := Lib.hid (fun m hm W => growT_any m hm W)
  clear hc hL hcap
  go_enter Tryz.func33, Tryz.ntmps33
  go_wp2_with fail
  go_loopw [3, 11] (fun s3 s11 wr => ∃ k : Nat, s11 = .int .i64 k ∧ s3 = .int .i64 ((flatT (L.take k)).length : Nat) ∧ k ≤ L.length ∧ wr = w) (fun _ s11 _ => L.length + 1 - (RowKit.intOf s11).toNat)
  case atStart => exact ⟨0, rfl, rfl, Nat.zero_le _, rfl⟩
  case round =>
    obtain ⟨k, rfl, rfl, hk, hw⟩ := hrel
    have hw2 := hw.symm
    subst hw2
    have hkI : (k : Int) ≤ 4 := by have := HL.out.1; omega
    by_cases hlt : k < L.length
    · have hltI : (k : Int) < (L.length : Int) := by omega
      obtain ⟨x, hxk⟩ : ∃ x, L[k]? = some x := ⟨L[k], List.getElem?_eq_getElem hlt⟩
      obtain ⟨h1, h2, h3⟩ := HC.out k x hxk
      have HTk := Lib.hid (flatT_take hxk)
      clear hxk
      have HLt := Lib.hid hlt
      have hb := HLen.out k
      have hn4 := HL.out.1
      obtain ⟨ao, cx, hx, hx1, hx2, hx3⟩ := h2
      rw [hx] at h1
      clear hx hx3
      obtain ⟨sx, hsx⟩ : ∃ n, x.2.length = n := ⟨_, rfl⟩
      obtain ⟨sk, hsk⟩ : ∃ n, (flatT (L.take k)).length = n := ⟨_, rfl⟩
      have HS := Lib.hid (show (flatT (L.take (k + 1))).length = sk + sx by rw [HTk.out, List.length_append, hsx, hsk])
      rw [hsx] at h1 h3 hx1
      rw [hsk] at hb ⊢
      have hsI : (sk : Int) + (sx : Int) ≤ 1000 := by omega
      have hs0 : ¬ ((sk : Int) + (sx : Int) < 0) := by omega
      clear hsx hsk hlt hk hb hn4
      go_wp2_with fail
      go_roundw
      case rel => exact ⟨k + 1, rfl, by rw [HS.out]; rfl, HLt.out, trivial⟩
      case measure => simp [RowKit.intOf]; have := HLt.out; omega
    · obtain rfl : k = L.length := by omega
      rw [List.take_length]
      obtain ⟨m, hm⟩ : ∃ m, (flatT L).length = m := ⟨_, rfl⟩
      have HM := Lib.hid (show m ≤ 1000 by have h := HLen.out L.length; rw [List.take_length] at h; have := HL.out.1; omega)
      rw [hm]
      clear hm hlt hk
      go_wp2_with (go_at_call 65; refine (HGw.out m HM.out _).mono ?_; rintro e w2 ⟨v0, rfl, h1, h2⟩; have HO0 := Lib.hid h1; have HA2 := Lib.hid h2; clear h1 h2)
      go_loopw [6, 27] (fun s6 s27 wr => ∃ k : Nat, s27 = .int .i64 k ∧ k ≤ L.length ∧ Hid (OwnT wr w.heap.size s6 (flatT (L.take k))) ∧ Hid (Adds w wr)) (fun _ s27 _ => L.length + 1 - (RowKit.intOf s27).toNat)
      case atStart => exact ⟨0, rfl, Nat.zero_le _, HO0, HA2⟩
      case round =>
        obtain ⟨k, rfl, hk, HO, HA⟩ := hrel
        have hkI : (k : Int) ≤ 4 := by have := HL.out.1; omega
        have hbr := Nat.lt_of_lt_of_le hbk HA.out.size
        by_cases hlt : k < L.length
        · have hltI : (k : Int) < (L.length : Int) := by omega
          obtain ⟨x, hxk⟩ : ∃ x, L[k]? = some x := ⟨L[k], List.getElem?_eq_getElem hlt⟩
          obtain ⟨h1, h2, h3⟩ := HC.out k x hxk
          have c1 : wr.cell? ⟨bk, k, none⟩ = some x.1 := (HA.out.cell (World.block_lt_of_cell? w _ h1)).trans h1
          have HV := Lib.hid (h2.below HA.out (Nat.le_refl _))
          have HTk := Lib.hid (flatT_take hxk)
          clear hxk
          have HLt := Lib.hid hlt
          have HB := Lib.hid (show (flatT (L.take k)).length + x.2.length ≤ 1000 by have := HLen.out k; have := HL.out.1; omega)
          obtain ⟨vk, hvk⟩ : ∃ v, x.1 = v := ⟨_, rfl⟩
          rw [hvk] at c1 HV
          clear hvk h1 h2 h3 hlt hk
          go_wp2_with (at_builtin; refine wp_append_tx rfl _ _ rfl w.heap.size _ u6 _ rfl HO.out vk _ rfl HV.out (by have := HB.out; omega) HA.out.size ?_; intro v8 w8 o8 b8; have O8 := Lib.hid o8; have B8 := Lib.hid (HO.out.turned b8 (Nat.le_refl _) HA.out.size); clear o8 b8)
          go_roundw
          case rel => exact ⟨k + 1, rfl, HLt.out, Lib.hid (by rw [HTk.out]; exact O8.out), Lib.hid (Below.trans HA.out B8.out)⟩
          case measure => simp [RowKit.intOf]; have := HLt.out; omega
        · obtain rfl : k = L.length := by omega
          have HOe := Lib.hid (show OwnT wr w.heap.size u6 (flatT L) by have := HO.out; rwa [List.take_length] at this)
          clear HO hlt hk
          go_wp2_with fail
          go_ret
          exact ⟨_, rfl, HOe.out, HA.out⟩
end Go.Proofs.YtbinmgpfkjmijaaGreatDoor
