/- A vector under way: reach and raise; what raising clock by clock comes to. -/
import Derived.RangeFuncBox
import Derived.OneCell
import Derived.Test.YtcimppggemdidaaDoorVApp
import Derived.Test.YtcimppggemdidaaDoorVF1
import Derived.Test.YtcimppggemdidaaDoorTurn
namespace Go.Proofs.YtcimppggemdidaaDoor
open Go Go.RowKit

abbrev gT : TypeId := 110
theorem OwnW.isSlice {w : World} {base : Nat} {v : Value} {l : List UInt64} (h : OwnW w base v l) : ∃ ao cap, v = .slice ao l.length cap := by
  obtain ⟨ao, cap, e, _⟩ := h.words
  exact ⟨ao, cap, e⟩
theorem OwnW.apart {w : World} {base bg : Nat} {v x : Value} {l : List UInt64} (h : OwnW w base v l) (hx : Boxed w bg gT x) : some bg ≠ v.ownBlock := hx.not_row (e := 26) (by decide) h
theorem OwnW.setOther {w : World} {base bg : Nat} {v x : Value} {l : List UInt64} (h : OwnW w base v l) (hx : Boxed w bg gT x) (u : Value) : OwnW (w.setCell ⟨bg, 0, none⟩ u) base v l :=
  ownsRow_setCell_other h (fun e => h.apart hx e.symm) _
theorem OwnW.cellAt {w : World} {base g n cap : Nat} {l : List UInt64} (h : OwnW w base (.slice (some ⟨g, 0, none⟩) n cap) l) (i : Nat) (hi : i < l.length) : ∃ y : Int, w.cell? ⟨g, i, none⟩ = some (.int .u64 y) := by
  have := World.ownsRow.cells h (g := g) rfl i (wordV (gD l i)) (by simp [gD, hi])
  have e : (⟨g, 0, none⟩ : Addr).add i = ⟨g, i, none⟩ := by unfold Addr.add; split <;> simp_all
  rw [e] at this
  exact ⟨_, this⟩
/-- A clock of an own row is written. -/
theorem OwnW.set {w : World} {base g cap : Nat} {l : List UInt64} (h : OwnW w base (.slice (some ⟨g, 0, none⟩) l.length cap) l) (i : Nat) (x : UInt64) : OwnW (w.setCell ⟨g, i, none⟩ (wordV x)) base (.slice (some ⟨g, 0, none⟩) l.length cap) (l.set i x) := by
  obtain ⟨h1, h2⟩ := h
  rcases h2 with ⟨e, _⟩ | ⟨g', cap', cur, e, hb, hg, hn, hm, hs, ht⟩
  · cases e
  · cases e
    refine ⟨by simp, .inr ⟨g, cap, cur.setIfInBounds i (wordV x), by simp, hb, ?_, by simpa using hn, hm, by simpa using hs, ?_⟩⟩
    · simp only [World.setCell, Array.getElem?_modify, hg]
      simp
    · have : (cur.setIfInBounds i (wordV x)).toList = cur.toList.set i (wordV x) := by simp
      rw [this, List.take_set, List.length_set, ht, List.map_set]

/-- What raising one clock leaves. -/
def vRaise (l : List UInt64) (x : Nat) (c : UInt64) : List UInt64 := if c ≤ gD l x then l else (vReach (x + 1) l).set x c

def ReachPost (base bg n : Nat) (v : Value) (l : List UInt64) (w : World) (e : Ending) (w' : World) : Prop :=
  (∃ u, e = .returned u) ∧ ∃ v', Boxed w' bg gT v' ∧ OwnW w' base v' (vReach n l) ∧ Below base w w' ∧ (n ≤ l.length → w' = w ∧ v' = v) ∧ ∀ k, k < w.heap.size → k ≠ bg → some k ≠ v.ownBlock → w'.heap[k]? = w.heap[k]?

set_option maxHeartbeats 1000000 in
theorem reach_any (base bg n : Nat) (v : Value) (l : List UInt64) (w : World) (hx : Boxed w bg gT v) (ho : OwnW w base v l) (hb : base ≤ bg) (hn : n ≤ 500000) (hl : l.length ≤ 500000) :
    Calls Tryd.prog 101 #[.pointer (some ⟨bg, 0, none⟩), .int .i64 n] w (ReachPost base bg n v l w) := by
  obtain ⟨ao, cap, rfl⟩ := ho.isSlice
  have HX := Lib.hid hx
  have HO := Lib.hid ho; clear ho
  have c0 := hx.cell
  have f0 := hx.frozen
  clear hx
  by_cases hle : n ≤ l.length
  · have hr : vReach n l = l := by unfold vReach; rw [Nat.sub_eq_zero_of_le hle]; simp
    have hi : ¬ (0 < (n : Int) - (l.length : Int)) := by omega
    go_enter Tryd.func101, Tryd.ntmps101
    go_wp2
    go_end0
    exact ⟨⟨_, rfl⟩, _, HX.out, by rw [hr]; exact HO.out, Below.refl _ _, fun _ => ⟨rfl, rfl⟩, fun _ _ _ _ => rfl⟩
  · obtain ⟨k, hk⟩ : ∃ k, n = l.length + k := ⟨n - l.length, by omega⟩
    have hr : vReach n l = l ++ List.replicate k 0 := by unfold vReach; rw [hk, Nat.add_sub_cancel_left]
    rw [show (n : Int) = (l.length : Int) + (k : Int) by omega]
    have hi : (l.length : Int) + (k : Int) - (l.length : Int) = (k : Int) := by omega
    have hk0 : (0 : Int) < (k : Int) := by omega
    have HK := Lib.hid (show 0 < k ∧ l.length + k ≤ 1000000 by omega)
    have HN := Lib.hid hle
    have hk1 : (k : Int) ≤ 500000 := by omega
    have HB := Lib.hid (show base ≤ w.heap.size from Nat.le_trans hb (Nat.le_of_lt HX.out.lt))
    clear hk hle hn
    go_enter Tryd.func101, Tryd.ntmps101
    go_wp2_with (at_builtin; refine wp_append_zw rfl (.tmp 18) (.tmp 19) 102 3 rfl .i64 .i64 Tryd.underlying102 Tryd.underlying3 base _ l rfl (by exact HO.out) k rfl HK.out.1 HK.out.2 HB.out ?_; intro v' w' o1 g1; obtain ⟨ao1, cap1, rfl⟩ := o1.isSlice; have O1 := Lib.hid o1; clear o1; have G1 := Lib.hid g1; clear g1; have hx1 := HX.out.kept G1.out (HO.out.apart HX.out); have c1 := hx1.cell; have f1 := hx1.frozen; have HX1 := Lib.hid hx1; clear hx1)
    go_end0
    have ho2 := O1.out.setOther HX1.out (.slice ao1 (l ++ List.replicate k 0).length cap1)
    rw [List.length_append, List.length_replicate] at ho2
    refine ⟨⟨_, rfl⟩, _, HX1.out.set _, by rw [hr]; exact ho2, ?_, fun h => absurd h HN.out, fun k hk h1 h2 => (Below.heap_setCell _ _ _ k h1).trans (G1.out.block k hk h2)⟩
    exact ((Below.refl base w).grown G1.out HB.out fun j hj => (World.ownsRow.lt HO.out j hj.symm.symm).1).setCell (p := ⟨bg, 0, none⟩) hb _

def RaisePost (base bg x : Nat) (v : Value) (l : List UInt64) (c : UInt64) (w : World) (e : Ending) (w' : World) : Prop :=
  e = .returned (.pointer (some ⟨bg, 0, none⟩)) ∧ ∃ v', Boxed w' bg gT v' ∧ OwnW w' base v' (vRaise l x c) ∧ Below base w w' ∧ (x < l.length → v' = v ∧ w.grownBy w' v.ownBlock)
theorem OwnW.form' {w : World} {base : Nat} {v : Value} {l : List UInt64} (h : OwnW w base v l) (hl : l ≠ []) : ∃ g cap, v = .slice (some ⟨g, 0, none⟩) l.length cap ∧ base ≤ g ∧ w.frozen? ⟨g, 0, none⟩ = false ∧ ∀ i, w.frozen? ⟨g, i, none⟩ = false := by
  rcases h.2 with ⟨rfl, h2⟩ | ⟨g, cap, cur, rfl, hb, hg, _⟩
  · exact absurd (List.eq_nil_of_length_eq_zero h2) hl
  · exact ⟨g, cap, rfl, hb, by simp [World.frozen?, hg], fun i => by simp [World.frozen?, hg]⟩

set_option maxHeartbeats 1000000 in
theorem raise_any (base bg x : Nat) (v : Value) (l : List UInt64) (c : UInt64) (w : World) (hx : Boxed w bg gT v) (ho : OwnW w base v l) (hb : base ≤ bg) (hn : x < 500000) (hl : l.length ≤ 500000) :
    Calls Tryd.prog 71 #[.pointer (some ⟨bg, 0, none⟩), .int .i64 x, .int .u64 (c.toNat : Nat)] w (RaisePost base bg x v l c w) := by
  have HR := Lib.hid (fun W (h1 : Boxed W bg gT v) (h2 : OwnW W base v l) => reach_any base bg (x + 1) v l W h1 h2 hb (by omega) hl)
  have HC := Lib.hid (fun z (hz : decide (c.toNat ≤ gI l x) = z) => covers_any v l x c.toNat z hz w ho.words)
  obtain ⟨ao, cap, rfl⟩ := ho.isSlice
  have HX := Lib.hid hx
  have HO := Lib.hid ho; clear ho
  have c0 := hx.cell
  clear hx
  have hdec : decide (c.toNat ≤ gI l x) = decide (c ≤ gD l x) := by rw [gI_nat, decide_eq_decide]; exact UInt64.le_iff_toNat_le.symm
  by_cases hle : c ≤ gD l x
  · have hr : vRaise l x c = l := if_pos hle
    have HC1 := Lib.hid (HC.out true (by rw [hdec]; exact decide_eq_true hle))
    clear HC HR hdec
    go_enter Tryd.func71, Tryd.ntmps71
    go_wp2_with (go_at_call 66; refine HC1.out.mono ?_; rintro e w' ⟨rfl, rfl⟩)
    go_ret
    exact ⟨rfl, _, HX.out, by rw [hr]; exact HO.out, Below.refl _ _, fun _ => ⟨rfl, ⟨rfl, rfl, rfl, Nat.le_refl _, fun _ _ _ => rfl⟩⟩⟩
  · have hr : vRaise l x c = (vReach (x + 1) l).set x c := if_neg hle
    have HC1 := Lib.hid (HC.out false (by rw [hdec]; exact decide_eq_false hle))
    have HH := Lib.hid (HR.out w HX.out HO.out)
    have hx1 : ((x : Int) + 1) = ((x + 1 : Nat) : Int) := by omega
    have hx2 : (x : Int) < 500000 := by omega
    have HLE := Lib.hid hle; clear hle
    clear HC HR hdec
    obtain ⟨y, hy⟩ : ∃ y : Int, ((c.toNat : Nat) : Int) = y := ⟨_, rfl⟩
    rw [hy] at HC1 ⊢
    have HY := Lib.hid hy; clear hy
    obtain ⟨X, hX⟩ : ∃ X : Nat, x + 1 = X := ⟨_, rfl⟩
    rw [hX] at HH hx1
    have HXX := Lib.hid hX; clear hX
    go_enter Tryd.func71, Tryd.ntmps71
    obtain ⟨L, hL⟩ : ∃ L, vReach X l = L := ⟨_, rfl⟩
    unfold ReachPost at HH
    rw [hL] at HH
    have hlx : x < L.length := by rw [← hL, reach_length]; have := HXX.out; omega
    have HL := Lib.hid hL; clear hL
    have HLX := Lib.hid hlx; clear hlx
    have HRR := Lib.hid hr; clear hr
    go_wp2_with (go_at_call 66; refine HC1.out.mono ?_; rintro e w' ⟨rfl, rfl⟩)
    refine HH.out.mono ?_; rintro e w1 ⟨⟨u, rfl⟩, v1, x1, o1, b1, s1, _⟩; obtain ⟨g1, cap1, rfl, hb1, _, hf1⟩ := o1.form' (fun h => by have := HLX.out; rw [h] at this; simp at this); have c1 := x1.cell; have fx := hf1 x; have X1 := Lib.hid x1; have O1 := Lib.hid o1; have S1 := Lib.hid s1; have B1 := Lib.hid b1; have hlx := HLX.out; clear x1 o1 s1 b1 hf1 hx1 c0
    dsimp only
    clear hx2
    obtain ⟨yo, hyo⟩ := O1.out.cellAt x hlx
    go_wp2
    go_ret
    have ho2 := O1.out.set x c
    have hap := O1.out.apart X1.out
    have hg1 : g1 ≠ bg := fun e => hap (by simp [Value.ownBlock, e])
    have e8 : Value.int .u64 y = wordV c := by unfold wordV; rw [HY.out]
    rw [e8]
    have hbx : Boxed (w1.setCell ⟨g1, x, none⟩ (wordV c)) bg gT (.slice (some ⟨g1, 0, none⟩) L.length cap1) := by
      unfold Boxed at *
      rw [Below.heap_setCell w1 _ _ _ (by show bg ≠ g1; omega)]
      exact X1.out
    refine ⟨rfl, _, hbx, by rw [HRR.out, HXX.out, HL.out]; exact ho2, (B1.out.setCell (p := ⟨g1, x, none⟩) hb1 _), fun hlt => ?_⟩
    obtain ⟨rfl, h2⟩ := S1.out (by have := HXX.out; omega)
    refine ⟨h2, ?_⟩
    rw [← h2]
    exact ⟨rfl, rfl, rfl, by simp [World.setCell], fun k _ hk => Below.heap_setCell w1 _ _ _ (fun e => hk (by simp [Value.ownBlock, e]))⟩

theorem gD_set {l : List UInt64} {x : Nat} (hx : x < l.length) (c : UInt64) (k : Nat) : gD (l.set x c) k = if k = x then c else gD l k := by
  unfold gD
  simp only [List.getD_eq_getElem?_getD, List.getElem?_set]
  by_cases h : x = k
  · subst h; simp [hx]
  · rw [if_neg h, if_neg (fun e => h e.symm)]
theorem vRaise_length {l : List UInt64} {x : Nat} (hx : x < l.length) (c : UInt64) : (vRaise l x c).length = l.length := by
  unfold vRaise
  split
  · rfl
  · rw [List.length_set, reach_length]; omega
theorem gD_vRaise {l : List UInt64} {x : Nat} (hx : x < l.length) (c : UInt64) (k : Nat) : gD (vRaise l x c) k = if k = x then mx (gD l x) c else gD l k := by
  unfold vRaise
  by_cases h : c ≤ gD l x
  · rw [if_pos h]
    by_cases hk : k = x
    · subst hk
      rw [if_pos rfl]
      unfold mx
      by_cases h2 : gD l k ≤ c
      · rw [if_pos h2]
        exact UInt64.toNat_inj.1 (Nat.le_antisymm (UInt64.le_iff_toNat_le.1 h2) (UInt64.le_iff_toNat_le.1 h))
      · rw [if_neg h2]
    · rw [if_neg hk]
  · rw [if_neg h, gD_set (by rw [reach_length]; omega)]
    by_cases hk : k = x
    · subst hk
      rw [if_pos rfl, if_pos rfl]
      unfold mx
      rw [if_pos (UInt64.le_iff_toNat_le.2 (by have h3 : ¬ (c.toNat ≤ (gD l k).toNat) := fun h' => h (UInt64.le_iff_toNat_le.2 h'); omega))]
    · rw [if_neg hk, if_neg hk, gD_reach]
/-- The clocks of c, one by one, raised in s. -/
def rz (c : List UInt64) (s : List UInt64) (pre : List Nat) : List UInt64 := pre.foldl (fun s i => vRaise s i (gD c i)) s
theorem rz_snoc (c s : List UInt64) (pre : List Nat) (x : Nat) : rz c s (pre ++ [x]) = vRaise (rz c s pre) x (gD c x) := by simp [rz]
theorem nz_lt {c : List UInt64} {x : Nat} (h : gD c x ≠ 0) : x < tN c := by
  rcases Nat.lt_or_ge x (tN c) with h1 | h1
  · exact h1
  · exact absurd (tN_ge c x h1) h
theorem rz_at (c s : List UInt64) (hs : tN c ≤ s.length) : ∀ i, (rz c s (nzT c i)).length = s.length ∧ ∀ k, gD (rz c s (nzT c i)) k = if k < i then mx (gD s k) (gD c k) else gD s k
  | 0 => ⟨rfl, fun k => rfl⟩
  | i + 1 => by
    obtain ⟨h1, h2⟩ := rz_at c s hs i
    by_cases h : gD c i = 0
    · rw [nzT_no h]
      refine ⟨h1, fun k => ?_⟩
      rw [h2]
      by_cases hk : k < i
      · rw [if_pos hk, if_pos (by omega)]
      · rw [if_neg hk]
        by_cases hk2 : k = i
        · subst hk2; rw [if_pos (by omega), h, mx_zero]
        · rw [if_neg (by omega)]
    · have hi : i < (rz c s (nzT c i)).length := by rw [h1]; have := nz_lt h; omega
      rw [nzT_yes h, rz_snoc]
      refine ⟨by rw [vRaise_length hi, h1], fun k => ?_⟩
      rw [gD_vRaise hi, h2, h2]
      by_cases hk : k = i
      · subst hk; rw [if_pos rfl, if_neg (by omega), if_pos (by omega)]
      · rw [if_neg hk]
        by_cases hk2 : k < i
        · rw [if_pos hk2, if_pos (by omega)]
        · rw [if_neg hk2, if_neg (by omega)]
theorem rz_all (c s : List UInt64) : rz c (vReach (tN c) s) (nzT c c.length) = vTake s c := by
  obtain ⟨h1, h2⟩ := rz_at c (vReach (tN c) s) (by rw [reach_length]; omega) c.length
  refine ext_gD ?_ fun k => ?_
  · rw [h1, reach_length, vTake_length]; omega
  · rw [h2, gD_vTake, gD_reach]
    by_cases hk : k < c.length
    · rw [if_pos hk]
    · rw [if_neg hk, gD_ge (l := c) (by omega), mx_zero]
end Go.Proofs.YtcimppggemdidaaDoor
