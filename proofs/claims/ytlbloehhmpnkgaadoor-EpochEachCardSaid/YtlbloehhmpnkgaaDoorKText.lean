/- Contracts of package epoch: a line under way, Text. -/
import Derived.Test.YtlbloehhmpnkgaaDoorKFmt
import Derived.Test.YtlbloehhmpnkgaaDoorKF2
import Derived.Test.YtlbloehhmpnkgaaDoorApp
import Derived.Lib.AppendStr
import Derived.OneCell
namespace Go.Proofs.YtlbloehhmpnkgaaDoor
open Go Go.RowKit

/-- A line under way, in a variable of its own; its bytes lie in blocks behind it. -/
def LineAt (lb : Nat) (w : World) (l : List UInt8) : Prop := ∃ v, w.cell? ⟨lb, 0, none⟩ = some v ∧ w.frozen? ⟨lb, 0, none⟩ = false ∧ OwnB w (lb + 1) v l ∧ lb < w.heap.size
def LinePost (lb : Nat) (l : List UInt8) (w : World) (e : Ending) (w' : World) : Prop := e = .returned (.tuple #[]) ∧ LineAt lb w' l ∧ Below lb w w'

theorem line_set {lb : Nat} {w w1 : World} {v v1 : Value} {l : List UInt8} (hc : w.cell? ⟨lb, 0, none⟩ = some v) (hf : w.frozen? ⟨lb, 0, none⟩ = false) (hb : Below (lb + 1) w w1) (hl : lb < w.heap.size) (ho : OwnB w1 (lb + 1) v1 l) :
    LineAt lb (w1.setCell ⟨lb, 0, none⟩ v1) l ∧ Below lb w (w1.setCell ⟨lb, 0, none⟩ v1) ∧ w1.cell? ⟨lb, 0, none⟩ = some v ∧ w1.frozen? ⟨lb, 0, none⟩ = false := by
  have h1 : w1.cell? ⟨lb, 0, none⟩ = some v := (hb.cell (p := ⟨lb, 0, none⟩) (by simp)).trans hc
  have h2 : w1.frozen? ⟨lb, 0, none⟩ = false := (hb.frozen (p := ⟨lb, 0, none⟩) (by simp)).trans hf
  refine ⟨⟨v1, ?_, ?_, ?_, ?_⟩, (hb.mono (by omega)).setCell (by simp) _, h1, h2⟩
  · exact World.cell?_setCell_same _ _ _ h1
  · rw [World.frozen?_setCell]; exact h2
  · exact ownsRow_setCell_below ho (by simp) _
  · have := hb.size; simp; omega

theorem own_slice {w : World} {B : Nat} {v : Value} {l : List UInt8} (h : OwnB w B v l) : ∃ ao k cap, v = .slice ao k cap := by
  obtain ⟨ao, cap, rfl, _⟩ := h.bytes
  exact ⟨_, _, _, rfl⟩

set_option maxHeartbeats 1000000 in
theorem number_first (lb n : Nat) (hn : n < 18446744073709551616) (w : World) (hl : LineAt lb w []) (ht : Lib.TabBelow Tryd.prog lb w "internal/strconv.uint64pow10" .u64 Lib.pow10Tab) :
    Calls Tryd.prog 60 #[.pointer (some ⟨lb, 0, none⟩), .int .u64 n] w (LinePost lb (Lib.decDigits n) w) := by
  obtain ⟨v, hc, hf, ho, hlb⟩ := hl
  obtain ⟨ao, cap, rfl, h1, h2, h3⟩ := ho.bytes
  clear h1 h2 h3
  have HA := Lib.hid (appU_any (lb + 1) n hn _ [] w ho (by omega) (by simp) ht.here)
  have HS := Lib.hid (fun v1 w1 (hb : Below (lb + 1) w w1) (ho1 : OwnB w1 (lb + 1) v1 ([] ++ Lib.decDigits n)) => line_set hc hf hb hlb ho1)
  clear ho ht hf
  go_enter Tryd.func60, Tryd.ntmps60
  go_wp2_with (go_at_call 81; refine HA.out.mono ?_; rintro e w1 ⟨v1, rfl, ho1, hb1, _⟩; obtain ⟨ao1, k1, cap1, rfl⟩ := own_slice ho1; have HS1 := Lib.hid (HS.out _ w1 hb1 ho1); have hc1 := HS1.out.2.2.1; have hf1 := HS1.out.2.2.2; clear ho1 hb1)
  go_end0
  exact ⟨rfl, HS1.out.1, HS1.out.2.1⟩

theorem strCells_at : Lib.strCells ⟨#[64]⟩ = [byteV 64] := by rfl
theorem size_at : (⟨#[64]⟩ : ByteArray).size = 1 := rfl

theorem wp_app_at {w : World} {ops : Array Oper} {rest : List Oper} {o : Oper} {a : Act} {Q : Exit → Act → World → Prop} (hgd : o.guard = none) (sl x : Operand)
    (ho : o.op = .call { callee := .builtin .append, args := #[sl, x], argTypes := #[99, 9] }) (base : Nat) (v : Value) (l : List UInt8) (hs : a.eval sl = v) (hown : OwnB w base v l)
    (hx : a.eval x = .string ⟨#[64]⟩) (hlen : l.length ≤ 1000) (hbase : base ≤ w.heap.size)
    (h : ∀ v' w', OwnB w' base v' (l ++ [64]) → Below base w w' → wpList Tryd.prog ops Q rest (a.put o.dst v') w') : wpList Tryd.prog ops Q (o :: rest) a w := by
  obtain ⟨i0, hi, hz0, hz1, hz2⟩ := info_parts info8
  refine Lib.wpList_append_own_string w hgd sl x 99 9 ho base 5 i0 Tryd.underlying99 Tryd.underlying9 hi hz0 hz1 hz2 v l.length (l.map byteV) hs hown ⟨#[64]⟩ hx (by rw [size_at]; unfold maxLen; omega) (by rw [size_at]; omega) hbase fun v' w' h1 h2 _ => h v' w' ?_ ?_
  · unfold OwnB; rw [List.length_append, List.map_append]; rw [strCells_at] at h1; exact h1
  · exact (Below.refl base w).grown h2 hbase fun k hk => (hown.lt k hk.symm.symm).1

set_option maxHeartbeats 2000000 in
theorem number_next (lb n : Nat) (hn : n < 18446744073709551616) (l : List UInt8) (hne : l ≠ []) (hlen : l.length ≤ 1000) (w : World) (hl : LineAt lb w l) (ht : Lib.TabBelow Tryd.prog lb w "internal/strconv.uint64pow10" .u64 Lib.pow10Tab) :
    Calls Tryd.prog 60 #[.pointer (some ⟨lb, 0, none⟩), .int .u64 n] w (LinePost lb (l ++ 64 :: Lib.decDigits n) w) := by
  obtain ⟨v, hc, hf, ho, hlb⟩ := hl
  obtain ⟨ao, cap, rfl, h1, h2, h3⟩ := ho.bytes
  clear h1 h2 h3
  have hpos : 0 < (l.length : Int) := by have := List.length_pos_iff.2 hne; omega
  have HS := Lib.hid (fun v1 w1 (hb : Below (lb + 1) w w1) (ho1 : OwnB w1 (lb + 1) v1 (l ++ [64])) => line_set hc hf hb hlb ho1)
  have HT := Lib.hid ht
  have HN := Lib.hid hn; clear hn
  have HL := Lib.hid hlen
  have HO := Lib.hid ho
  clear ho ht hf hlen hne
  go_enter Tryd.func60, Tryd.ntmps60
  go_wp2_with (at_builtin; refine wp_app_at rfl _ _ rfl (lb + 1) _ l rfl (by exact HO.out) rfl (by exact HL.out) (by omega) ?_; intro v1 w1 ho1 hb1; obtain ⟨ao1, k1, cap1, rfl⟩ := own_slice ho1; have HO1 := Lib.hid ho1; have HS1 := Lib.hid (HS.out _ w1 hb1 ho1); have hc1 := HS1.out.2.2.1; have hf1 := HS1.out.2.2.2; clear ho1 hb1)
  have hO2 : OwnB (w1.setCell ⟨lb, 0, none⟩ (.slice ao1 k1 cap1)) (lb + 1) (.slice ao1 k1 cap1) (l ++ [64]) := ownsRow_setCell_below HO1.out (by simp) _
  have hB2 := HS1.out.2.1
  have hc2 : (w1.setCell ⟨lb, 0, none⟩ (.slice ao1 k1 cap1)).cell? ⟨lb, 0, none⟩ = some (.slice ao1 k1 cap1) := World.cell?_setCell_same _ _ _ hc1
  have hf2 : (w1.setCell ⟨lb, 0, none⟩ (.slice ao1 k1 cap1)).frozen? ⟨lb, 0, none⟩ = false := by rw [World.frozen?_setCell]; exact hf1
  have HP := Lib.hid hpos
  clear hc1 hf1 hc HO1 HS1 hpos
  generalize w1.setCell ⟨lb, 0, none⟩ (.slice ao1 k1 cap1) = w2 at *
  have hs2 : lb < w2.heap.size := Nat.lt_of_lt_of_le hlb hB2.size
  refine (appU_any (lb + 1) n HN.out _ (l ++ [64]) w2 hO2 (by omega) (by have := HL.out; simp; omega) (HT.out w2 hB2)).mono ?_
  rintro e w3 ⟨v3, rfl, ho3, hb3, _⟩
  obtain ⟨ao3, k3, cap3, rfl⟩ := own_slice ho3
  have h3 := line_set hc2 hf2 hb3 hs2 ho3
  have hc3 := h3.2.2.1
  have hf3 := h3.2.2.2
  have H3 := Lib.hid h3
  have H2 := Lib.hid hB2
  clear h3 hO2 hB2 hc2 hf2 ho3 hb3
  go_wp2
  go_end0
  have e := H3.out.1
  rw [List.append_assoc] at e
  exact ⟨rfl, e, H2.out.trans H3.out.2.1⟩

theorem LineAt.adds {lb : Nat} {w w' : World} {l : List UInt8} (h : LineAt lb w l) (ha : Adds w w') : LineAt lb w' l := by
  obtain ⟨v, hc, hf, ho, hl⟩ := h
  refine ⟨v, (ha.cell (p := ⟨lb, 0, none⟩) hl).trans hc, (ha.frozen (p := ⟨lb, 0, none⟩) hl).trans hf, ho.below ha fun g hg => ?_, Nat.lt_of_lt_of_le hl ha.size⟩
  exact (ho.lt g hg).2

set_option maxHeartbeats 2000000 in
theorem tell_any (lb i c : Nat) (hi : i < 18446744073709551616) (hcn : c < 18446744073709551616) (w : World) (hl : LineAt lb w []) (ht : Lib.TabBelow Tryd.prog lb w "internal/strconv.uint64pow10" .u64 Lib.pow10Tab) :
    Calls Tryd.prog 59 #[.agg #[.int .u64 i, .int .u64 c], .func (.func 60) #[.pointer (some ⟨lb, 0, none⟩)] #[]] w (LinePost lb (Lib.decDigits i ++ 64 :: Lib.decDigits c) w) := by
  have hlb : lb < w.heap.size := hl.choose_spec.2.2.2
  have hbx : Below lb w (w.alloc (.cells #[.int .u64 i, .int .u64 c] 92)) := (Below.refl _ _).alloc (by omega) _
  have H1 := Lib.hid (number_first lb i hi _ (hl.adds (adds_b w (.cells #[.int .u64 i, .int .u64 c] 92))) fun w' h => ht w' (hbx.trans h))
  have H2 := Lib.hid (fun w1 (hb : Below lb w w1) (h1 : LineAt lb w1 (Lib.decDigits i)) => number_next lb c hcn (Lib.decDigits i) (dec_ne i) (by have := dec_le20 i hi; omega) w1 h1 fun w' h => ht w' (hb.trans h))
  have HB := Lib.hid hbx
  have i0 := ix0
  have i1 := ix1
  clear hl ht hbx hi hcn
  go_enter Tryd.func59, Tryd.ntmps59
  go_wp2
  refine wp_loop_rounds 3 ?_
  rw [rounds_succ]
  go_wp2_with (go_at_call 60; refine H1.out.mono ?_; rintro e w1 ⟨rfl, h1, b1⟩; have L1 := Lib.hid h1; have B1 := Lib.hid (HB.out.trans b1); clear h1 b1)
  rw [rounds_succ]
  go_wp2_with (go_at_call 60; refine (H2.out _ B1.out L1.out).mono ?_; rintro e w2 ⟨rfl, h2, b2⟩; have L2 := Lib.hid h2; have B2 := Lib.hid (B1.out.trans b2); clear h2 b2)
  rw [rounds_succ]
  go_wp2
  go_end0
  exact ⟨rfl, L2.out, B2.out⟩
end Go.Proofs.YtlbloehhmpnkgaaDoor
