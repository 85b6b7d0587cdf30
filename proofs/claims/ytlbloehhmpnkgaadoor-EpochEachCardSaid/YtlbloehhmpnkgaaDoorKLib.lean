/- The library's contracts, in this program's own numbers and words: digits appended, digits as a text, digits read, a text cut. -/
import Derived.Test.YtlbloehhmpnkgaaDoorKShelf
import Derived.Test.YtlbloehhmpnkgaaDoorKPlain
import Derived.Test.YtlbloehhmpnkgaaDoorLib
import Derived.Lib.AtoiErrMem
import Derived.Lib.AppendIntMem
import Derived.Lib.ItoaLen
import Derived.Laws.IdiomStrings
import Derived.OwnWalk
import Derived.WalkKit
import Derived.BigCall
namespace Go.Proofs.YtlbloehhmpnkgaaDoor
open Go Go.RowKit Go.Shelf

/-- What the library's variables hold. -/
structure EpVars (w : World) : Prop where
  tab : Lib.TabIs Tryd.prog w "internal/strconv.uint64pow10" .u64 Lib.pow10Tab
  len : ∃ m : Int, w.cell? ⟨2, 0, none⟩ = some (.int .i64 m)
  syn : ∃ (tp : TypeId) (p : Value), w.cell? ⟨3, 0, none⟩ = some (.iface tp p)
  rng : ∃ (tp : TypeId) (p : Value), w.cell? ⟨4, 0, none⟩ = some (.iface tp p)
theorem EpVars.below {w w' : World} (h : EpVars w) (hb : Below w.heap.size w w') : EpVars w' := by
  obtain ⟨h1, ⟨m, h2⟩, ⟨t3, p3, h3⟩, ⟨t4, p4, h4⟩⟩ := h
  exact ⟨Lib.tabBelow_of_tabIs h1 w' hb, ⟨m, (hb.cell (World.block_lt_of_cell? w _ h2)).trans h2⟩, ⟨t3, p3, (hb.cell (World.block_lt_of_cell? w _ h3)).trans h3⟩, ⟨t4, p4, (hb.cell (World.block_lt_of_cell? w _ h4)).trans h4⟩⟩

theorem iappU_any (B u : Nat) (hu : u < 18446744073709551616) (sv : Value) (l : List UInt8) (w : World) (hown : OwnB w B sv l) (hB : B ≤ w.heap.size) (hlim : l.length + 20 ≤ 140737488355328)
    (htab : Lib.TabIs Tryd.prog w "internal/strconv.uint64pow10" .u64 Lib.pow10Tab) :
    Calls Tryd.prog 90 #[sv, .int .u64 u, .int .i64 10] w fun e w' => ∃ v', e = .returned v' ∧ OwnB w' B v' (l ++ Lib.decDigits u) ∧ Below B w w' ∧ Lib.OthersKept 5 none w w' := by
  have e1 : l.map byteV ++ Lib.byteCells (Lib.decDigits u) = (l ++ Lib.decDigits u).map byteV := by rw [List.map_append]; rfl
  have e2 : l.length + (Lib.decDigits u).length = (l ++ Lib.decDigits u).length := by rw [List.length_append]
  have fin : ∀ (e : Ending) (w' : World), (∃ v', e = .returned v' ∧ w'.ownsRow B 5 1 v' (l.length + (Lib.decDigits u).length) (l.map byteV ++ Lib.byteCells (Lib.decDigits u)) ∧ Below B w w' ∧ Lib.OthersKept 5 none w w') → ∃ v', e = .returned v' ∧ OwnB w' B v' (l ++ Lib.decDigits u) ∧ Below B w w' ∧ Lib.OthersKept 5 none w w' := by
    rintro e w' ⟨v', he, ho, hb, hk⟩
    rw [e1, e2] at ho
    exact ⟨v', he, ho, hb, hk⟩
  rcases Nat.lt_or_ge u 100 with h | h
  · exact (Any.internal_strconv_AppendUint_10_small Tryd.laysAU B l.length u h sv (l.map byteV) w hown hB hlim).mono fin
  · exact (Any.internal_strconv_AppendUint_10_big Tryd.laysAU B l.length u h hu sv (l.map byteV) w hown hB hlim htab).mono fin

set_option maxHeartbeats 400000 in
theorem appU_any (B u : Nat) (hu : u < 18446744073709551616) (sv : Value) (l : List UInt8) (w : World) (hown : OwnB w B sv l) (hB : B ≤ w.heap.size) (hlim : l.length + 20 ≤ 140737488355328)
    (htab : Lib.TabIs Tryd.prog w "internal/strconv.uint64pow10" .u64 Lib.pow10Tab) :
    Calls Tryd.prog 81 #[sv, .int .u64 u, .int .i64 10] w fun e w' => ∃ v', e = .returned v' ∧ OwnB w' B v' (l ++ Lib.decDigits u) ∧ Below B w w' ∧ Lib.OthersKept 5 none w w' := by
  have HK := Lib.hid (iappU_any B u hu sv l w hown hB hlim htab)
  clear hu hown hB hlim htab
  go_enter Tryd.func81, Tryd.ntmps81
  go_wp2_with (go_at_call 90; refine HK.out.mono ?_; rintro e w1 ⟨v, rfl, h⟩; have H := Lib.hid h; clear h)
  go_ret
  exact ⟨v, rfl, H.out⟩

/-- Digits as a text. -/
def decS (n : Nat) : ByteArray := ⟨(Lib.decDigits n).toArray⟩
theorem itoa_any (i : Nat) (hi : i < 9223372036854775808) (w : World) (htab : Lib.TabIs Tryd.prog w "internal/strconv.uint64pow10" .u64 Lib.pow10Tab) :
    Calls Tryd.prog 63 #[.int .i64 i] w fun e w' => e = .returned (.string (decS i)) ∧ Below w.heap.size w w' :=
  (Any.strconv_Itoa Tryd.laysItoa (i : Int) (by omega) (by omega) w htab).mono fun e w' ⟨h1, k, os, h2⟩ => by
    subst h2
    refine ⟨?_, Lib.below_grow _ _ (Nat.le_refl _) _ _⟩
    rw [h1, Lib.itoa_nonneg]; rfl
theorem cut_any (s : ByteArray) (hs : s.size < 4294967281) (w : World) (hm : ∃ m : Int, w.cell? ⟨2, 0, none⟩ = some (.int .i64 m)) :
    Calls Tryd.prog 82 #[.string s, .string ⟨#[64]⟩] w fun e w' => e = .returned (.tuple #[.string ⟨(Lib.cut s.data.toList [64]).1.toArray⟩, .string ⟨(Lib.cut s.data.toList [64]).2.1.toArray⟩, .bool (Lib.cut s.data.toList [64]).2.2]) ∧ Below w.heap.size w w' := by
  obtain ⟨m, hm⟩ := hm
  exact (Any.strings_Cut Tryd.laysCut s ⟨#[64]⟩ m w hs hm).mono fun e w' ⟨h1, n, h2⟩ => ⟨h1, h2 ▸ ⟨rfl, rfl, rfl, Nat.le_refl _, fun _ _ => rfl⟩⟩

/-- What is told of digits that are read: the number and no error; or an error. -/
def NumOr (l : List UInt8) (w : World) (e : Ending) (w' : World) : Prop :=
  Below w.heap.size w w' ∧ ((∃ u : Nat, Lib.parseUintB 64 l = .ok u ∧ u < 18446744073709551616 ∧ e = .returned (.tuple #[.int .u64 u, .nilIface])) ∨
    ((∀ u, Lib.parseUintB 64 l ≠ .ok u) ∧ ∃ (n : Int) (N : Nat), e = .returned (.tuple #[.int .u64 n, .iface 154 (.pointer (some ⟨N, 0, none⟩))])))
theorem parseU_any (s : ByteArray) (hs : s.size ≤ 281474976710656) (w : World) (hv : EpVars w) :
    Calls Tryd.prog 83 #[.string s, .int .i64 10, .int .i64 64] w (NumOr s.data.toList w) := by
  rcases h : Lib.parseUintB 64 s.data.toList with u | _ | _
  · refine (Any.strconv_ParseUint_10_at64_ok Tryd.laysPU s (by omega) u h w).mono fun e w' ⟨h1, h2⟩ => ⟨?_, .inl ⟨u, h, ?_, h1⟩⟩
    · rcases h2 with rfl | rfl
      · exact Below.refl _ _
      · exact Lib.bytesWorld_below _ _ _
    · have := Lib.parseUintB_le h
      have p : (2 : Nat) ^ 64 = 18446744073709551616 := by decide
      omega
  · obtain ⟨tp, p, hc⟩ := hv.syn
    exact (Any.strconv_ParseUint_10_at64_syntax Tryd.laysPU s hs h _ w hc (.inr ⟨tp, p, rfl⟩)).mono fun e w' ⟨N, h1, _, _, h2⟩ => ⟨h2, .inr ⟨(by intro u hu; rw [h] at hu; cases hu), 0, N, h1⟩⟩
  · obtain ⟨tp, p, hc⟩ := hv.rng
    exact (Any.strconv_ParseUint_10_at64_range Tryd.laysPU s hs h _ w hc (.inr ⟨tp, p, rfl⟩)).mono fun e w' ⟨N, h1, _, _, h2⟩ => ⟨h2, .inr ⟨(by intro u hu; rw [h] at hu; cases hu), _, N, h1⟩⟩
end Go.Proofs.YtlbloehhmpnkgaaDoor
