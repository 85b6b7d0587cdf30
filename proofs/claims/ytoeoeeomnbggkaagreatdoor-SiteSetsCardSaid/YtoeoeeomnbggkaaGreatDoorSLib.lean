/- The library's contracts that package site calls, in this program's own numbers and words: a number as a text and back, a text cut. -/
import Derived.Test.YtoeoeeomnbggkaaGreatDoorSShelf
import Derived.Test.YtoeoeeomnbggkaaGreatDoorSF2
import Derived.Test.YtoeoeeomnbggkaaGreatDoorW2
import Derived.Lib.AtoiErrMem
import Derived.Lib.AppendIntMem
import Derived.Lib.ItoaLen
import Derived.Laws.IdiomStrings
namespace Go.Proofs.YtoeoeeomnbggkaaGreatDoor
open Go Go.RowKit Go.Shelf

/-- What the variables hold. -/
structure SVars (w : World) : Prop where
  tab : Lib.TabIs Tryz.prog w "internal/strconv.uint64pow10" .u64 Lib.pow10Tab
  syn : ∃ (tp : TypeId) (p : Value), w.cell? ⟨2, 0, none⟩ = some (.iface tp p)
  rng : ∃ (tp : TypeId) (p : Value), w.cell? ⟨3, 0, none⟩ = some (.iface tp p)
  wid : Widths w
theorem SVars.below {w w' : World} (h : SVars w) (hb : Below w.heap.size w w') : SVars w' := by
  obtain ⟨h1, ⟨t3, p3, h3⟩, ⟨t4, p4, h4⟩, h5⟩ := h
  exact ⟨Lib.tabBelow_of_tabIs h1 w' hb, ⟨t3, p3, (hb.cell (World.block_lt_of_cell? w _ h3)).trans h3⟩, ⟨t4, p4, (hb.cell (World.block_lt_of_cell? w _ h4)).trans h4⟩, h5.below hb⟩
theorem SVars.gr {w w' : World} (h : SVars w) (hb : Gr w w') : SVars w' := h.below hb.adds

theorem str_list (l : List UInt8) : (str l).data.toList = l := rfl
theorem str_size (l : List UInt8) : (str l).size = l.length := by rw [Lib.size_eq, str_list]
theorem itoa7_any (i : Nat) (hi : i < 9223372036854775808) (w : World) (hv : SVars w) :
    Calls Tryz.prog 29 #[.int .i64 i] w fun e w' => e = .returned (.string (str (Lib.decDigits i))) ∧ Gr w w' :=
  (Any.strconv_Itoa Tryz.laysItoa (i : Int) (by omega) (by omega) w hv.tab).mono fun _ w' ⟨h1, k, os, h2⟩ => by
    subst h2
    refine ⟨?_, ⟨k, os, rfl⟩⟩
    rw [h1, Lib.itoa_nonneg]; rfl
theorem cutPre_any (l : List UInt8) (m : UInt8) (w : World) :
    Calls Tryz.prog 42 #[.string (str l), .string ⟨#[m]⟩] w fun e w' => e = .returned (.tuple #[.string (str (Lib.trimPrefix l [m])), .bool (Lib.hasPrefix l [m])]) ∧ w = w' :=
  (Any.strings_CutPrefix Tryz.laysCutP (str l) ⟨#[m]⟩ w).mono fun _ _w' ⟨h1, h2⟩ => ⟨h1, h2.symm⟩
def digS : ByteArray := ⟨#[48, 49, 50, 51, 52, 53, 54, 55, 56, 57]⟩
theorem triml_any (l : List UInt8) (w : World) :
    Calls Tryz.prog 43 #[.string (str l), .string ⟨#[48, 49, 50, 51, 52, 53, 54, 55, 56, 57]⟩] w fun e w' => e = .returned (.string (str (Lib.trimLeftS l dig10))) ∧ Adds w w' :=
  (Any.strings_TrimLeft_laid Tryz.laysTrimL (by kernel_rfl) (str l) digS w (by decide) (ascii_of_all (by decide))).mono fun _ w' ⟨h1, h2⟩ => ⟨h1, h2⟩
theorem trims_any (l r : List UInt8) (hl : l.length ≤ 1000000) (w : World) :
    Calls Tryz.prog 45 #[.string (str l), .string (str r)] w fun e w' => e = .returned (.string (str (Lib.trimSuffix l r))) ∧ w = w' :=
  (Any.strings_TrimSuffix Tryz.laysTrimS (str l) (str r) w (by rw [str_size]; omega)).mono fun _ w' ⟨h1, h2⟩ => ⟨h1, h2.symm⟩

/-- What Atoi tells. -/
theorem atoi7_yes (l : List UInt8) (hl : l.length ≤ 1000000) (v : Int) (h : Lib.atoiAll l = .ok v) (w : World) :
    Calls Tryz.prog 44 #[.string (str l)] w fun e w' => e = .returned (.tuple #[.int .i64 v, .nilIface]) ∧ Adds w w' :=
  (Any.strconv_Atoi_ok Tryz.laysAtoi (str l) (by rw [str_size]; omega) v h w).mono fun _ w' ⟨h1, h2⟩ => ⟨h1, by
    rcases h2 with rfl | ⟨t, rfl⟩
    · exact Below.refl _ _
    · exact Lib.bytesWorld_below _ _ _⟩
theorem atoi7_no (l : List UInt8) (hl : l.length ≤ 1000000) (h : ∀ v, Lib.atoiAll l ≠ .ok v) (w : World) (hv : SVars w) :
    Calls Tryz.prog 44 #[.string (str l)] w fun e w' => (∃ (n : Int) (N : Nat), e = .returned (.tuple #[.int .i64 n, .iface 131 (.pointer (some ⟨N, 0, none⟩))])) ∧ Adds w w' := by
  rcases h0 : Lib.atoiAll l with v | _ | _
  · exact absurd h0 (h v)
  · obtain ⟨tp, p, hc⟩ := hv.syn
    exact (Any.strconv_Atoi_syntax Tryz.laysAtoi (str l) (by rw [str_size]; omega) h0 _ w hc (.inr ⟨tp, p, rfl⟩)).mono fun _ w' ⟨N, h1, _, _, h2⟩ => ⟨⟨_, N, h1⟩, h2⟩
  · obtain ⟨tp, p, hc⟩ := hv.rng
    exact (Any.strconv_Atoi_range Tryz.laysAtoi (str l) (by rw [str_size]; omega) h0 _ w hc (.inr ⟨tp, p, rfl⟩)).mono fun _ w' ⟨N, h1, _, _, h2⟩ => ⟨⟨_, N, h1⟩, h2⟩
end Go.Proofs.YtoeoeeomnbggkaaGreatDoor
