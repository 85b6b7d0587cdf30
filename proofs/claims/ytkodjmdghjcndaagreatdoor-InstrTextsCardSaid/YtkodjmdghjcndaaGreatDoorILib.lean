/- What package instr asks of the library and of arith: contracts in plain words; the variables that it reads. -/
import Derived.Lib.LaidTab
import Derived.Lib.AppendIntMem
import Derived.Test.YtkodjmdghjcndaaGreatDoorIShelf
import Derived.Test.YtkodjmdghjcndaaGreatDoorIR5
import Derived.Test.YtkodjmdghjcndaaGreatDoorBD
namespace Go.Proofs.YtkodjmdghjcndaaGreatDoor
open Go Go.RowKit Go.Shelf Go.Lib

/-- The words with which texts begin, by Ops. -/
def nmIB : List (List UInt8) := [[], [99, 111, 110, 115, 116], [109, 111, 118, 101], [], [106, 117, 109, 112], [105, 102], [108, 111, 97, 100], [115, 116, 111, 114, 101], [99, 97, 108, 108], [114, 101, 116, 117, 114, 110], [103, 111], [108, 111, 99, 107], [117, 110, 108, 111, 99, 107], [114, 108, 111, 99, 107], [114, 117, 110, 108, 111, 99, 107], [119, 108, 111, 99, 107], [119, 117, 110, 108, 111, 99, 107], [99, 111, 117, 110, 116], [119, 97, 105, 116], [121, 105, 101, 108, 100]]
def NamesI (w : World) : Prop := ∀ i, i < 20 → w.cell? ⟨0, i, none⟩ = some (.string (str (nmIB.getD i [])))
structure IVars (w : World) : Prop where
  tab : Lib.TabIs Tryz.prog w "internal/strconv.uint64pow10" .u64 Lib.pow10Tab
  syn : ∃ (tp : TypeId) (p : Value), w.cell? ⟨8, 0, none⟩ = some (.iface tp p)
  rng : ∃ (tp : TypeId) (p : Value), w.cell? ⟨9, 0, none⟩ = some (.iface tp p)
  wid : Widths w
  kin : NamesW w
  nam : NamesI w
theorem IVars.below {w w' : World} (h : IVars w) (hb : Below w.heap.size w w') : IVars w' := by
  obtain ⟨h1, ⟨t3, p3, h3⟩, ⟨t4, p4, h4⟩, h5, h6, h7⟩ := h
  exact ⟨Lib.tabBelow_of_tabIs h1 w' hb, ⟨t3, p3, (hb.cell (World.block_lt_of_cell? w _ h3)).trans h3⟩, ⟨t4, p4, (hb.cell (World.block_lt_of_cell? w _ h4)).trans h4⟩, h5.below hb, h6.adds hb, fun i hi => (hb.cell (World.block_lt_of_cell? w _ (h7 i hi))).trans (h7 i hi)⟩
theorem join_extra : Builder.Extra Tryz.prog Tryz.laysJoin_ren where
  sizeBuilder := by kernel_rfl
  liesBuilder := by kernel_rfl
  t5 := Tryz.underlying5
  a5 := Tryz.isAgg5
  z5 := Tryz.sizeOf5
  v5 := Tryz.zeroValue5
  infoByte := by kernel_rfl
  cellsByte := by kernel_rfl
  sizeByte := by kernel_rfl
  neB5 := by decide
def joinI (l : List (List UInt8)) : List UInt8 := Lib.join l [32]
theorem join8 (bk c : Nat) (l : List (List UInt8)) (w : World) (hcells : ∀ (j : Nat) x, l[j]? = some x → w.cell? ⟨bk, j, none⟩ = some (.string (str x))) (hbk : bk < w.heap.size) (hN : l.length ≤ 1000) (hcap : l.length ≤ c) (hlen : (joinI l).length ≤ 100000) :
    Calls Tryz.prog 36 #[.slice (some ⟨bk, 0, none⟩) l.length c, .string ⟨#[32]⟩] w fun e w' => e = .returned (.string (str (joinI l))) ∧ Adds w w' := by
  have e : (l.map str).map (·.data.toList) = l := by rw [List.map_map]; simp [Function.comp_def, str]
  have h := Any.strings_Join Tryz.laysJoin join_extra bk 0 c (l.map str) ⟨#[32]⟩ w (fun j x hx => by
    rw [List.getElem?_map] at hx
    cases hj : l[j]? with
    | none => rw [hj] at hx; cases hx
    | some y =>
      rw [hj] at hx
      obtain rfl : str y = x := Option.some.inj hx
      rw [Nat.zero_add]
      exact hcells j y hj) hbk (by rw [List.length_map]; omega) (by rw [List.length_map]; exact hcap) (by rw [e]; exact Nat.le_trans hlen (by omega))
  rw [e, List.length_map] at h
  exact h
theorem fmtI8 (n : Nat) (hn : n < 9223372036854775808) (w : World) (hv : IVars w) :
    Calls Tryz.prog 35 #[.int .i64 n, .int .i64 10] w fun e w' => e = .returned (.string (str (Lib.decDigits n))) ∧ Gr w w' :=
  (Any.strconv_FormatInt_10 Tryz.laysFI (n : Int) (by omega) (by omega) w hv.tab).mono fun _ w' ⟨h1, k, os, h2⟩ => by
    subst h2
    refine ⟨?_, ⟨k, os, rfl⟩⟩
    rw [h1, Lib.itoa_nonneg]; rfl
/-- The word with which an instruction's text begins. -/
def firstI (x : In) : List UInt8 := if x.1 = 3 then nmB.getD (x.2.2.2.2 - 1).toNat [] else nmIB.getD x.1.toNat []
end Go.Proofs.YtkodjmdghjcndaaGreatDoor
