/- From what a row of package epoch lets in to what the walks ask. -/
import Derived.Test.YtlbloehhmpnkgaaDoorRow
import Derived.Test.YtlbloehhmpnkgaaDoorKLib
import Derived.Stop.LaidErr
namespace Go.Proofs.YtlbloehhmpnkgaaDoor
open Go Go.ChangeShapes Go.WideShapes Go.ChangeAt Go.RowKit

/-- The variables that an epoch's row lists. -/
def epLaid {H : Type} : List (String × DataW H) := [("math/bits.deBruijn32tab", Rows.laid_math_bits_deBruijn32tab), ("math/bits.deBruijn64tab", Rows.laid_math_bits_deBruijn64tab), ("internal/strconv.uint64pow10", Rows.laid_internal_strconv_uint64pow10), ("strconv.ErrRange", Rows.laid_strconv_ErrRange), ("strconv.ErrSyntax", Rows.laid_strconv_ErrSyntax)]
theorem gTab : Tryd.prog.globalNamed "internal/strconv.uint64pow10" = some 1 := by kernel_rfl
theorem gTabType : (Tryd.prog.globals[1]?).map (·.type) = some 159 := by kernel_rfl
theorem gES : Tryd.prog.globalNamed "strconv.ErrSyntax" = some 3 := by kernel_rfl
theorem gESType : (Tryd.prog.globals[3]?).map (·.type) = some 134 := by kernel_rfl
theorem gER : Tryd.prog.globalNamed "strconv.ErrRange" = some 4 := by kernel_rfl
theorem gERType : (Tryd.prog.globals[4]?).map (·.type) = some 134 := by kernel_rfl
theorem star : "*" ++ "errors.errorString" = "*errors.errorString" := by decide
theorem rowES (u : TypeId) (h : Tryd.prog.typeName? 3 u = some "*errors.errorString") : u = 172 :=
  typeName_ptr_named (nm := "errors.errorString") (by rw [star]; kernel_rfl) (by kernel_rfl) (by decide) u (by rw [star]; exact h)
theorem cellsES : Tryd.prog.cellsOf 174 = 1 := by kernel_rfl
theorem cellsStr : Tryd.prog.cellsOf 9 = 1 := by kernel_rfl

theorem epVars_of {W : World} (h : laidMet Tryd.prog epLaid W) (hsh : W.ShapedOpen Tryd.prog) : EpVars W := by
  refine ⟨?_, Tryd.laysMCut.s1_3 W hsh, ?_, ?_⟩
  · exact Lib.tabIs_of_head gTab gTabType Tryd.underlying159 Tryd.underlying26 (by kernel_rfl) (by kernel_rfl) h.tail.tail
  · obtain ⟨a, s, hv, -, -, -⟩ := laid_sentinel h.tail.tail.tail.tail gES gESType Tryd.underlying134 rowES Tryd.underlying172 Tryd.underlying174 rfl rfl Tryd.underlying9 cellsES cellsStr
    exact ⟨_, _, by have h0 := World.var?_cell gES hv 0; simpa using h0⟩
  · obtain ⟨a, s, hv, -, -, -⟩ := laid_sentinel h.tail.tail.tail gER gERType Tryd.underlying134 rowES Tryd.underlying172 Tryd.underlying174 rfl rfl Tryd.underlying9 cellsES cellsStr
    exact ⟨_, _, by have h0 := World.var?_cell gER hv 0; simpa using h0⟩

section
variable {H : Type} {enc : TypeId × Value → H}
set_option maxRecDepth 100000 in
theorem arg_epoch {r : Reach} {b0 : Nat} {W : World} {v : Value} {d : DataW H} {ps : List MemPlace} (hval : Value.okWide Tryd.prog W r b0 48 v)
    (hd : DataW.Trod enc Tryd.prog W 0 (fun _ => true) true 48 v d ps) : ∃ n : Nat, v = .int .u64 n ∧ U64 n := by
  obtain ⟨x, rfl, rfl, rfl, wx⟩ := open_int Tryd.underlying48 hval hd
  have hb := bounds_u64 wx
  exact ⟨x.toNat, by rw [show ((x.toNat : Nat) : Int) = x by omega], by unfold U64; omega⟩
end

/-! ### One start that fits: the tables and the two sentinels as their initialisers lay them -/
def synS : ByteArray := { data := #[105, 110, 118, 97, 108, 105, 100, 32, 115, 121, 110, 116, 97, 120] }
def rngS : ByteArray := { data := #[118, 97, 108, 117, 101, 32, 111, 117, 116, 32, 111, 102, 32, 114, 97, 110, 103, 101] }
/-- The values of a table that is listed. -/
def valsOf : DataW Unit → Array Value
  | .agg l => (l.map fun | .lit (.int k n) => Value.int k n | _ => undef).toArray
  | _ => #[]
/-- So many blocks has the settled world. -/
noncomputable def low3 : Nat := (World.holding Tryd.prog default ⟨#[], #[], []⟩).heap.size
/-- A block that holds other cells. -/
def reCells (cs : Array Value) : Obj → Obj
  | .cells _ t frozen => .cells cs t frozen
  | o => o
/-- The settled world with two blocks more, each an errors.errorString; the two variables hold pointers to them; the tables hold what their initialisers lay. -/
noncomputable def laidWorld3 (os : Os) : World :=
  let w0 := World.holding Tryd.prog os ⟨#[.cells #[.string synS] 174, .cells #[.string rngS] 174], #[], []⟩
  { w0 with heap := ((((w0.heap.modify 1 (reCells (valsOf Rows.laid_internal_strconv_uint64pow10))).modify 5 (reCells (valsOf Rows.laid_math_bits_deBruijn32tab))).modify 6 (reCells (valsOf Rows.laid_math_bits_deBruijn64tab))).modify
      3 (reCells #[.iface 172 (.pointer (some ⟨low3, 0, none⟩))])).modify 4 (reCells #[.iface 172 (.pointer (some ⟨low3 + 1, 0, none⟩))]) }
theorem laid3_met (os : Os) (args : Array Value) : laidMet Tryd.prog epLaid ((laidWorld3 os).forCall (fun _ _ => 0) ⟨#[], args, []⟩).memory :=
  laidMet_of_run' 8 (by kernel_rfl) (by kernel_rfl)
end Go.Proofs.YtlbloehhmpnkgaaDoor
