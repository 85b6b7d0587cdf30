/- From what a row of package site lets in to what the walks ask. -/
import Derived.Test.YtnhapmodgmkbjaaGreatDoorRow
import Derived.Test.YtnhapmodgmkbjaaGreatDoorSLib
import Derived.Stop.LaidErr
namespace Go.Proofs.YtnhapmodgmkbjaaGreatDoor
open Go Go.ChangeShapes Go.WideShapes Go.ChangeAt Go.RowKit

/-- The variables that a site's row lists. -/
def sLaid : List (String × DataW Unit) := [("math/bits.deBruijn32tab", Rows.laid_math_bits_deBruijn32tab), ("math/bits.deBruijn64tab", Rows.laid_math_bits_deBruijn64tab), ("internal/strconv.uint64pow10", Rows.laid_internal_strconv_uint64pow10), ("unicode/utf8.acceptRanges", Rows.laid_unicode_utf8_acceptRanges), ("strconv.ErrRange", Rows.laid_strconv_ErrRange), ("strconv.ErrSyntax", Rows.laid_strconv_ErrSyntax), ("linesman/octet.widths", Rows.laid_linesman_octet_widths), ("unicode/utf8.first", Rows.laid_unicode_utf8_first)]
theorem gTab7 : Tryz.prog.globalNamed "internal/strconv.uint64pow10" = some 1 := by kernel_rfl
theorem gTabType7 : (Tryz.prog.globals[1]?).map (·.type) = some 147 := by kernel_rfl
theorem gES7 : Tryz.prog.globalNamed "strconv.ErrSyntax" = some 2 := by kernel_rfl
theorem gESType7 : (Tryz.prog.globals[2]?).map (·.type) = some 95 := by kernel_rfl
theorem gER7 : Tryz.prog.globalNamed "strconv.ErrRange" = some 3 := by kernel_rfl
theorem gERType7 : (Tryz.prog.globals[3]?).map (·.type) = some 95 := by kernel_rfl
theorem star7 : "*" ++ "errors.errorString" = "*errors.errorString" := by decide
theorem rowES7 (u : TypeId) (h : Tryz.prog.typeName? 3 u = some "*errors.errorString") : u = 172 :=
  typeName_ptr_named (nm := "errors.errorString") (by rw [star7]; kernel_rfl) (by kernel_rfl) (by decide) u (by rw [star7]; exact h)
theorem cellsES7 : Tryz.prog.cellsOf 174 = 1 := by kernel_rfl
theorem cellsStr7 : Tryz.prog.cellsOf 9 = 1 := by kernel_rfl

theorem sVars_of {W : World} (h : laidMet Tryz.prog sLaid W) : SVars W := by
  refine ⟨?_, ?_, ?_, ?_⟩
  · exact Lib.tabIs_of_head gTab7 gTabType7 Tryz.underlying147 Tryz.underlying78 (by kernel_rfl) (by kernel_rfl) h.tail.tail
  · obtain ⟨a, s, hv, -, -, -⟩ := laid_sentinel h.tail.tail.tail.tail.tail gES7 gESType7 Tryz.underlying95 rowES7 Tryz.underlying172 Tryz.underlying174 rfl rfl Tryz.underlying9 cellsES7 cellsStr7
    exact ⟨_, _, by have h0 := World.var?_cell gES7 hv 0; simpa using h0⟩
  · obtain ⟨a, s, hv, -, -, -⟩ := laid_sentinel h.tail.tail.tail.tail gER7 gERType7 Tryz.underlying95 rowES7 Tryz.underlying172 Tryz.underlying174 rfl rfl Tryz.underlying9 cellsES7 cellsStr7
    exact ⟨_, _, by have h0 := World.var?_cell gER7 hv 0; simpa using h0⟩
  · have t : Lib.TabIs Tryz.prog W "linesman/octet.widths" .i64 [1, 2, 4, 8] := Lib.tabIs_of_head gW gWType Tryz.underlying113 Tryz.underlying3 (by kernel_rfl) (by kernel_rfl) h.tail.tail.tail.tail.tail.tail
    exact ⟨t.cell gW 0 (by decide), t.cell gW 1 (by decide), t.cell gW 2 (by decide), t.cell gW 3 (by decide)⟩

section
variable {H : Type} {enc : TypeId × Value → H}
theorem cellsS2r : Tryz.prog.cellsOf 30 = 2 := by kernel_rfl
theorem cellsI1r : Tryz.prog.cellsOf 3 = 1 := by kernel_rfl
set_option maxRecDepth 100000 in
theorem arg_site {r : Reach} {b0 : Nat} {W : World} {v : Value} {d : DataW H} {ps : List MemPlace} (hval : Value.okWide Tryz.prog W r b0 30 v)
    (hd : DataW.Trod enc Tryz.prog W 0 (fun _ => true) true 30 v d ps) : ∃ s : Si, v = siV s := by
  obtain ⟨cs, rfl, hsz, _⟩ : ∃ cs, v = .agg cs ∧ cs.size = Tryz.prog.cellsOf 30 ∧ Row.okWide Tryz.prog W r b0 30 cs := by
    simpa [Value.okWide, Tryz.underlying30] using hval
  rw [cellsS2r] at hsz
  obtain ⟨l⟩ := cs
  obtain ⟨z0, z1, rfl⟩ : ∃ z0 z1, l = [z0, z1] := by
    match l, hsz with
    | [z0, z1], _ => exact ⟨z0, z1, rfl⟩
  obtain ⟨fuel, hf⟩ := hd
  obtain ⟨xs, n', _, _, _, hxl, hfld⟩ := DataW.trod_struct Tryz.underlying30 hf
  have f0 := hfld 0 _ rfl
  have f1 := hfld 1 _ rfl
  obtain ⟨x0, x1, rfl⟩ : ∃ x0 x1, xs = [x0, x1] := by
    match xs, hxl with
    | [x0, x1], _ => exact ⟨x0, x1, rfl⟩
  simp [cellsI1r, Value.cells] at f0 f1
  obtain ⟨v0, e0, _, _⟩ := DataW.trod_int Tryz.underlying3 f0
  obtain ⟨v1, e1, _, _⟩ := DataW.trod_int Tryz.underlying3 f1
  simp only [List.cons.injEq, and_true] at e0 e1
  subst e0 e1
  exact ⟨(v0, v1), rfl⟩
end

/-! ### One start that fits: the tables and the two sentinels as their initialisers lay them -/
def synS7 : ByteArray := { data := #[105, 110, 118, 97, 108, 105, 100, 32, 115, 121, 110, 116, 97, 120] }
def rngS7 : ByteArray := { data := #[118, 97, 108, 117, 101, 32, 111, 117, 116, 32, 111, 102, 32, 114, 97, 110, 103, 101] }
def litV : DataW Unit → Value
  | .lit (.int k n) => Value.int k n
  | _ => undef
def litVs : DataW Unit → List Value
  | .agg l => l.map litV
  | d => [litV d]
/-- The values of a table that is listed. -/
def valsOf7 : DataW Unit → Array Value
  | .agg l => (l.flatMap litVs).toArray
  | _ => #[]
/-- So many blocks has the settled world. -/
noncomputable def low7 : Nat := (World.holding Tryz.prog default ⟨#[], #[], []⟩).heap.size
/-- A block that holds other cells. -/
def reCells7 (cs : Array Value) : Obj → Obj
  | .cells _ t frozen => .cells cs t frozen
  | o => o
/-- The settled world with two blocks more, each an errors.errorString; the two variables hold pointers to them; the tables hold what their initialisers lay. -/
noncomputable def laidWorld7 (os : Os) : World :=
  let w0 := World.holding Tryz.prog os ⟨#[.cells #[.string synS7] 174, .cells #[.string rngS7] 174], #[], []⟩
  { w0 with heap := (((((((w0.heap.modify 1 (reCells7 (valsOf7 Rows.laid_internal_strconv_uint64pow10))).modify 6 (reCells7 (valsOf7 Rows.laid_math_bits_deBruijn32tab))).modify 7 (reCells7 (valsOf7 Rows.laid_math_bits_deBruijn64tab))).modify 5 (reCells7 (valsOf7 Rows.laid_unicode_utf8_acceptRanges))).modify 4 (reCells7 (valsOf7 Rows.laid_unicode_utf8_first))).modify 0 (reCells7 (valsOf7 Rows.laid_linesman_octet_widths))).modify
      2 (reCells7 #[.iface 172 (.pointer (some ⟨low7, 0, none⟩))])).modify 3 (reCells7 #[.iface 172 (.pointer (some ⟨low7 + 1, 0, none⟩))]) }
theorem laid7_met (os : Os) (args : Array Value) : laidMet Tryz.prog sLaid ((laidWorld7 os).forCall (fun _ _ => 0) ⟨#[], args, []⟩).memory :=
  laidMet_of_run' 8 (by kernel_rfl) (by kernel_rfl)
end Go.Proofs.YtnhapmodgmkbjaaGreatDoor
