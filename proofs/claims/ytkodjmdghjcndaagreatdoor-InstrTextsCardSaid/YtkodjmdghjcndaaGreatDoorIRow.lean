/- From what a row of package instr lets in to what the walks ask. -/
import Derived.Test.YtkodjmdghjcndaaGreatDoorRow
import Derived.Test.YtkodjmdghjcndaaGreatDoorILib
import Derived.Stop.LaidErr
namespace Go.Proofs.YtkodjmdghjcndaaGreatDoor
open Go Go.ChangeShapes Go.WideShapes Go.ChangeAt Go.RowKit

/-- The variables that an instruction's row lists. -/
def iLaid : List (String × DataW Unit) := [("math/bits.deBruijn32tab", Rows.laid_math_bits_deBruijn32tab), ("math/bits.deBruijn64tab", Rows.laid_math_bits_deBruijn64tab), ("internal/strconv.uint64pow10", Rows.laid_internal_strconv_uint64pow10), ("unicode/utf8.acceptRanges", Rows.laid_unicode_utf8_acceptRanges), ("strconv.ErrRange", Rows.laid_strconv_ErrRange), ("strconv.ErrSyntax", Rows.laid_strconv_ErrSyntax), ("linesman/arith.names", Rows.laid_linesman_arith_names), ("linesman/octet.widths", Rows.laid_linesman_octet_widths), ("linesman/instr.names", Rows.laid_linesman_instr_names), ("unicode/utf8.first", Rows.laid_unicode_utf8_first)]
theorem gTab8 : Tryz.prog.globalNamed "internal/strconv.uint64pow10" = some 4 := by kernel_rfl
theorem gTabType8 : (Tryz.prog.globals[4]?).map (·.type) = some 226 := by kernel_rfl
theorem gES8 : Tryz.prog.globalNamed "strconv.ErrSyntax" = some 8 := by kernel_rfl
theorem gESType8 : (Tryz.prog.globals[8]?).map (·.type) = some 136 := by kernel_rfl
theorem gER8 : Tryz.prog.globalNamed "strconv.ErrRange" = some 9 := by kernel_rfl
theorem gERType8 : (Tryz.prog.globals[9]?).map (·.type) = some 136 := by kernel_rfl
theorem star8 : "*" ++ "errors.errorString" = "*errors.errorString" := by decide
theorem rowES8 (u : TypeId) (h : Tryz.prog.typeName? 3 u = some "*errors.errorString") : u = 290 :=
  typeName_ptr_named (nm := "errors.errorString") (by rw [star8]; kernel_rfl) (by kernel_rfl) (by decide) u (by rw [star8]; exact h)
theorem cellsES8 : Tryz.prog.cellsOf 292 = 1 := by kernel_rfl
theorem cellsStr8 : Tryz.prog.cellsOf 9 = 1 := by kernel_rfl

/-- An array of texts that reads as the table holds the table's texts, cell for cell. -/
theorem cells_of_texts8 {H : Type} {enc : TypeId × Value → H} {P : Program} {w : World} {base : Nat} {sp : Nat → Bool} {held : Bool} {fuel : Nat} {t e : TypeId} {n : Nat} {cs : List Value} {zs : List (List UInt8)} {p : List MemPlace}
    (ht : P.underlying t = some (.array n e)) (he : P.underlying e = some .string) (hce : P.cellsOf e = 1) (hct : P.cellsOf t = n)
    (h : DataW.trod enc P w base sp held fuel t cs = some (.agg (zs.map fun z => .lit (.string z)), p)) : cs = zs.map fun z => Value.string (str z) := by
  cases fuel with
  | zero => simp [DataW.trod] at h
  | succ fuel =>
    simp only [DataW.trod, ht, hce, hct, Nat.mul_one] at h
    split at h
    · rename_i hl
      obtain ⟨xs, hm, hx⟩ := Option.map_eq_some_iff.1 h
      have hxs : xs.map (·.1) = zs.map fun z => (DataW.lit (.string z) : DataW H) := by
        have := congrArg Prod.fst hx
        simpa using this
      have hxl : xs.length = n := by simpa using Lib.mapM_length hm
      have hzl : zs.length = n := by
        have := congrArg List.length hxs
        simp at this
        omega
      apply List.ext_getElem?
      intro i
      by_cases hi : i < n
      · obtain ⟨b, hb, hf⟩ := Lib.mapM_at hm i i (by simp [hi])
        obtain ⟨z, hc, rfl, _⟩ := DataW.trod_string he hf
        have h1 : cs[i]? = some (.string z) := by
          have := congrArg (·[0]?) hc
          simpa [List.getElem?_take, List.getElem?_drop] using this
        have h2 : (xs.map (·.1))[i]? = some (DataW.lit (.string z.data.toList) : DataW H) := by simp [hb]
        rw [hxs] at h2
        simp only [List.getElem?_map, Option.map_eq_some_iff, DataW.lit.injEq, Lit.string.injEq] at h2
        obtain ⟨z', hz', rfl⟩ := h2
        simp [h1, hz', str]
      · rw [List.getElem?_eq_none (by omega), List.getElem?_eq_none (by simp; omega)]
    · cases h

theorem gN8 : Tryz.prog.globalNamed "linesman/arith.names" = some 2 := by kernel_rfl
theorem gNType8 : (Tryz.prog.globals[2]?).map (·.type) = some 175 := by kernel_rfl
theorem gI8 : Tryz.prog.globalNamed "linesman/instr.names" = some 0 := by kernel_rfl
theorem gIType8 : (Tryz.prog.globals[0]?).map (·.type) = some 126 := by kernel_rfl
theorem kinds_of8 {W : World} {rest : List (String × DataW Unit)} (h' : laidMet Tryz.prog (("linesman/arith.names", Rows.laid_linesman_arith_names) :: rest) W) : NamesW W := by
  obtain ⟨ps, ⟨g', t', cs, fuel, p, q, hg', ht', hvar, hd, _, _⟩, _⟩ := h'
  obtain rfl := Option.some.inj (gN8.symm.trans hg')
  obtain rfl := Option.some.inj (gNType8.symm.trans ht')
  have hc := cells_of_texts8 (zs := nmB) Tryz.underlying175 Tryz.underlying9 (by kernel_rfl) (by kernel_rfl) hd
  intro i hi
  have := World.var?_cell gN8 hvar i
  rw [this]
  have e : cs[i]? = cs.toList[i]? := by simp
  rw [e, hc]
  simp only [List.getElem?_map, nmV, nm]
  have hl : i < nmB.length := hi
  simp [List.getD_eq_getElem?_getD, hl]
theorem names_of8 {W : World} {rest : List (String × DataW Unit)} (h' : laidMet Tryz.prog (("linesman/instr.names", Rows.laid_linesman_instr_names) :: rest) W) : NamesI W := by
  obtain ⟨ps, ⟨g', t', cs, fuel, p, q, hg', ht', hvar, hd, _, _⟩, _⟩ := h'
  obtain rfl := Option.some.inj (gI8.symm.trans hg')
  obtain rfl := Option.some.inj (gIType8.symm.trans ht')
  have hc := cells_of_texts8 (zs := nmIB) Tryz.underlying126 Tryz.underlying9 (by kernel_rfl) (by kernel_rfl) hd
  intro i hi
  have := World.var?_cell gI8 hvar i
  rw [this]
  have e : cs[i]? = cs.toList[i]? := by simp
  rw [e, hc]
  simp only [List.getElem?_map]
  have hl : i < nmIB.length := hi
  simp [List.getD_eq_getElem?_getD, hl]
theorem iVars_of {W : World} (h : laidMet Tryz.prog iLaid W) : IVars W := by
  refine ⟨?_, ?_, ?_, ?_, ?_, ?_⟩
  · exact Lib.tabIs_of_head gTab8 gTabType8 Tryz.underlying226 Tryz.underlying97 (by kernel_rfl) (by kernel_rfl) h.tail.tail
  · obtain ⟨a, s, hv, -, -, -⟩ := laid_sentinel h.tail.tail.tail.tail.tail gES8 gESType8 Tryz.underlying136 rowES8 Tryz.underlying290 Tryz.underlying292 rfl rfl Tryz.underlying9 cellsES8 cellsStr8
    exact ⟨_, _, by have h0 := World.var?_cell gES8 hv 0; simpa using h0⟩
  · obtain ⟨a, s, hv, -, -, -⟩ := laid_sentinel h.tail.tail.tail.tail gER8 gERType8 Tryz.underlying136 rowES8 Tryz.underlying290 Tryz.underlying292 rfl rfl Tryz.underlying9 cellsES8 cellsStr8
    exact ⟨_, _, by have h0 := World.var?_cell gER8 hv 0; simpa using h0⟩
  · have t : Lib.TabIs Tryz.prog W "linesman/octet.widths" .i64 [1, 2, 4, 8] := Lib.tabIs_of_head gW gWType Tryz.underlying214 Tryz.underlying3 (by kernel_rfl) (by kernel_rfl) h.tail.tail.tail.tail.tail.tail.tail
    exact ⟨t.cell gW 0 (by decide), t.cell gW 1 (by decide), t.cell gW 2 (by decide), t.cell gW 3 (by decide)⟩
  · exact kinds_of8 h.tail.tail.tail.tail.tail.tail
  · exact names_of8 h.tail.tail.tail.tail.tail.tail.tail.tail

section
variable {H : Type} {enc : TypeId × Value → H}
theorem cellsI5r : Tryz.prog.cellsOf 25 = 5 := by kernel_rfl
theorem cellsI1i : Tryz.prog.cellsOf 3 = 1 := by kernel_rfl
theorem cellsO1i : Tryz.prog.cellsOf 22 = 1 := by kernel_rfl
theorem cellsU1i : Tryz.prog.cellsOf 23 = 1 := by kernel_rfl
theorem wf_u32 {n : Int} (h : (Lit.int .u32 n).wf = true) : 0 ≤ n ∧ n < 4294967296 := by
  have h1 : IntKind.u32.min = 0 := by decide
  have h2 : IntKind.u32.max = 4294967295 := by decide
  simp [Lit.wf, h1, h2] at h
  omega
set_option maxRecDepth 100000 in
theorem arg_ins {r : Reach} {b0 : Nat} {W : World} {v : Value} {d : DataW H} {ps : List MemPlace} (hval : Value.okWide Tryz.prog W r b0 25 v)
    (hd : DataW.Trod enc Tryz.prog W 0 (fun _ => true) true 25 v d ps) : ∃ x : In, v = insV x ∧ OkIn x := by
  obtain ⟨cs, rfl, hsz, _⟩ : ∃ cs, v = .agg cs ∧ cs.size = Tryz.prog.cellsOf 25 ∧ Row.okWide Tryz.prog W r b0 25 cs := by
    simpa [Value.okWide, Tryz.underlying25] using hval
  rw [cellsI5r] at hsz
  obtain ⟨l⟩ := cs
  obtain ⟨z0, z1, z2, z3, z4, rfl⟩ : ∃ z0 z1 z2 z3 z4, l = [z0, z1, z2, z3, z4] := by
    match l, hsz with
    | [z0, z1, z2, z3, z4], _ => exact ⟨z0, z1, z2, z3, z4, rfl⟩
  obtain ⟨fuel, hf⟩ := hd
  obtain ⟨xs, n', _, _, _, hxl, hfld⟩ := DataW.trod_struct Tryz.underlying25 hf
  have f0 := hfld 0 _ rfl
  have f1 := hfld 1 _ rfl
  have f2 := hfld 2 _ rfl
  have f3 := hfld 3 _ rfl
  have f4 := hfld 4 _ rfl
  obtain ⟨x0, x1, x2, x3, x4, rfl⟩ : ∃ x0 x1 x2 x3 x4, xs = [x0, x1, x2, x3, x4] := by
    match xs, hxl with
    | [x0, x1, x2, x3, x4], _ => exact ⟨x0, x1, x2, x3, x4, rfl⟩
  simp [cellsI1i, cellsO1i, cellsU1i, Value.cells] at f0 f1 f2 f3 f4
  obtain ⟨v0, e0, _, k0⟩ := DataW.trod_int Tryz.underlying22 f0
  obtain ⟨v1, e1, _, _⟩ := DataW.trod_int Tryz.underlying3 f1
  obtain ⟨v2, e2, _, _⟩ := DataW.trod_int Tryz.underlying3 f2
  obtain ⟨v3, e3, _, _⟩ := DataW.trod_int Tryz.underlying3 f3
  obtain ⟨v4, e4, _, k4⟩ := DataW.trod_int Tryz.underlying23 f4
  simp only [List.cons.injEq, and_true] at e0 e1 e2 e3 e4
  subst e0 e1 e2 e3 e4
  exact ⟨(v0, v1, v2, v3, v4), rfl, k0, wf_u32 k4⟩
end

/-! ### One start that fits: the tables and the two sentinels as their initialisers lay them -/
def synS8 : ByteArray := { data := #[105, 110, 118, 97, 108, 105, 100, 32, 115, 121, 110, 116, 97, 120] }
def rngS8 : ByteArray := { data := #[118, 97, 108, 117, 101, 32, 111, 117, 116, 32, 111, 102, 32, 114, 97, 110, 103, 101] }
def litV8 : DataW Unit → Value
  | .lit (.int k n) => Value.int k n
  | .lit (.string l) => Value.string ⟨l.toArray⟩
  | _ => undef
def litVs8 : DataW Unit → List Value
  | .agg l => l.map litV8
  | d => [litV8 d]
/-- The values of a table that is listed. -/
def valsOf8 : DataW Unit → Array Value
  | .agg l => (l.flatMap litVs8).toArray
  | _ => #[]
/-- So many blocks has the settled world. -/
noncomputable def low8 : Nat := (World.holding Tryz.prog default ⟨#[], #[], []⟩).heap.size
/-- A block that holds other cells. -/
def reCells8 (cs : Array Value) : Obj → Obj
  | .cells _ t frozen => .cells cs t frozen
  | o => o
/-- The settled world with two blocks more, each an errors.errorString; the two variables hold pointers to them; the tables hold what their initialisers lay. -/
noncomputable def laidWorld8 (os : Os) : World :=
  let w0 := World.holding Tryz.prog os ⟨#[.cells #[.string synS8] 292, .cells #[.string rngS8] 292], #[], []⟩
  { w0 with heap := (((((((((w0.heap.modify 4 (reCells8 (valsOf8 Rows.laid_internal_strconv_uint64pow10))).modify 6 (reCells8 (valsOf8 Rows.laid_math_bits_deBruijn32tab))).modify 7 (reCells8 (valsOf8 Rows.laid_math_bits_deBruijn64tab))).modify 11 (reCells8 (valsOf8 Rows.laid_unicode_utf8_acceptRanges))).modify 10 (reCells8 (valsOf8 Rows.laid_unicode_utf8_first))).modify 3 (reCells8 (valsOf8 Rows.laid_linesman_octet_widths))).modify 2 (reCells8 (valsOf8 Rows.laid_linesman_arith_names))).modify 0 (reCells8 (valsOf8 Rows.laid_linesman_instr_names))).modify
      8 (reCells8 #[.iface 290 (.pointer (some ⟨low8, 0, none⟩))])).modify 9 (reCells8 #[.iface 290 (.pointer (some ⟨low8 + 1, 0, none⟩))]) }
theorem laid8_met (os : Os) (args : Array Value) : laidMet Tryz.prog iLaid ((laidWorld8 os).forCall (fun _ _ => 0) ⟨#[], args, []⟩).memory :=
  laidMet_of_run' 8 (by kernel_rfl) (by kernel_rfl)
end Go.Proofs.YtkodjmdghjcndaaGreatDoor
