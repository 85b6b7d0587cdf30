/- From what a row of package event lets in to what the walks ask. -/
import Derived.Test.YtbinmgpfkjmijaaGreatDoorRow
import Derived.Test.YtbinmgpfkjmijaaGreatDoorEvF1
import Derived.Stop.LaidErr
namespace Go.Proofs.YtbinmgpfkjmijaaGreatDoor
open Go Go.ChangeShapes Go.WideShapes Go.ChangeAt Go.RowKit

/-- The variables that an event's row lists. -/
def eLaid : List (String × DataW Unit) := [("math/bits.deBruijn32tab", Rows.laid_math_bits_deBruijn32tab), ("math/bits.deBruijn64tab", Rows.laid_math_bits_deBruijn64tab), ("internal/strconv.uint64pow10", Rows.laid_internal_strconv_uint64pow10), ("linesman/octet.widths", Rows.laid_linesman_octet_widths), ("linesman/event.kinds", Rows.laid_linesman_event_kinds), ("linesman/event.traps", Rows.laid_linesman_event_traps)]
theorem gKi : Tryz.prog.globalNamed "linesman/event.kinds" = some 0 := by kernel_rfl
theorem gKiType : (Tryz.prog.globals[0]?).map (·.type) = some 72 := by kernel_rfl
theorem gTr : Tryz.prog.globalNamed "linesman/event.traps" = some 1 := by kernel_rfl
theorem gTrType : (Tryz.prog.globals[1]?).map (·.type) = some 96 := by kernel_rfl
theorem gTab16 : Tryz.prog.globalNamed "internal/strconv.uint64pow10" = some 2 := by kernel_rfl
theorem gTabType16 : (Tryz.prog.globals[2]?).map (·.type) = some 156 := by kernel_rfl
/-- An array of texts that reads as the table holds the table's texts, cell for cell. -/
theorem cells_of_texts16 {H : Type} {enc : TypeId × Value → H} {P : Program} {w : World} {base : Nat} {sp : Nat → Bool} {held : Bool} {fuel : Nat} {t e : TypeId} {n : Nat} {cs : List Value} {zs : List (List UInt8)} {p : List MemPlace}
    (ht : P.underlying t = some (.array n e)) (he : P.underlying e = some .string) (hce : P.cellsOf e = 1) (hct : P.cellsOf t = n)
    (h : DataW.trod enc P w base sp held fuel t cs = some (.agg (zs.map fun z => .lit (.string z)), p)) : cs = zs.map fun z => Value.string (str z) := by
  cases fuel with
  | zero => simp [DataW.trod] at h
  | succ fuel =>
    simp only [DataW.trod, ht, hce, hct, Nat.mul_one] at h
    split at h
    · rename_i hl
      obtain ⟨xs, hm, hx⟩ := Option.map_eq_some_iff.1 h
      have hxs : xs.map (·.1) = zs.map fun z => (DataW.lit (.string z) : DataW H) := by
        have := congrArg Prod.fst hx
        simpa using this
      have hxl : xs.length = n := by simpa using Lib.mapM_length hm
      have hzl : zs.length = n := by
        have := congrArg List.length hxs
        simp at this
        omega
      apply List.ext_getElem?
      intro i
      by_cases hi : i < n
      · obtain ⟨b, hb, hf⟩ := Lib.mapM_at hm i i (by simp [hi])
        obtain ⟨z, hc, rfl, _⟩ := DataW.trod_string he hf
        have h1 : cs[i]? = some (.string z) := by
          have := congrArg (·[0]?) hc
          simpa [List.getElem?_take, List.getElem?_drop] using this
        have h2 : (xs.map (·.1))[i]? = some (DataW.lit (.string z.data.toList) : DataW H) := by simp [hb]
        rw [hxs] at h2
        simp only [List.getElem?_map, Option.map_eq_some_iff, DataW.lit.injEq, Lit.string.injEq] at h2
        obtain ⟨z', hz', rfl⟩ := h2
        simp [h1, hz', str]
      · rw [List.getElem?_eq_none (by omega), List.getElem?_eq_none (by simp; omega)]
    · cases h

theorem kinds_of16 {W : World} {rest : List (String × DataW Unit)} (h' : laidMet Tryz.prog (("linesman/event.kinds", Rows.laid_linesman_event_kinds) :: rest) W) : ∀ i, i < 15 → W.cell? ⟨0, i, none⟩ = some (.string (str (kindB.getD i []))) := by
  obtain ⟨ps, ⟨g', t', cs, fuel, p, q, hg', ht', hvar, hd, _, _⟩, _⟩ := h'
  obtain rfl := Option.some.inj (gKi.symm.trans hg')
  obtain rfl := Option.some.inj (gKiType.symm.trans ht')
  have hc := cells_of_texts16 (zs := kindB) Tryz.underlying72 Tryz.underlying9 (by kernel_rfl) (by kernel_rfl) hd
  intro i hi
  have := World.var?_cell gKi hvar i
  rw [this]
  have e : cs[i]? = cs.toList[i]? := by simp
  rw [e, hc]
  simp only [List.getElem?_map]
  have hl : i < kindB.length := hi
  simp [List.getD_eq_getElem?_getD, hl]
theorem traps_of16 {W : World} {rest : List (String × DataW Unit)} (h' : laidMet Tryz.prog (("linesman/event.traps", Rows.laid_linesman_event_traps) :: rest) W) : ∀ i, i < 7 → W.cell? ⟨1, i, none⟩ = some (.string (str (trapB.getD i []))) := by
  obtain ⟨ps, ⟨g', t', cs, fuel, p, q, hg', ht', hvar, hd, _, _⟩, _⟩ := h'
  obtain rfl := Option.some.inj (gTr.symm.trans hg')
  obtain rfl := Option.some.inj (gTrType.symm.trans ht')
  have hc := cells_of_texts16 (zs := trapB) Tryz.underlying96 Tryz.underlying9 (by kernel_rfl) (by kernel_rfl) hd
  intro i hi
  have := World.var?_cell gTr hvar i
  rw [this]
  have e : cs[i]? = cs.toList[i]? := by simp
  rw [e, hc]
  simp only [List.getElem?_map]
  have hl : i < trapB.length := hi
  simp [List.getD_eq_getElem?_getD, hl]
theorem eVars_of {W : World} (h : laidMet Tryz.prog eLaid W) : EVars W := by
  refine ⟨⟨?_, ?_⟩, ?_, ?_⟩
  · exact Lib.tabIs_of_head gTab16 gTabType16 Tryz.underlying156 Tryz.underlying77 (by kernel_rfl) (by kernel_rfl) h.tail.tail
  · have t : Lib.TabIs Tryz.prog W "linesman/octet.widths" .i64 [1, 2, 4, 8] := Lib.tabIs_of_head gW gWType Tryz.underlying160 Tryz.underlying3 (by kernel_rfl) (by kernel_rfl) h.tail.tail.tail
    exact ⟨t.cell gW 0 (by decide), t.cell gW 1 (by decide), t.cell gW 2 (by decide), t.cell gW 3 (by decide)⟩
  · exact kinds_of16 h.tail.tail.tail.tail
  · exact traps_of16 h.tail.tail.tail.tail.tail
section
variable {H : Type} {enc : TypeId × Value → H}
theorem cellsE9 : Tryz.prog.cellsOf 28 = 9 := by kernel_rfl
theorem cellsSi2 : Tryz.prog.cellsOf 24 = 2 := by kernel_rfl
theorem cellsI1e : Tryz.prog.cellsOf 3 = 1 := by kernel_rfl
theorem cellsK1e : Tryz.prog.cellsOf 22 = 1 := by kernel_rfl
theorem cellsU1e : Tryz.prog.cellsOf 25 = 1 := by kernel_rfl
theorem cellsL1e : Tryz.prog.cellsOf 2 = 1 := by kernel_rfl
theorem cellsT1e : Tryz.prog.cellsOf 26 = 1 := by kernel_rfl
theorem wf_u32e {n : Int} (h : (Lit.int .u32 n).wf = true) : 0 ≤ n ∧ n < 4294967296 := by
  have h1 : IntKind.u32.min = 0 := by decide
  have h2 : IntKind.u32.max = 4294967295 := by decide
  simp [Lit.wf, h1, h2] at h
  omega
set_option maxRecDepth 100000 in
theorem arg_event {r : Reach} {b0 : Nat} {W : World} {v : Value} {d : DataW H} {ps : List MemPlace} (hval : Value.okWide Tryz.prog W r b0 28 v)
    (hd : DataW.Trod enc Tryz.prog W 0 (fun _ => true) true 28 v d ps) : ∃ x : Ev, v = evV x ∧ OkE x := by
  obtain ⟨cs, rfl, hsz, _⟩ : ∃ cs, v = .agg cs ∧ cs.size = Tryz.prog.cellsOf 28 ∧ Row.okWide Tryz.prog W r b0 28 cs := by
    simpa [Value.okWide, Tryz.underlying28] using hval
  rw [cellsE9] at hsz
  obtain ⟨l⟩ := cs
  obtain ⟨z0, z1, z2, z3, z4, z5, z6, z7, z8, rfl⟩ : ∃ z0 z1 z2 z3 z4 z5 z6 z7 z8, l = [z0, z1, z2, z3, z4, z5, z6, z7, z8] := by
    match l, hsz with
    | [z0, z1, z2, z3, z4, z5, z6, z7, z8], _ => exact ⟨z0, z1, z2, z3, z4, z5, z6, z7, z8, rfl⟩
  obtain ⟨fuel, hf⟩ := hd
  obtain ⟨xs, n', _, _, _, hxl, hfld⟩ := DataW.trod_struct Tryz.underlying28 hf
  have f0 := hfld 0 _ rfl
  have f1 := hfld 1 _ rfl
  have f2 := hfld 2 _ rfl
  have f3 := hfld 3 _ rfl
  have f4 := hfld 4 _ rfl
  have f5 := hfld 5 _ rfl
  have f6 := hfld 6 _ rfl
  have f7 := hfld 7 _ rfl
  obtain ⟨x0, x1, x2, x3, x4, x5, x6, x7, rfl⟩ : ∃ x0 x1 x2 x3 x4 x5 x6 x7, xs = [x0, x1, x2, x3, x4, x5, x6, x7] := by
    match xs, hxl with
    | [x0, x1, x2, x3, x4, x5, x6, x7], _ => exact ⟨x0, x1, x2, x3, x4, x5, x6, x7, rfl⟩
  simp [cellsI1e, cellsK1e, cellsSi2, cellsU1e, cellsL1e, cellsT1e, Value.cells] at f0 f1 f2 f3 f4 f5 f6 f7
  obtain ⟨v0, e0, _, _⟩ := DataW.trod_int Tryz.underlying3 f0
  obtain ⟨v1, e1, _, k1⟩ := DataW.trod_int Tryz.underlying22 f1
  obtain ⟨ys, n2, _, _, _, hyl, hgld⟩ := DataW.trod_struct Tryz.underlying24 f2
  have g0 := hgld 0 _ rfl
  have g1 := hgld 1 _ rfl
  obtain ⟨y0, y1, rfl⟩ : ∃ y0 y1, ys = [y0, y1] := by
    match ys, hyl with
    | [y0, y1], _ => exact ⟨y0, y1, rfl⟩
  simp [cellsI1e] at g0 g1
  obtain ⟨u0, e2, _, _⟩ := DataW.trod_int Tryz.underlying3 g0
  obtain ⟨u1, e3, _, _⟩ := DataW.trod_int Tryz.underlying3 g1
  obtain ⟨v4, e4, _, k4⟩ := DataW.trod_int Tryz.underlying25 f3
  obtain ⟨v5, e5, _, _⟩ := DataW.trod_int Tryz.underlying3 f4
  obtain ⟨v6, e6, _, _⟩ := DataW.trod_int Tryz.underlying3 f5
  obtain ⟨v7, e7, _, _⟩ := DataW.trod_int Tryz.underlying2 f6
  obtain ⟨v8, e8, _, _⟩ := DataW.trod_int Tryz.underlying26 f7
  simp only [List.cons.injEq, and_true] at e0 e1 e2 e3 e4 e5 e6 e7 e8
  subst e0 e1 e2 e3 e4 e5 e6 e7 e8
  exact ⟨⟨v0, v1, u0, u1, v4, v5, v6, v7, v8⟩, rfl, k1, wf_u32e k4⟩
end
/-! ### One start that fits: the tables as their initialisers lay them -/
def litV16 : DataW Unit → Value
  | .lit (.int k n) => Value.int k n
  | .lit (.string l) => Value.string ⟨l.toArray⟩
  | _ => undef
def litVs16 : DataW Unit → List Value
  | .agg l => l.map litV16
  | d => [litV16 d]
/-- The values of a table that is listed. -/
def valsOf16 : DataW Unit → Array Value
  | .agg l => (l.flatMap litVs16).toArray
  | _ => #[]
/-- A block that holds other cells. -/
def reCells16 (cs : Array Value) : Obj → Obj
  | .cells _ t frozen => .cells cs t frozen
  | o => o
noncomputable def laidWorld16 (os : Os) : World :=
  let w0 := World.holding Tryz.prog os ⟨#[], #[], []⟩
  { w0 with heap := ((((((w0.heap.modify 2 (reCells16 (valsOf16 Rows.laid_internal_strconv_uint64pow10))).modify 5 (reCells16 (valsOf16 Rows.laid_math_bits_deBruijn32tab))).modify 6 (reCells16 (valsOf16 Rows.laid_math_bits_deBruijn64tab))).modify 3 (reCells16 (valsOf16 Rows.laid_linesman_octet_widths))).modify 0 (reCells16 (valsOf16 Rows.laid_linesman_event_kinds))).modify 1 (reCells16 (valsOf16 Rows.laid_linesman_event_traps))) }
theorem laid16_met (os : Os) (args : Array Value) : laidMet Tryz.prog eLaid ((laidWorld16 os).forCall (fun _ _ => 0) ⟨#[], args, []⟩).memory :=
  laidMet_of_run' 8 (by kernel_rfl) (by kernel_rfl)
end Go.Proofs.YtbinmgpfkjmijaaGreatDoor
