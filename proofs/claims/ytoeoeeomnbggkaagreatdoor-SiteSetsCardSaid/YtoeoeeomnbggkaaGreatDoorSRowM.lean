/- Merged: SRow, SRow2, SRow3. -/
import Derived.Test.YtoeoeeomnbggkaaGreatDoorRow
import Derived.Test.YtoeoeeomnbggkaaGreatDoorSLib
import Derived.Stop.LaidErr
import Derived.Test.YtoeoeeomnbggkaaGreatDoorSMapM
import Derived.Deep.Slices
import Derived.Test.YtoeoeeomnbggkaaGreatDoorSNM
namespace Go.Proofs.YtoeoeeomnbggkaaGreatDoor
open Go Go.ChangeShapes Go.WideShapes Go.ChangeAt Go.RowKit

/-- The variables that a site's row lists. -/
def sLaid : List (String × DataW Unit) := [("math/bits.deBruijn32tab", Rows.laid_math_bits_deBruijn32tab), ("math/bits.deBruijn64tab", Rows.laid_math_bits_deBruijn64tab), ("internal/strconv.uint64pow10", Rows.laid_internal_strconv_uint64pow10), ("unicode/utf8.acceptRanges", Rows.laid_unicode_utf8_acceptRanges), ("strconv.ErrRange", Rows.laid_strconv_ErrRange), ("strconv.ErrSyntax", Rows.laid_strconv_ErrSyntax), ("linesman/octet.widths", Rows.laid_linesman_octet_widths), ("unicode/utf8.first", Rows.laid_unicode_utf8_first)]
theorem gTab7 : Tryz.prog.globalNamed "internal/strconv.uint64pow10" = some 1 := by kernel_rfl
theorem gTabType7 : (Tryz.prog.globals[1]?).map (·.type) = some 146 := by kernel_rfl
theorem gES7 : Tryz.prog.globalNamed "strconv.ErrSyntax" = some 2 := by kernel_rfl
theorem gESType7 : (Tryz.prog.globals[2]?).map (·.type) = some 94 := by kernel_rfl
theorem gER7 : Tryz.prog.globalNamed "strconv.ErrRange" = some 3 := by kernel_rfl
theorem gERType7 : (Tryz.prog.globals[3]?).map (·.type) = some 94 := by kernel_rfl
theorem star7 : "*" ++ "errors.errorString" = "*errors.errorString" := by decide
theorem rowES7 (u : TypeId) (h : Tryz.prog.typeName? 3 u = some "*errors.errorString") : u = 171 :=
  typeName_ptr_named (nm := "errors.errorString") (by rw [star7]; kernel_rfl) (by kernel_rfl) (by decide) u (by rw [star7]; exact h)
theorem cellsES7 : Tryz.prog.cellsOf 173 = 1 := by kernel_rfl
theorem cellsStr7 : Tryz.prog.cellsOf 9 = 1 := by kernel_rfl

theorem sVars_of {W : World} (h : laidMet Tryz.prog sLaid W) : SVars W := by
  refine ⟨?_, ?_, ?_, ?_⟩
  · exact Lib.tabIs_of_head gTab7 gTabType7 Tryz.underlying146 Tryz.underlying77 (by kernel_rfl) (by kernel_rfl) h.tail.tail
  · obtain ⟨a, s, hv, -, -, -⟩ := laid_sentinel h.tail.tail.tail.tail.tail gES7 gESType7 Tryz.underlying94 rowES7 Tryz.underlying171 Tryz.underlying173 rfl rfl Tryz.underlying9 cellsES7 cellsStr7
    exact ⟨_, _, by have h0 := World.var?_cell gES7 hv 0; simpa using h0⟩
  · obtain ⟨a, s, hv, -, -, -⟩ := laid_sentinel h.tail.tail.tail.tail gER7 gERType7 Tryz.underlying94 rowES7 Tryz.underlying171 Tryz.underlying173 rfl rfl Tryz.underlying9 cellsES7 cellsStr7
    exact ⟨_, _, by have h0 := World.var?_cell gER7 hv 0; simpa using h0⟩
  · have t : Lib.TabIs Tryz.prog W "linesman/octet.widths" .i64 [1, 2, 4, 8] := Lib.tabIs_of_head gW gWType Tryz.underlying112 Tryz.underlying3 (by kernel_rfl) (by kernel_rfl) h.tail.tail.tail.tail.tail.tail
    exact ⟨t.cell gW 0 (by decide), t.cell gW 1 (by decide), t.cell gW 2 (by decide), t.cell gW 3 (by decide)⟩

section
variable {H : Type} {enc : TypeId × Value → H}
theorem cellsS2r : Tryz.prog.cellsOf 30 = 2 := by kernel_rfl
theorem cellsI1r : Tryz.prog.cellsOf 3 = 1 := by kernel_rfl
set_option maxRecDepth 100000 in
theorem arg_site {r : Reach} {b0 : Nat} {W : World} {v : Value} {d : DataW H} {ps : List MemPlace} (hval : Value.okWide Tryz.prog W r b0 30 v)
    (hd : DataW.Trod enc Tryz.prog W 0 (fun _ => true) true 30 v d ps) : ∃ s : Si, v = siV s := by
  obtain ⟨cs, rfl, hsz, _⟩ : ∃ cs, v = .agg cs ∧ cs.size = Tryz.prog.cellsOf 30 ∧ Row.okWide Tryz.prog W r b0 30 cs := by
    simpa [Value.okWide, Tryz.underlying30] using hval
  rw [cellsS2r] at hsz
  obtain ⟨l⟩ := cs
  obtain ⟨z0, z1, rfl⟩ : ∃ z0 z1, l = [z0, z1] := by
    match l, hsz with
    | [z0, z1], _ => exact ⟨z0, z1, rfl⟩
  obtain ⟨fuel, hf⟩ := hd
  obtain ⟨xs, n', _, _, _, hxl, hfld⟩ := DataW.trod_struct Tryz.underlying30 hf
  have f0 := hfld 0 _ rfl
  have f1 := hfld 1 _ rfl
  obtain ⟨x0, x1, rfl⟩ : ∃ x0 x1, xs = [x0, x1] := by
    match xs, hxl with
    | [x0, x1], _ => exact ⟨x0, x1, rfl⟩
  simp [cellsI1r, Value.cells] at f0 f1
  obtain ⟨v0, e0, _, _⟩ := DataW.trod_int Tryz.underlying3 f0
  obtain ⟨v1, e1, _, _⟩ := DataW.trod_int Tryz.underlying3 f1
  simp only [List.cons.injEq, and_true] at e0 e1
  subst e0 e1
  exact ⟨(v0, v1), rfl⟩
end

/-! ### One start that fits: the tables and the two sentinels as their initialisers lay them -/
def synS7 : ByteArray := { data := #[105, 110, 118, 97, 108, 105, 100, 32, 115, 121, 110, 116, 97, 120] }
def rngS7 : ByteArray := { data := #[118, 97, 108, 117, 101, 32, 111, 117, 116, 32, 111, 102, 32, 114, 97, 110, 103, 101] }
def litV : DataW Unit → Value
  | .lit (.int k n) => Value.int k n
  | _ => undef
def litVs : DataW Unit → List Value
  | .agg l => l.map litV
  | d => [litV d]
/-- The values of a table that is listed. -/
def valsOf7 : DataW Unit → Array Value
  | .agg l => (l.flatMap litVs).toArray
  | _ => #[]
/-- So many blocks has the settled world. -/
noncomputable def low7 : Nat := (World.holding Tryz.prog default ⟨#[], #[], []⟩).heap.size
/-- A block that holds other cells. -/
def reCells7 (cs : Array Value) : Obj → Obj
  | .cells _ t frozen => .cells cs t frozen
  | o => o
/-- The settled world with two blocks more, each an errors.errorString; the two variables hold pointers to them; the tables hold what their initialisers lay. -/
noncomputable def laidWorld7 (os : Os) : World :=
  let w0 := World.holding Tryz.prog os ⟨#[.cells #[.string synS7] 173, .cells #[.string rngS7] 173], #[], []⟩
  { w0 with heap := (((((((w0.heap.modify 1 (reCells7 (valsOf7 Rows.laid_internal_strconv_uint64pow10))).modify 6 (reCells7 (valsOf7 Rows.laid_math_bits_deBruijn32tab))).modify 7 (reCells7 (valsOf7 Rows.laid_math_bits_deBruijn64tab))).modify 5 (reCells7 (valsOf7 Rows.laid_unicode_utf8_acceptRanges))).modify 4 (reCells7 (valsOf7 Rows.laid_unicode_utf8_first))).modify 0 (reCells7 (valsOf7 Rows.laid_linesman_octet_widths))).modify
      2 (reCells7 #[.iface 171 (.pointer (some ⟨low7, 0, none⟩))])).modify 3 (reCells7 #[.iface 171 (.pointer (some ⟨low7 + 1, 0, none⟩))]) }
theorem laid7_met (os : Os) (args : Array Value) : laidMet Tryz.prog sLaid ((laidWorld7 os).forCall (fun _ _ => 0) ⟨#[], args, []⟩).memory :=
  laidMet_of_run' 8 (by kernel_rfl) (by kernel_rfl)
end Go.Proofs.YtoeoeeomnbggkaaGreatDoor
namespace Go.Proofs.YtoeoeeomnbggkaaGreatDoor
open Go Go.RowKit

section
variable {H : Type} {enc : TypeId × Value → H}
theorem cellsP4r : Tryz.prog.cellsOf 32 = 4 := by kernel_rfl
set_option maxRecDepth 100000 in
theorem arg_bool7 {r : Reach} {b0 : Nat} {W : World} {v : Value} {d : DataW H} {ps : List MemPlace} (hval : Value.okWide Tryz.prog W r b0 4 v)
    (hd : DataW.Trod enc Tryz.prog W 0 (fun _ => true) true 4 v d ps) : ∃ z : Bool, v = .bool z := by
  obtain ⟨z, rfl, _⟩ := open_bool Tryz.underlying4 hval hd
  exact ⟨z, rfl⟩
set_option maxRecDepth 100000 in
theorem trod_site {W : World} {fuel : Nat} {z0 z1 : Value} {x : DataW H × List MemPlace} (hf : DataW.trod enc Tryz.prog W 0 (fun _ => true) true fuel 30 [z0, z1] = some x) :
    ∃ a b : Int, z0 = .int .i64 a ∧ z1 = .int .i64 b ∧ okI a ∧ okI b := by
  obtain ⟨xs, n', _, _, _, hxl, hfld⟩ := DataW.trod_struct Tryz.underlying30 hf
  have f0 := hfld 0 _ rfl
  have f1 := hfld 1 _ rfl
  obtain ⟨x0, x1, rfl⟩ : ∃ x0 x1, xs = [x0, x1] := by
    match xs, hxl with
    | [x0, x1], _ => exact ⟨x0, x1, rfl⟩
  simp [cellsI1r] at f0 f1
  obtain ⟨v0, e0, _, k0⟩ := DataW.trod_int Tryz.underlying3 f0
  obtain ⟨v1, e1, _, k1⟩ := DataW.trod_int Tryz.underlying3 f1
  simp only [List.cons.injEq, and_true] at e0 e1
  subst e0 e1
  exact ⟨v0, v1, rfl, rfl, k0, k1⟩
set_option maxRecDepth 100000 in
theorem arg_pair {r : Reach} {b0 : Nat} {W : World} {v : Value} {d : DataW H} {ps : List MemPlace} (hval : Value.okWide Tryz.prog W r b0 32 v)
    (hd : DataW.Trod enc Tryz.prog W 0 (fun _ => true) true 32 v d ps) : ∃ x : Pr, v = prV x ∧ okPr x := by
  obtain ⟨cs, rfl, hsz, _⟩ : ∃ cs, v = .agg cs ∧ cs.size = Tryz.prog.cellsOf 32 ∧ Row.okWide Tryz.prog W r b0 32 cs := by
    simpa [Value.okWide, Tryz.underlying32] using hval
  rw [cellsP4r] at hsz
  obtain ⟨l⟩ := cs
  obtain ⟨z0, z1, z2, z3, rfl⟩ : ∃ z0 z1 z2 z3, l = [z0, z1, z2, z3] := by
    match l, hsz with
    | [z0, z1, z2, z3], _ => exact ⟨z0, z1, z2, z3, rfl⟩
  obtain ⟨fuel, hf⟩ := hd
  obtain ⟨xs, n', _, _, _, hxl, hfld⟩ := DataW.trod_struct Tryz.underlying32 hf
  have f0 := hfld 0 _ rfl
  have f1 := hfld 1 _ rfl
  obtain ⟨x0, x1, rfl⟩ : ∃ x0 x1, xs = [x0, x1] := by
    match xs, hxl with
    | [x0, x1], _ => exact ⟨x0, x1, rfl⟩
  simp [cellsS2r, Value.cells] at f0 f1
  obtain ⟨a, b, rfl, rfl, ha, hb⟩ := trod_site f0
  obtain ⟨c, e, rfl, rfl, hc, he⟩ := trod_site f1
  exact ⟨((a, b), (c, e)), rfl, ha, hb, hc, he⟩
end
end Go.Proofs.YtoeoeeomnbggkaaGreatDoor
namespace Go.Proofs.YtoeoeeomnbggkaaGreatDoor
open Go Go.ChangeShapes Go.WideShapes Go.ChangeAt Go.RowKit
section
variable {H : Type} {enc : TypeId × Value → H}
set_option maxRecDepth 100000 in
theorem arg_pairs {r : Reach} {b0 : Nat} {W : World} {v : Value} {d : DataW H} {ps : List MemPlace} (hval : Value.okWide Tryz.prog W r b0 22 v)
    (hd : DataW.Trod enc Tryz.prog W 0 (fun _ => true) true 22 v d ps) : ∃ l, PairsW W.heap.size W v l ∧ ∀ y ∈ l, okPr y := by
  obtain ⟨a0, len0, cap0, rfl⟩ := okWide_slice Tryz.underlying22 hval
  obtain ⟨fuel, hf⟩ := hd
  rcases Deep.open_slice Tryz.underlying22 hf with ⟨hcs, _⟩ | ⟨a, len, cap, m, n, D, Pl, hcs, _, hl, hm, hmm, _, hel⟩
  · simp only [Value.cells, List.cons.injEq, Value.slice.injEq, and_true] at hcs
    obtain ⟨rfl, rfl, rfl⟩ := hcs
    exact ⟨[], PairsW.nil _ _, fun x hx => by simp at hx⟩
  · simp only [Value.cells, List.cons.injEq, Value.slice.injEq, and_true] at hcs
    obtain ⟨rfl, rfl, rfl⟩ := hcs
    simp only [if_true] at hmm
    subst hmm
    have hsp : 0 < len0 → a.spot = none := by
      intro h0
      obtain ⟨cs, hcs, _⟩ := hel 0 (by omega)
      rw [cellsP4r] at hcs
      obtain ⟨_, hlen, hcell⟩ := World.cells?_some hcs
      have k0 := hcell 0 (by decide)
      rw [List.getElem?_eq_getElem (by omega)] at k0
      simpa [Addr.add] using World.cell?_spot k0
    have key : ∀ i, i < len0 → ∃ g off, a = ⟨g, off, none⟩ ∧ g < W.heap.size ∧ ∃ e : Pr, At4 W g (off + i * 4) e ∧ okPr e := by
      intro i hi
      obtain ⟨cs, hcs, hx⟩ := hel i (by omega)
      rw [cellsP4r] at hcs
      obtain ⟨_, hlen, hcell⟩ := World.cells?_some hcs
      obtain ⟨xs, n', rfl, _, _, hxl, hfld⟩ := DataW.trod_struct Tryz.underlying32 hx
      have f0 := hfld 0 _ rfl
      have f1 := hfld 1 _ rfl
      obtain ⟨z0, z1, z2, z3, rfl⟩ : ∃ z0 z1 z2 z3, cs = [z0, z1, z2, z3] := by
        match cs, hlen with
        | [z0, z1, z2, z3], _ => exact ⟨z0, z1, z2, z3, rfl⟩
      obtain ⟨x0, x1, rfl⟩ : ∃ x0 x1, xs = [x0, x1] := by
        match xs, hxl with
        | [x0, x1], _ => exact ⟨x0, x1, rfl⟩
      simp [cellsS2r] at f0 f1
      obtain ⟨p, q, rfl, rfl, hp0, hq0⟩ := trod_site f0
      obtain ⟨s, t, rfl, rfl, hs0, ht0⟩ := trod_site f1
      have k0 := hcell 0 (by decide)
      have k1 := hcell 1 (by decide)
      have k2 := hcell 2 (by decide)
      have k3 := hcell 3 (by decide)
      simp only [List.getElem?_cons_zero, List.getElem?_cons_succ] at k0 k1 k2 k3
      obtain ⟨g, off, spot⟩ := a
      have hspot : spot = none := hsp (by omega)
      subst hspot
      have hp : ∀ q, (⟨g, off, none⟩ : Addr).add q = ⟨g, off + q, none⟩ := fun q => by unfold Addr.add; split <;> simp_all
      have hp2 : ∀ q r, (⟨g, off + q, none⟩ : Addr).add r = ⟨g, off + q + r, none⟩ := fun q r => by unfold Addr.add; split <;> simp_all
      rw [hp, hp2] at k0 k1 k2 k3
      rw [Nat.add_zero] at k0
      exact ⟨g, off, rfl, World.block_lt_of_cell? W _ k0, ((p, q), (s, t)), ⟨k0, k1, k2, k3⟩, hp0, hq0, hs0, ht0⟩
    by_cases h0 : len0 = 0
    · subst h0
      exact ⟨[], ⟨some a, m, rfl, by simp, hm, fun h => absurd rfl h⟩, fun x hx => by simp at hx⟩
    · obtain ⟨g, off, rfl, hg, _⟩ := key 0 (by omega)
      have key2 : ∀ i, i < len0 → ∃ e : Pr, At4 W g (off + i * 4) e ∧ okPr e := by
        intro i hi
        obtain ⟨g', off', e, _, h⟩ := key i hi
        simp only [Addr.mk.injEq, and_true] at e
        obtain ⟨rfl, rfl⟩ := e
        exact h
      let F : Nat → Pr := fun i => if h : i < len0 then (key2 i h).choose else ((0, 0), (0, 0))
      have hF : ∀ i (h : i < len0), F i = (key2 i h).choose := fun i h => by simp [F, h]
      refine ⟨(List.range len0).map F, ⟨some ⟨g, off, none⟩, m, by simp, by simpa using hl, hm, fun _ => ⟨g, off, rfl, hg, fun i hi => ?_⟩⟩, fun x hx => ?_⟩
      · have hi' : i < len0 := by simpa using hi
        have e : atP ((List.range len0).map F) i = (key2 i hi').choose := by
          unfold atP
          simp [List.getD_eq_getElem?_getD, hi', hF]
        rw [e]
        exact (key2 i hi').choose_spec.1
      · obtain ⟨i, hi, rfl⟩ := List.mem_map.1 hx
        have hi' : i < len0 := by simpa using hi
        rw [hF i hi']
        exact (key2 i hi').choose_spec.2
end
end Go.Proofs.YtoeoeeomnbggkaaGreatDoor
