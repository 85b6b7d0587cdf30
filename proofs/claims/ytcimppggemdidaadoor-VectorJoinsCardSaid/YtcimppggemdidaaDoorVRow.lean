/- From what a row of package vector lets in to what the walks ask. -/
import Derived.Test.YtcimppggemdidaaDoorRow
import Derived.Test.YtcimppggemdidaaDoorVF2
namespace Go.Proofs.YtcimppggemdidaaDoor
open Go Go.ChangeShapes Go.WideShapes Go.ChangeAt Go.RowKit

theorem gHType : (Tryd.prog.globals[0]?).map (·.type) = some 118 := by kernel_rfl
theorem how_of {W : World} (h : laidMetH Tryd.prog [("linesman/vector.how", Rows.laid_linesman_vector_how)] W) : How W := by
  have h' : laidMet Tryd.prog [("linesman/vector.how", Rows.laid_linesman_vector_how)] W := h
  obtain ⟨ps, ⟨g', t', cs, fuel, p, q, hg', ht', hvar, hd, _, _⟩, _⟩ := h'
  obtain rfl := Option.some.inj (gH.symm.trans hg')
  obtain rfl := Option.some.inj (gHType.symm.trans ht')
  have c4 : Tryd.prog.cellsOf 118 = 4 := by kernel_rfl
  have c2 : Tryd.prog.cellsOf 117 = 2 := by kernel_rfl
  have c1 : Tryd.prog.cellsOf 71 = 1 := by kernel_rfl
  obtain ⟨xs, m, _, hx, hlen, hl, hel⟩ := DataW.trod_array Tryd.underlying118 hd
  rw [c2] at hel
  rw [c4] at hlen
  obtain ⟨d0, q0, d1, q1, rfl⟩ : ∃ d0 q0 d1 q1, xs = [(d0, q0), (d1, q1)] := by
    match xs, hl with
    | [(d0, q0), (d1, q1)], _ => exact ⟨d0, q0, d1, q1, rfl⟩
  have e0 := hel 0 (by decide)
  have e1 := hel 1 (by decide)
  simp only [Rows.laid_linesman_vector_how, List.map_cons, List.map_nil, Prod.mk.injEq, DataW.agg.injEq, List.cons.injEq, and_true] at hx
  obtain ⟨⟨hx0, hx1⟩, _⟩ := hx
  have f0 := Lib.cells_of_tab (k := .i64) (zs := [4, 3]) (p := q0) Tryd.underlying117 Tryd.underlying71 c1 c2 (e0.trans (by
    show some (d0, q0) = _
    rw [← hx0]; rfl))
  have f1 := Lib.cells_of_tab (k := .i64) (zs := [2, 1]) (p := q1) Tryd.underlying117 Tryd.underlying71 c1 c2 (e1.trans (by
    show some (d1, q1) = _
    rw [← hx1]; rfl))
  obtain ⟨l⟩ := cs
  obtain ⟨z0, z1, z2, z3, rfl⟩ : ∃ z0 z1 z2 z3, l = [z0, z1, z2, z3] := by
    match l, hlen with
    | [z0, z1, z2, z3], _ => exact ⟨z0, z1, z2, z3, rfl⟩
  simp at f0 f1
  obtain ⟨rfl, rfl⟩ := f0
  obtain ⟨rfl, rfl⟩ := f1
  have hc := fun i => World.var?_cell gH hvar i
  exact ⟨by simpa using hc 0, by simpa using hc 1, by simpa using hc 2, by simpa using hc 3⟩

section
variable {H : Type} {enc : TypeId × Value → H}
set_option maxRecDepth 100000 in
/-- A slice of clocks that comes in reads as clocks. -/
theorem clock_cells {fuel : Nat} {W : World} {v : Value} {d : DataW H} {ps : List MemPlace} (hf : DataW.trod enc Tryd.prog W 0 (fun _ => true) true fuel 48 [v] = some (d, ps)) : ∃ l, Words W.heap.size W v l := by
  rcases open_ints Tryd.underlying48 Tryd.underlying26 (by kernel_rfl) hf with ⟨hcs, hx⟩ | ⟨a, len, cap, zs, hcs, _, hl, hm, hz, hx, hcell, hwz⟩
  · simp only [List.cons.injEq, and_true] at hcs
    subst hcs
    exact ⟨[], Words.nil W⟩
  · simp only [List.cons.injEq, and_true] at hcs
    subst hcs
    simp only [if_true] at hz
    have hll : ((zs.take len).map fun z => UInt64.ofNat z.toNat).length = len := by simp; omega
    refine ⟨(zs.take len).map fun z => UInt64.ofNat z.toNat, some a, cap, by rw [hll], by rw [hll]; exact hl, hm, fun hne => ?_⟩
    have hpos : 0 < zs.length := by
      have : 0 < len := by rw [← hll]; exact List.length_pos_iff.2 hne
      omega
    obtain ⟨b, off, rfl, hc⟩ := ints_at hcell hpos
    refine ⟨b, off, rfl, World.block_lt_of_cell? W _ (hc 0 hpos), fun i hi => ?_⟩
    rw [hll] at hi
    rw [hc i (by omega)]
    have hz8 : (Lit.int .u64 (zs.getD i 0)).wf = true := by
      have hin : i < zs.length := by omega
      rw [List.getD_eq_getElem?_getD, List.getElem?_eq_getElem hin]
      exact hwz _ (List.getElem_mem hin)
    have hb := bounds_u64 hz8
    have e : ((zs.take len).map fun z => UInt64.ofNat z.toNat).getD i 0 = UInt64.ofNat (zs.getD i 0).toNat := by
      have hin : i < zs.length := by omega
      simp [hi, hin]
    rw [e]
    unfold wordV
    rw [show (UInt64.ofNat (zs.getD i 0).toNat).toNat = (zs.getD i 0).toNat % 18446744073709551616 from UInt64.toNat_ofNat']
    have : (((zs.getD i 0).toNat % 18446744073709551616 : Nat) : Int) = zs.getD i 0 := by omega
    rw [this]
set_option maxRecDepth 100000 in
theorem arg_clock {r : Reach} {b0 : Nat} {W : World} {v : Value} {d : DataW H} {ps : List MemPlace} (hval : Value.okWide Tryd.prog W r b0 48 v)
    (hd : DataW.Trod enc Tryd.prog W 0 (fun _ => true) true 48 v d ps) : ∃ l, Words W.heap.size W v l := by
  obtain ⟨a0, len, cap, rfl⟩ := okWide_slice Tryd.underlying48 hval
  obtain ⟨fuel, hf⟩ := hd
  exact clock_cells hf
set_option maxRecDepth 100000 in
theorem arg_u64v {r : Reach} {b0 : Nat} {W : World} {v : Value} {d : DataW H} {ps : List MemPlace} (hval : Value.okWide Tryd.prog W r b0 49 v)
    (hd : DataW.Trod enc Tryd.prog W 0 (fun _ => true) true 49 v d ps) : ∃ n : Nat, v = .int .u64 n ∧ U64 n := by
  obtain ⟨x, rfl, rfl, rfl, wx⟩ := open_int Tryd.underlying49 hval hd
  have hb := bounds_u64 wx
  exact ⟨x.toNat, by rw [show ((x.toNat : Nat) : Int) = x by omega], by unfold U64; omega⟩
set_option maxRecDepth 100000 in
/-- An array of three lists of clocks that comes in. -/
theorem arg_three {r : Reach} {b0 : Nat} {W : World} {v : Value} {d : DataW H} {ps : List MemPlace} (hval : Value.okWide Tryd.prog W r b0 67 v)
    (hd : DataW.Trod enc Tryd.prog W 0 (fun _ => true) true 67 v d ps) : ∃ x y z a b c, v = .agg #[x, y, z] ∧ Words W.heap.size W x a ∧ Words W.heap.size W y b ∧ Words W.heap.size W z c := by
  obtain ⟨cs, rfl, hsz, hrow⟩ : ∃ cs, v = .agg cs ∧ cs.size = Tryd.prog.cellsOf 67 ∧ Row.okWide Tryd.prog W r b0 67 cs := by
    simpa [Value.okWide, Tryd.underlying67] using hval
  have c3 : Tryd.prog.cellsOf 67 = 3 := by kernel_rfl
  have c1 : Tryd.prog.cellsOf 48 = 1 := by kernel_rfl
  rw [c3] at hsz
  obtain ⟨l⟩ := cs
  obtain ⟨x0, x1, x2, rfl⟩ : ∃ x0 x1 x2, l = [x0, x1, x2] := by
    match l, hsz with
    | [x0, x1, x2], _ => exact ⟨x0, x1, x2, rfl⟩
  obtain ⟨fuel, hf⟩ := hd
  obtain ⟨xs, m, _, _, _, hl, hel⟩ := DataW.trod_array Tryd.underlying67 hf
  rw [c1] at hel
  obtain ⟨y0, y1, y2, rfl⟩ : ∃ y0 y1 y2, xs = [y0, y1, y2] := by
    match xs, hl with
    | [y0, y1, y2], _ => exact ⟨y0, y1, y2, rfl⟩
  rcases y0 with ⟨d0, q0⟩
  rcases y1 with ⟨d1, q1⟩
  rcases y2 with ⟨d2, q2⟩
  have h0 := hel 0 (by decide)
  have h1 := hel 1 (by decide)
  have h2 := hel 2 (by decide)
  simp [Value.cells] at h0 h1 h2
  obtain ⟨a, ha⟩ := clock_cells h0
  obtain ⟨b, hb⟩ := clock_cells h1
  obtain ⟨c, hc⟩ := clock_cells h2
  exact ⟨x0, x1, x2, a, b, c, rfl, ha, hb, hc⟩
end
end Go.Proofs.YtcimppggemdidaaDoor
