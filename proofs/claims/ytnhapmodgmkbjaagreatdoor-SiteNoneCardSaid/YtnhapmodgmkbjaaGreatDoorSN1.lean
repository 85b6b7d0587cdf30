/- isNone, holds, put, Add, Len of a set of pairs: contracts. -/
import Derived.Deep.RegionLaw
import Derived.Test.YtnhapmodgmkbjaaGreatDoorSMap
import Derived.Test.YtnhapmodgmkbjaaGreatDoorSF9
namespace Go.Proofs.YtnhapmodgmkbjaaGreatDoor
open Go Go.RowKit Go.Maps

theorem isNoneS_nil (w : World) :
    Calls Tryz.prog 19 #[.pointer none] w fun e w' => e = .returned (.bool true) ∧ w = w' := by
  go_enter Tryz.func19, Tryz.ntmps19
  go_wp2
  go_ret
  exact ⟨rfl, rfl⟩
theorem isNoneS_zero (bp : Nat) (w : World) (hc : w.cell? ⟨bp, 0, none⟩ = some (.map none)) :
    Calls Tryz.prog 19 #[.pointer (some ⟨bp, 0, none⟩)] w fun e w' => e = .returned (.bool true) ∧ w = w' := by
  have he := run_eql_map_nil (P := Tryz.prog) w 44 57 79 none Tryz.underlying44
  go_enter Tryz.func19, Tryz.ntmps19
  go_wp2
  go_ret
  exact ⟨rfl, rfl⟩
theorem isNoneS_full (bp b : Nat) (w : World) (hc : w.cell? ⟨bp, 0, none⟩ = some (.map (some b))) :
    Calls Tryz.prog 19 #[.pointer (some ⟨bp, 0, none⟩)] w fun e w' => e = .returned (.bool false) ∧ w = w' := by
  have he := run_eql_map_nil (P := Tryz.prog) w 44 57 79 (some b) Tryz.underlying44
  go_enter Tryz.func19, Tryz.ntmps19
  go_wp2
  go_ret
  exact ⟨rfl, rfl⟩

/-- A set of pairs: the pairs' block, the map's block, its pairs. -/
structure SetP (w : World) (v : Value) (bp b : Nat) (L : List Pr) : Prop where
  ptr : v = .pointer (some ⟨bp, 0, none⟩)
  box : BkS 46 w bp [.map (some b)]
  set : SetAt w b L
/-- None: nil, or a zero one. -/
def NoSet (w : World) (v : Value) : Prop := v = .pointer none ∨ ∃ bp, v = .pointer (some ⟨bp, 0, none⟩) ∧ w.cell? ⟨bp, 0, none⟩ = some (.map none)
theorem SetP.c0 {w : World} {v : Value} {bp b : Nat} {L : List Pr} (h : SetP w v bp b L) : w.cell? ⟨bp, 0, none⟩ = some (.map (some b)) := h.box.cell 0
theorem SetP.ne {w : World} {v : Value} {bp b : Nat} {L : List Pr} (h : SetP w v bp b L) : bp ≠ b := by
  rintro rfl
  obtain ⟨n, es, ⟨es0, clock, h0, _⟩, _⟩ := h.set
  have := h.box
  unfold BkS at this
  rw [h0] at this
  cases this
theorem SetP.adds {w w' : World} {v : Value} {bp b : Nat} {L : List Pr} (h : SetP w v bp b L) (ha : Adds w w') : SetP w' v bp b L := ⟨h.ptr, h.box.adds ha, h.set.adds ha⟩
theorem SetP.turn {w w' : World} {v : Value} {bp b : Nat} {L L' : List Pr} (h : SetP w v bp b L) (ht : TnS b w w') (hs : SetAt w' b L') : SetP w' v bp b L' :=
  ⟨h.ptr, (ht.block bp h.box.lt (fun e => by cases e; exact h.ne rfl)).trans h.box, hs⟩
theorem isNoneS_no (v : Value) (w : World) (h : NoSet w v) :
    Calls Tryz.prog 19 #[v] w fun e w' => e = .returned (.bool true) ∧ w = w' := by
  rcases h with rfl | ⟨bp, rfl, hc⟩
  · exact isNoneS_nil w
  · exact isNoneS_zero bp w hc

set_option maxRecDepth 100000 in
theorem setHolds_any (b : Nat) (L : List Pr) (x : Pr) (hx : okPr x) (w : World) (h : SetAt w b L) :
    Calls Tryz.prog 24 #[.map (some b), prV x] w fun e w' => e = .returned (.bool (decide (x ∈ L))) ∧ Gr w w' := by
  obtain ⟨m, hm⟩ : ∃ m, decide (x ∈ L) = m := ⟨_, rfl⟩
  have hl := (h.adds (Gr.new w (.cells (prC x).toArray 57)).adds).look hx
  rw [hm] at hl ⊢
  obtain ⟨⟨f, p⟩, ⟨g, q⟩⟩ := x
  clear hm h hx
  go_enter Tryz.func24, Tryz.ntmps24
  go_wp2
  go_ret
  exact ⟨rfl, (Gr.new _ _).alloc _⟩

section
variable {ops : Array Oper} {rest : List Oper} {o : Oper} {a : Act} {w : World} {Q : Exit → Act → World → Prop}
theorem wpList_putS (hg : o.guard = none) (m x v : Operand) (hop : o.op = Op.mapUpdate 44 m x v) (b : Nat) (y : Pr) (L : List Pr) (hm : a.eval m = .map (some b)) (hx : a.eval x = prV y) (hv : a.eval v = .agg #[])
    (h : SetAt w b L) (hl : L.length < maxLen) (hy : okPr y) (hn : y ∉ L)
    (hK : ∀ w', SetAt w' b (y :: L) → w.grownBy w' (some b) → wpList Tryz.prog ops Q rest (a.put o.dst undef) w') : wpList Tryz.prog ops Q (o :: rest) a w := by
  refine wpList_plain hg fun K' hK' => ?_
  obtain ⟨w', hrun, r1, r2⟩ := h.put hl hy hn
  unfold Oper.wp
  simp [execOp, hop, hm, hx, hv, hrun, Result.andThen]
  exact hK' _ _ (hK w' r1 r2)
end
set_option maxRecDepth 100000 in
theorem put_old (b : Nat) (L : List Pr) (x : Pr) (hx : okPr x) (hm : x ∈ L) (w : World) (h : SetAt w b L) :
    Calls Tryz.prog 21 #[.map (some b), prV x] w fun e w' => e = .returned (.bool false) ∧ Gr w w' := by
  have HH := Lib.hid (fun (W : World) (hA : Adds w W) => setHolds_any b L x hx W (h.adds hA))
  rw [decide_eq_true hm] at HH
  obtain ⟨⟨f, p⟩, ⟨g, q⟩⟩ := x
  clear hm h hx
  go_enter Tryz.func21, Tryz.ntmps21
  go_wp2_with (go_at_call 24; refine (HH.out _ (Gr.new w _).adds).mono ?_; rintro e w2 ⟨rfl, h1⟩; have H1 := Lib.hid ((Gr.new w _).trans h1); clear h1)
  go_ret
  exact ⟨rfl, H1.out⟩
set_option maxRecDepth 100000 in
theorem put_new (b : Nat) (L : List Pr) (x : Pr) (hx : okPr x) (hm : x ∉ L) (hl : L.length < 1000000) (w : World) (h : SetAt w b L) :
    Calls Tryz.prog 21 #[.map (some b), prV x] w fun e w' => e = .returned (.bool true) ∧ SetAt w' b (x :: L) ∧ TnS b w w' := by
  have HH := Lib.hid (fun (W : World) (hA : Adds w W) => setHolds_any b L x hx W (h.adds hA))
  rw [decide_eq_false hm] at HH
  have HX := Lib.hid hx
  have HM := Lib.hid hm
  have HS := Lib.hid h
  have HL := Lib.hid hl
  obtain ⟨⟨f, p⟩, ⟨g, q⟩⟩ := x
  clear hm h hx hl
  go_enter Tryz.func21, Tryz.ntmps21
  go_wp2_with (first
    | (go_at_call 24; refine (HH.out _ (Gr.new w _).adds).mono ?_; rintro e w2 ⟨rfl, h1⟩; have hb2 : BkS 57 w2 w.heap.size [.int .i64 f, .int .i64 p, .int .i64 g, .int .i64 q] := (BkS.new _ _ _).adds h1.adds; have c0 : w2.cell? ⟨w.heap.size, 0, none⟩ = some (.int .i64 f) := hb2.cell 0; have c1 : w2.cell? ⟨w.heap.size, 1, none⟩ = some (.int .i64 p) := hb2.cell 1; have c2 : w2.cell? ⟨w.heap.size, 2, none⟩ = some (.int .i64 g) := hb2.cell 2; have c3 : w2.cell? ⟨w.heap.size, 3, none⟩ = some (.int .i64 q) := hb2.cell 3; have H1 := Lib.hid ((Gr.new w _).trans h1); clear h1 hb2)
    | (at_mapUpdate; refine wpList_putS rfl _ _ _ rfl b ((f, p), (g, q)) L rfl rfl rfl (HS.out.adds H1.out.adds) (by have := HL.out; unfold maxLen; omega) HX.out HM.out ?_; intro w4 s4 g4; have S4 := Lib.hid s4; have G4 := Lib.hid g4; clear s4 g4))
  go_ret
  exact ⟨rfl, S4.out, (TnS.of_adds b H1.out.adds).trans G4.out⟩
end Go.Proofs.YtnhapmodgmkbjaaGreatDoor
