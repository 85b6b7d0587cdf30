/- Merged: GRow2, MRw. -/
import Derived.Test.YthhegcngkpfcoaaGreatDoorRows
import Derived.WalkKit
import Derived.ProofKit
import Derived.OpenShut
import Derived.Deep.DeepHandedRow
import Derived.Deep.Slices
import Derived.Lib.LaidTab
import Derived.SizedLaws
import Derived.Test.YthhegcngkpfcoaaGreatDoorE10
import Derived.Test.YthhegcngkpfcoaaGreatDoorE1
import Derived.Test.YthhegcngkpfcoaaGreatDoorE44
import Derived.Stop.LaidErr
namespace Go.Proofs.YthhegcngkpfcoaaGreatDoor
open Go Go.ChangeShapes Go.WideShapes Go.ChangeAt Go.RowKit

/-- What was read is of a size that a machine bears. -/
def Wok {H : Type} (t : TypeId) (d : DataW H) : Prop := ∀ n ∈ d.weights Tryz.prog t, n ≤ reachBytes
theorem bI40 : Tryz.prog.bytesOf 59 = 40 := by kernel_rfl
theorem weights_all {H : Type} {P : Program} {e : TypeId} {d : DataW H} {l : List (DataW H)} (h : d ∈ l) {n : Nat} (hn : n ∈ d.weights P e) : n ∈ DataW.weightsAll P e l := by
  induction l with
  | nil => cases h
  | cons x r ih =>
    rw [DataW.weightsAll]
    rcases List.mem_cons.1 h with rfl | h
    · exact List.mem_append_left _ hn
    · exact List.mem_append_right _ (ih h)
theorem Wok.code {H : Type} {len : Nat} {D : Nat → DataW H} {sp : List (DataW H)} (h : Wok 53 (.slice ((List.range len).map D) sp)) : len ≤ 4398046511104 := by
  have h1 := h ((((List.range len).map D).length + sp.length) * Tryz.prog.bytesOf 59) (by rw [DataW.weights, Tryz.underlying53]; exact List.mem_cons_self ..)
  rw [bI40, List.length_map, List.length_range] at h1
  unfold reachBytes at h1
  omega
theorem Wok.func {H : Type} {len : Nat} {D : Nat → DataW H} {sp : List (DataW H)} (h : Wok 22 (.slice ((List.range len).map D) sp)) {k : Nat} (hk : k < len) : Wok 55 (D k) := fun n hn => h n (by
  rw [DataW.weights, Tryz.underlying22]
  exact List.mem_cons_of_mem _ (List.mem_append_left _ (weights_all (List.mem_map_of_mem (f := D) (List.mem_range.2 hk)) hn)))
theorem Wok.part {H : Type} {d0 d1 : DataW H} (h : Wok 55 (.agg [d0, d1])) : Wok 53 d1 := fun n hn => h n (by
  rw [DataW.weights, Tryz.underlying55]
  simp only [List.map_cons, List.map_nil, DataW.weightsEach]
  simp [hn])
theorem Wok.funcs {H : Type} {d0 d1 d2 d3 : DataW H} (h : Wok 24 (.agg [d0, d1, d2, d3])) : Wok 22 d0 := fun n hn => h n (by
  rw [DataW.weights, Tryz.underlying24]
  simp only [List.map_cons, List.map_nil, DataW.weightsEach]
  simp [hn])
theorem pick_list {α : Type} (z : α) (n : Nat) (P : Nat → α → Prop) (h : ∀ i, i < n → ∃ e, P i e) : ∃ l : List α, l.length = n ∧ ∀ i, i < n → P i (l.getD i z) := by
  classical
  let F : Nat → α := fun i => if h' : i < n then (h i h').choose else z
  refine ⟨(List.range n).map F, by simp, fun i hi => ?_⟩
  have e : ((List.range n).map F).getD i z = (h i hi).choose := by simp [List.getD_eq_getElem?_getD, hi, F]
  rw [e]
  exact (h i hi).choose_spec

section
variable {H : Type} {enc : TypeId × Value → H}
theorem cI5 : Tryz.prog.cellsOf 59 = 5 := by kernel_rfl
theorem cF2 : Tryz.prog.cellsOf 55 = 2 := by kernel_rfl
theorem cP4 : Tryz.prog.cellsOf 24 = 4 := by kernel_rfl
theorem cN1 : Tryz.prog.cellsOf 3 = 1 := by kernel_rfl
theorem cO1 : Tryz.prog.cellsOf 56 = 1 := by kernel_rfl
theorem cW1 : Tryz.prog.cellsOf 57 = 1 := by kernel_rfl
theorem cLI1 : Tryz.prog.cellsOf 53 = 1 := by kernel_rfl
theorem cLF1 : Tryz.prog.cellsOf 22 = 1 := by kernel_rfl
theorem wf_u32p {n : Int} (h : (Lit.int .u32 n).wf = true) : 0 ≤ n ∧ n < 4294967296 := by
  have h1 : IntKind.u32.min = 0 := by decide
  have h2 : IntKind.u32.max = 4294967295 := by decide
  simp [Lit.wf, h1, h2] at h
  omega
set_option maxRecDepth 100000 in
/-- A code that comes in. -/
theorem code_in {fuel : Nat} {W : World} {v : Value} {x : DataW H × List MemPlace} (hf : DataW.trod enc Tryz.prog W 0 (fun _ => true) true fuel 53 [v] = some x) : ∃ c, CodeW W.heap.size W v c ∧ (∀ x ∈ c, OkIn x) ∧ (Wok 53 x.1 → c.length ≤ 4398046511104) := by
  rcases Deep.open_slice Tryz.underlying53 hf with ⟨hcs, _⟩ | ⟨a, len, cap, m, n, D, Pl, hcs, _, hl, hm, hmm, rfl, hel⟩
  · simp only [List.cons.injEq, and_true] at hcs
    subst hcs
    exact ⟨[], ⟨none, 0, rfl, by simp, by simp, fun h => absurd rfl h⟩, fun x hx => by simp at hx, fun _ => Nat.zero_le _⟩
  · simp only [List.cons.injEq, and_true] at hcs
    subst hcs
    simp only [if_true] at hmm
    subst hmm
    have hsp : 0 < len → a.spot = none := by
      intro h0
      obtain ⟨cs, hcs, _⟩ := hel 0 (by omega)
      rw [cI5] at hcs
      obtain ⟨_, hlen, hcell⟩ := World.cells?_some hcs
      have k0 := hcell 0 (by decide)
      rw [List.getElem?_eq_getElem (by omega)] at k0
      simpa [Addr.add] using World.cell?_spot k0
    have key : ∀ i, i < len → ∃ g off, a = ⟨g, off, none⟩ ∧ g < W.heap.size ∧ ∃ e, At5 W g (off + i * 5) e ∧ OkIn e := by
      intro i hi
      obtain ⟨cs, hcs, hx⟩ := hel i (by omega)
      rw [cI5] at hcs
      obtain ⟨_, hlen, hcell⟩ := World.cells?_some hcs
      obtain ⟨xs, n', rfl, _, _, hxl, hfld⟩ := DataW.trod_struct Tryz.underlying59 hx
      have f0 := hfld 0 _ rfl
      have f1 := hfld 1 _ rfl
      have f2 := hfld 2 _ rfl
      have f3 := hfld 3 _ rfl
      have f4 := hfld 4 _ rfl
      obtain ⟨z0, z1, z2, z3, z4, rfl⟩ : ∃ z0 z1 z2 z3 z4, cs = [z0, z1, z2, z3, z4] := by
        match cs, hlen with
        | [z0, z1, z2, z3, z4], _ => exact ⟨z0, z1, z2, z3, z4, rfl⟩
      obtain ⟨x0, x1, x2, x3, x4, rfl⟩ : ∃ x0 x1 x2 x3 x4, xs = [x0, x1, x2, x3, x4] := by
        match xs, hxl with
        | [x0, x1, x2, x3, x4], _ => exact ⟨x0, x1, x2, x3, x4, rfl⟩
      simp [cN1, cO1, cW1] at f0 f1 f2 f3 f4
      obtain ⟨v0, e0, _, w0⟩ := DataW.trod_int Tryz.underlying56 f0
      obtain ⟨v1, e1, _, _⟩ := DataW.trod_int Tryz.underlying3 f1
      obtain ⟨v2, e2, _, _⟩ := DataW.trod_int Tryz.underlying3 f2
      obtain ⟨v3, e3, _, _⟩ := DataW.trod_int Tryz.underlying3 f3
      obtain ⟨v4, e4, _, w4⟩ := DataW.trod_int Tryz.underlying57 f4
      simp only [List.cons.injEq, and_true] at e0 e1 e2 e3 e4
      subst e0 e1 e2 e3 e4
      have k0 := hcell 0 (by decide)
      have k1 := hcell 1 (by decide)
      have k2 := hcell 2 (by decide)
      have k3 := hcell 3 (by decide)
      have k4 := hcell 4 (by decide)
      simp only [List.getElem?_cons_zero, List.getElem?_cons_succ] at k0 k1 k2 k3 k4
      obtain ⟨g, off, spot⟩ := a
      have hspot : spot = none := hsp (by omega)
      subst hspot
      have hp : ∀ q, (⟨g, off, none⟩ : Addr).add q = ⟨g, off + q, none⟩ := fun q => by unfold Addr.add; split <;> simp_all
      have hp2 : ∀ q r, (⟨g, off + q, none⟩ : Addr).add r = ⟨g, off + q + r, none⟩ := fun q r => by unfold Addr.add; split <;> simp_all
      rw [hp, hp2] at k0 k1 k2 k3 k4
      exact ⟨g, off, rfl, World.block_lt_of_cell? W _ k0, (v0, v1, v2, v3, v4), ⟨k0, k1, k2, k3, k4⟩, w0, wf_u32p w4⟩
    by_cases h0 : len = 0
    · subst h0
      exact ⟨[], ⟨some a, m, rfl, by simp, hm, fun h => absurd rfl h⟩, fun x hx => by simp at hx, fun _ => Nat.zero_le _⟩
    · obtain ⟨g, off, rfl, hg, _⟩ := key 0 (by omega)
      obtain ⟨l, hll, hlk⟩ := pick_list zI len (fun i e => At5 W g (off + i * 5) e ∧ OkIn e) (by
        intro i hi
        obtain ⟨g', off', e, _, h⟩ := key i hi
        simp only [Addr.mk.injEq, and_true] at e
        obtain ⟨rfl, rfl⟩ := e
        exact h)
      subst hll
      refine ⟨l, ⟨some ⟨g, off, none⟩, m, rfl, hl, hm, fun _ => ⟨g, off, rfl, hg, fun i hi => (hlk i hi).1⟩⟩, fun x hx => ?_, fun h => h.code⟩
      obtain ⟨i, hi, rfl⟩ := List.mem_iff_getElem.1 hx
      have h := (hlk i hi).2
      rwa [List.getD_eq_getElem?_getD, List.getElem?_eq_getElem hi] at h
set_option maxRecDepth 100000 in
/-- Functions that come in. -/
theorem funcs_in {fuel : Nat} {W : World} {v : Value} {x : DataW H × List MemPlace} (hf : DataW.trod enc Tryz.prog W 0 (fun _ => true) true fuel 22 [v] = some x) : ∃ fs, FuncsW W.heap.size W v fs ∧ (Wok 22 x.1 → ∀ f ∈ fs, f.2.length ≤ 4398046511104) := by
  rcases Deep.open_slice Tryz.underlying22 hf with ⟨hcs, _⟩ | ⟨a, len, cap, m, n, D, Pl, hcs, _, hl, hm, hmm, rfl, hel⟩
  · simp only [List.cons.injEq, and_true] at hcs
    subst hcs
    exact ⟨[], ⟨none, 0, rfl, by simp, by simp, fun h => absurd rfl h⟩, fun _ f hf => by simp at hf⟩
  · simp only [List.cons.injEq, and_true] at hcs
    subst hcs
    simp only [if_true] at hmm
    subst hmm
    have hsp : 0 < len → a.spot = none := by
      intro h0
      obtain ⟨cs, hcs, _⟩ := hel 0 (by omega)
      rw [cF2] at hcs
      obtain ⟨_, hlen, hcell⟩ := World.cells?_some hcs
      have k0 := hcell 0 (by decide)
      rw [List.getElem?_eq_getElem (by omega)] at k0
      simpa [Addr.add] using World.cell?_spot k0
    have key : ∀ i, i < len → ∃ g off, a = ⟨g, off, none⟩ ∧ g < W.heap.size ∧ ∃ e, FuncAt W.heap.size W g (off + i * 2) e ∧ (Wok 55 (D i) → e.2.length ≤ 4398046511104) := by
      intro i hi
      obtain ⟨cs, hcs, hx⟩ := hel i (by omega)
      rw [cF2] at hcs
      obtain ⟨_, hlen, hcell⟩ := World.cells?_some hcs
      obtain ⟨xs, n', rfl, hDi, _, hxl, hfld⟩ := DataW.trod_struct Tryz.underlying55 hx
      have f0 := hfld 0 _ rfl
      have f1 := hfld 1 _ rfl
      obtain ⟨z0, z1, rfl⟩ : ∃ z0 z1, cs = [z0, z1] := by
        match cs, hlen with
        | [z0, z1], _ => exact ⟨z0, z1, rfl⟩
      obtain ⟨x0, x1, rfl⟩ : ∃ x0 x1, xs = [x0, x1] := by
        match xs, hxl with
        | [x0, x1], _ => exact ⟨x0, x1, rfl⟩
      simp [cN1, cLI1] at f0 f1
      obtain ⟨v0, e0, _, _⟩ := DataW.trod_int Tryz.underlying3 f0
      obtain ⟨c, hc, hok, hcl⟩ := code_in f1
      simp only [List.cons.injEq, and_true] at e0
      subst e0
      have k0 := hcell 0 (by decide)
      have k1 := hcell 1 (by decide)
      simp only [List.getElem?_cons_zero, List.getElem?_cons_succ] at k0 k1
      obtain ⟨g, off, spot⟩ := a
      have hspot : spot = none := hsp (by omega)
      subst hspot
      have hp : ∀ q, (⟨g, off, none⟩ : Addr).add q = ⟨g, off + q, none⟩ := fun q => by unfold Addr.add; split <;> simp_all
      have hp2 : ∀ q r, (⟨g, off + q, none⟩ : Addr).add r = ⟨g, off + q + r, none⟩ := fun q r => by unfold Addr.add; split <;> simp_all
      rw [hp, hp2] at k0 k1
      refine ⟨g, off, rfl, World.block_lt_of_cell? W _ k0, (v0, c), ⟨k0, z1, k1, hc, hok⟩, ?_⟩
      have hD : D i = .agg [x0.1, x1.1] := by simpa using (Prod.mk.inj hDi).1
      rw [hD]
      exact fun h => hcl h.part
    by_cases h0 : len = 0
    · subst h0
      exact ⟨[], ⟨some a, m, rfl, by simp, hm, fun h => absurd rfl h⟩, fun _ f hf => by simp at hf⟩
    · obtain ⟨g, off, rfl, hg, _⟩ := key 0 (by omega)
      obtain ⟨l, hll, hlk⟩ := pick_list zF len (fun i e => FuncAt W.heap.size W g (off + i * 2) e ∧ (Wok 55 (D i) → e.2.length ≤ 4398046511104)) (by
        intro i hi
        obtain ⟨g', off', e, _, h⟩ := key i hi
        simp only [Addr.mk.injEq, and_true] at e
        obtain ⟨rfl, rfl⟩ := e
        exact h)
      subst hll
      refine ⟨l, ⟨some ⟨g, off, none⟩, m, rfl, hl, hm, fun _ => ⟨g, off, rfl, hg, fun i hi => (hlk i hi).1⟩⟩, fun hw f hf => ?_⟩
      obtain ⟨i, hi, rfl⟩ := List.mem_iff_getElem.1 hf
      have h := (hlk i hi).2
      rw [List.getD_eq_getElem?_getD, List.getElem?_eq_getElem hi] at h
      exact h (hw.func hi)
set_option maxRecDepth 100000 in
/-- A program that comes in. -/
theorem arg_program {r : Reach} {b0 : Nat} {W : World} {v : Value} {d : DataW H} {ps : List MemPlace} (hval : Value.okWide Tryz.prog W r b0 24 v)
    (hd : DataW.Trod enc Tryz.prog W 0 (fun _ => true) true 24 v d ps) : ∃ (u : Value) (p : Pg), v = pgV u p ∧ FuncsW W.heap.size W u p.1 ∧ (Wok 24 d → ∀ f ∈ p.1, f.2.length ≤ 4398046511104) := by
  obtain ⟨cs, rfl, hsz, _⟩ : ∃ cs, v = .agg cs ∧ cs.size = Tryz.prog.cellsOf 24 ∧ Row.okWide Tryz.prog W r b0 24 cs := by
    simpa [Value.okWide, Tryz.underlying24] using hval
  rw [cP4] at hsz
  obtain ⟨l⟩ := cs
  obtain ⟨z0, z1, z2, z3, rfl⟩ : ∃ z0 z1 z2 z3, l = [z0, z1, z2, z3] := by
    match l, hsz with
    | [z0, z1, z2, z3], _ => exact ⟨z0, z1, z2, z3, rfl⟩
  obtain ⟨fuel, hf⟩ := hd
  obtain ⟨xs, n', _, hD, _, hxl, hfld⟩ := DataW.trod_struct Tryz.underlying24 hf
  have f0 := hfld 0 _ rfl
  have f1 := hfld 1 _ rfl
  have f2 := hfld 2 _ rfl
  have f3 := hfld 3 _ rfl
  obtain ⟨x0, x1, x2, x3, rfl⟩ : ∃ x0 x1 x2 x3, xs = [x0, x1, x2, x3] := by
    match xs, hxl with
    | [x0, x1, x2, x3], _ => exact ⟨x0, x1, x2, x3, rfl⟩
  simp [cN1, cLF1, Value.cells] at f0 f1 f2 f3
  obtain ⟨fs, hfs, hfl⟩ := funcs_in f0
  obtain ⟨v1, e1, _, _⟩ := DataW.trod_int Tryz.underlying3 f1
  obtain ⟨v2, e2, _, _⟩ := DataW.trod_int Tryz.underlying3 f2
  obtain ⟨v3, e3, _, _⟩ := DataW.trod_int Tryz.underlying3 f3
  simp only [List.cons.injEq, and_true] at e1 e2 e3
  subst e1 e2 e3
  refine ⟨z0, (fs, v1, v2, v3), rfl, hfs, fun hw => hfl ?_⟩
  have hD' : d = .agg [x0.1, x1.1, x2.1, x3.1] := by simpa using (Prod.mk.inj hD).1
  rw [hD'] at hw
  exact hw.funcs
end
end Go.Proofs.YthhegcngkpfcoaaGreatDoor
namespace Go.Proofs.YthhegcngkpfcoaaGreatDoor
open Go Go.ChangeShapes Go.WideShapes Go.ChangeAt Go.RowKit

theorem gBg : Tryz.prog.globalNamed "linesman/image.beginning" = some 0 := by kernel_rfl
theorem gBgType : (Tryz.prog.globals[0]?).map (·.type) = some 85 := by kernel_rfl
/-- What the list gives: the widths, the beginning. -/
theorem mVars_of {W : World} (h : laidMetH Tryz.prog [("linesman/octet.widths", Rows.laid_linesman_octet_widths), ("linesman/image.beginning", Rows.laid_linesman_image_beginning)] W) : MVars W := by
  have h' : laidMet Tryz.prog [("linesman/octet.widths", Rows.laid_linesman_octet_widths), ("linesman/image.beginning", Rows.laid_linesman_image_beginning)] W := h
  have t : Lib.TabIs Tryz.prog W "linesman/octet.widths" .i64 [1, 2, 4, 8] := Lib.tabIs_of_head gW gWType Tryz.underlying172 Tryz.underlying3 (by kernel_rfl) (by kernel_rfl) h'
  have b : Lib.TabIs Tryz.prog W "linesman/image.beginning" .u8 [108, 105, 110, 101] := Lib.tabIs_of_head gBg gBgType Tryz.underlying85 Tryz.underlying5 (by kernel_rfl) (by kernel_rfl) h'.tail
  exact ⟨⟨t.cell gW 0 (by decide), t.cell gW 1 (by decide), t.cell gW 2 (by decide), t.cell gW 3 (by decide)⟩, ⟨b.cell gBg 0 (by decide), b.cell gBg 1 (by decide), b.cell gBg 2 (by decide), b.cell gBg 3 (by decide)⟩⟩
end Go.Proofs.YthhegcngkpfcoaaGreatDoor
