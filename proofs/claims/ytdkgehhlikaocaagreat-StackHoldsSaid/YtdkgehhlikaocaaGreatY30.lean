/- Merged: ZRow2, G11, G12. -/
import Derived.Test.YtdkgehhlikaocaaGreatY6
import Derived.Test.YtdkgehhlikaocaaGreatY7
import Derived.Test.YtdkgehhlikaocaaGreatY19
namespace Go.Proofs.YtdkgehhlikaocaaGreat
open Go Go.ChangeShapes Go.WideShapes Go.ChangeAt Go.RowKit

/-- A call: which, how many frames are allowed, a register, a word. -/
abbrev A4 := Int × Int × Int × UInt32
def okA4 (x : A4) : Prop := (-9223372036854775808 ≤ x.1 ∧ x.1 ≤ 9223372036854775807) ∧ (-9223372036854775808 ≤ x.2.1 ∧ x.2.1 ≤ 9223372036854775807) ∧ (-9223372036854775808 ≤ x.2.2.1 ∧ x.2.2.1 ≤ 9223372036854775807)
def At4 (w : World) (g o : Nat) (x : A4) : Prop := w.cell? ⟨g, o, none⟩ = some (.int .i64 x.1) ∧ w.cell? ⟨g, o + 1, none⟩ = some (.int .i64 x.2.1) ∧ w.cell? ⟨g, o + 2, none⟩ = some (.int .i64 x.2.2.1) ∧ w.cell? ⟨g, o + 3, none⟩ = some (.int .u32 (x.2.2.2.toNat : Nat))
def zA4 : A4 := (0, 0, 0, 0)
/-- A slice of calls, in memory below block N. -/
def Acts12 (N : Nat) (w : World) (v : Value) (l : List A4) : Prop :=
  ∃ ao cap, v = .slice ao l.length cap ∧ l.length ≤ maxLen ∧ (l ≠ [] → ∃ g off, ao = some ⟨g, off, none⟩ ∧ g < N ∧ ∀ i, i < l.length → At4 w g (off + i * 4) (l.getD i zA4))
theorem Acts12.at {N : Nat} {w w' : World} {v : Value} {l : List A4} (h : Acts12 N w v l) (ha : Adds w w') {k : Nat} (hk : k < l.length) : ∃ g off cap, v = .slice (some ⟨g, off, none⟩) l.length cap ∧ At4 w' g (off + k * 4) (l.getD k zA4) := by
  obtain ⟨ao, cap, rfl, hm, hat⟩ := h
  obtain ⟨g, off, rfl, hg, hat⟩ := hat (by rintro rfl; simp at hk)
  obtain ⟨h0, h1, h2, h3⟩ := hat k hk
  exact ⟨g, off, cap, rfl, ha.cellAt h0, ha.cellAt h1, ha.cellAt h2, ha.cellAt h3⟩
section
variable {H : Type} {enc : TypeId × Value → H}
theorem cS6 : Tryz.prog.cellsOf 27 = 6 := by kernel_rfl
theorem cLW1 : Tryz.prog.cellsOf 25 = 1 := by kernel_rfl
set_option maxRecDepth 100000 in
theorem trod_act12 {fuel : Nat} {W : World} {cs : List Value} {x : DataW H × List MemPlace} (hl : cs.length = 4) (hf : DataW.trod enc Tryz.prog W 0 (fun _ => true) true fuel 50 cs = some x) : ∃ y : A4, cs = [.int .i64 y.1, .int .i64 y.2.1, .int .i64 y.2.2.1, .int .u32 (y.2.2.2.toNat : Nat)] ∧ okA4 y := by
  obtain ⟨z0, z1, z2, z3, rfl⟩ : ∃ z0 z1 z2 z3, cs = [z0, z1, z2, z3] := by
    match cs, hl with
    | [z0, z1, z2, z3], _ => exact ⟨z0, z1, z2, z3, rfl⟩
  obtain ⟨xs, n', _, _, _, hxl, hfld⟩ := DataW.trod_struct Tryz.underlying50 hf
  have f0 := hfld 0 _ rfl
  have f1 := hfld 1 _ rfl
  have f2 := hfld 2 _ rfl
  have f3 := hfld 3 _ rfl
  obtain ⟨x0, x1, x2, x3, rfl⟩ : ∃ x0 x1 x2 x3, xs = [x0, x1, x2, x3] := by
    match xs, hxl with
    | [x0, x1, x2, x3], _ => exact ⟨x0, x1, x2, x3, rfl⟩
  simp [cN1, cW1] at f0 f1 f2 f3
  obtain ⟨v0, e0, _, w0⟩ := DataW.trod_int Tryz.underlying3 f0
  obtain ⟨v1, e1, _, w1⟩ := DataW.trod_int Tryz.underlying3 f1
  obtain ⟨v2, e2, _, w2⟩ := DataW.trod_int Tryz.underlying3 f2
  obtain ⟨v3, e3, _, w3⟩ := DataW.trod_int Tryz.underlying30 f3
  simp only [List.cons.injEq, and_true] at e0 e1 e2 e3
  subst e0 e1 e2 e3
  have b0 := bounds_i64 w0
  have b1 := bounds_i64 w1
  have b2 := bounds_i64 w2
  have b3 := wf_u32p w3
  refine ⟨(v0, v1, v2, UInt32.ofNat v3.toNat), ?_, ⟨by dsimp only; omega, by dsimp only; omega⟩, ⟨by dsimp only; omega, by dsimp only; omega⟩, ⟨by dsimp only; omega, by dsimp only; omega⟩⟩
  have e : ((UInt32.ofNat v3.toNat).toNat : Int) = v3 := by rw [UInt32.toNat_ofNat']; omega
  simp only [e]
set_option maxRecDepth 100000 in
theorem arg_acts12 {r : Reach} {b0 : Nat} {W : World} {v : Value} {d : DataW H} {ps : List MemPlace} (hval : Value.okWide Tryz.prog W r b0 42 v)
    (hd : DataW.Trod enc Tryz.prog W 0 (fun _ => true) true 42 v d ps) : ∃ l, Acts12 W.heap.size W v l ∧ ∀ y ∈ l, okA4 y := by
  obtain ⟨a0, len0, cap0, rfl⟩ := okWide_slice Tryz.underlying42 hval
  obtain ⟨fuel, hf⟩ := hd
  rcases Deep.open_slice Tryz.underlying42 hf with ⟨hcs, _⟩ | ⟨a, len, cap, m, n, D, Pl, hcs, _, hl, hm, hmm, _, hel⟩
  · simp only [Value.cells, List.cons.injEq, Value.slice.injEq, and_true] at hcs
    obtain ⟨rfl, rfl, rfl⟩ := hcs
    exact ⟨[], ⟨none, 0, rfl, by simp, fun h => absurd rfl h⟩, fun x hx => by simp at hx⟩
  · simp only [Value.cells, List.cons.injEq, Value.slice.injEq, and_true] at hcs
    obtain ⟨rfl, rfl, rfl⟩ := hcs
    simp only [if_true] at hmm
    subst hmm
    have hsp : 0 < len0 → a.spot = none := by
      intro h0
      obtain ⟨cs, hcs, _⟩ := hel 0 (by omega)
      rw [cA4] at hcs
      obtain ⟨_, hlen, hcell⟩ := World.cells?_some hcs
      have k0 := hcell 0 (by decide)
      rw [List.getElem?_eq_getElem (by omega)] at k0
      simpa [Addr.add] using World.cell?_spot k0
    have key : ∀ i, i < len0 → ∃ g off, a = ⟨g, off, none⟩ ∧ g < W.heap.size ∧ ∃ e : A4, At4 W g (off + i * 4) e ∧ okA4 e := by
      intro i hi
      obtain ⟨cs, hcs, hx⟩ := hel i (by omega)
      rw [cA4] at hcs
      obtain ⟨_, hlen, hcell⟩ := World.cells?_some hcs
      obtain ⟨y, rfl, hy⟩ := trod_act12 hlen hx
      have k0 := hcell 0 (by decide)
      have k1 := hcell 1 (by decide)
      have k2 := hcell 2 (by decide)
      have k3 := hcell 3 (by decide)
      simp only [List.getElem?_cons_zero, List.getElem?_cons_succ] at k0 k1 k2 k3
      obtain ⟨g, off, spot⟩ := a
      have hspot : spot = none := hsp (by omega)
      subst hspot
      have hp : ∀ q, (⟨g, off, none⟩ : Addr).add q = ⟨g, off + q, none⟩ := fun q => by unfold Addr.add; split <;> simp_all
      have hp2 : ∀ q r, (⟨g, off + q, none⟩ : Addr).add r = ⟨g, off + q + r, none⟩ := fun q r => by unfold Addr.add; split <;> simp_all
      rw [hp, hp2] at k0 k1 k2 k3
      rw [Nat.add_zero] at k0
      exact ⟨g, off, rfl, World.block_lt_of_cell? W _ k0, y, ⟨k0, k1, k2, k3⟩, hy⟩
    by_cases h0 : len0 = 0
    · subst h0
      exact ⟨[], ⟨some a, m, rfl, by simp, fun h => absurd rfl h⟩, fun x hx => by simp at hx⟩
    · obtain ⟨g, off, rfl, hg, _⟩ := key 0 (by omega)
      have key2 : ∀ i, i < len0 → ∃ e : A4, At4 W g (off + i * 4) e ∧ okA4 e := by
        intro i hi
        obtain ⟨g', off', e, _, h⟩ := key i hi
        simp only [Addr.mk.injEq, and_true] at e
        obtain ⟨rfl, rfl⟩ := e
        exact h
      let F : Nat → A4 := fun i => if h : i < len0 then (key2 i h).choose else zA4
      have hF : ∀ i (h : i < len0), F i = (key2 i h).choose := fun i h => by simp [F, h]
      refine ⟨(List.range len0).map F, ⟨some ⟨g, off, none⟩, m, by simp, by simp; omega, fun _ => ⟨g, off, rfl, hg, fun i hi => ?_⟩⟩, fun x hx => ?_⟩
      · have hi' : i < len0 := by simpa using hi
        have e : ((List.range len0).map F).getD i zA4 = (key2 i hi').choose := by
          simp [List.getD_eq_getElem?_getD, hi', hF]
        rw [e]
        exact (key2 i hi').choose_spec.1
      · obtain ⟨i, hi, rfl⟩ := List.mem_map.1 hx
        have hi' : i < len0 := by simpa using hi
        rw [hF i hi']
        exact (key2 i hi').choose_spec.2
theorem cells32_in {fuel : Nat} {W : World} {v : Value} {d : DataW H} {ps : List MemPlace} (hf : DataW.trod enc Tryz.prog W 0 (fun _ => true) true fuel 25 [v] = some (d, ps)) : ∃ l, Cells32 W.heap.size W v l := by
  rcases open_ints Tryz.underlying25 Tryz.underlying30 (by kernel_rfl) hf with ⟨hcs, hx⟩ | ⟨a, len, cap, zs, hcs, _, hl, hm, hz, hx, hcell, hwz⟩
  · simp only [List.cons.injEq, and_true] at hcs
    subst hcs
    exact ⟨[], Cells32.nil W⟩
  · simp only [List.cons.injEq, and_true] at hcs
    subst hcs
    simp only [if_true] at hz
    have hll : ((zs.take len).map fun z => UInt32.ofNat z.toNat).length = len := by simp; omega
    refine ⟨(zs.take len).map fun z => UInt32.ofNat z.toNat, some a, cap, by rw [hll], by rw [hll]; exact hl, hm, fun hne => ?_⟩
    have hpos : 0 < zs.length := by
      have : 0 < len := by rw [← hll]; exact List.length_pos_iff.2 hne
      omega
    obtain ⟨b, off, rfl, hc⟩ := ints_at hcell hpos
    refine ⟨b, off, rfl, World.block_lt_of_cell? W _ (hc 0 hpos), fun i hi => ?_⟩
    rw [hll] at hi
    rw [hc i (by omega)]
    have hz8 : (Lit.int .u32 (zs.getD i 0)).wf = true := by
      have hin : i < zs.length := by omega
      rw [List.getD_eq_getElem?_getD, List.getElem?_eq_getElem hin]
      exact hwz _ (List.getElem_mem hin)
    have hb := bounds_u32 hz8
    have e : ((zs.take len).map fun z => UInt32.ofNat z.toNat).getD i 0 = UInt32.ofNat (zs.getD i 0).toNat := by
      have hin : i < zs.length := by omega
      simp [hi, hin]
    rw [e]
    unfold cellV
    rw [show (UInt32.ofNat (zs.getD i 0).toNat).toNat = (zs.getD i 0).toNat % 4294967296 from UInt32.toNat_ofNat']
    have : (((zs.getD i 0).toNat % 4294967296 : Nat) : Int) = zs.getD i 0 := by omega
    rw [this]
set_option maxRecDepth 100000 in
/-- A start that comes in. -/
theorem arg_start {r : Reach} {b0 : Nat} {W : World} {v : Value} {d : DataW H} {ps : List MemPlace} (hval : Value.okWide Tryz.prog W r b0 27 v)
    (hd : DataW.Trod enc Tryz.prog W 0 (fun _ => true) true 27 v d ps) : ∃ (u : Value) (p : Pg) (f : Int) (a : Value) (ws : List UInt32), v = .agg #[u, .int .i64 p.2.1, .int .i64 p.2.2.1, .int .i64 p.2.2.2, .int .i64 f, a] ∧ FuncsW W.heap.size W u p.1 ∧ Cells32 W.heap.size W a ws ∧ (-9223372036854775808 ≤ f ∧ f ≤ 9223372036854775807) := by
  obtain ⟨cs, rfl, hsz, _⟩ : ∃ cs, v = .agg cs ∧ cs.size = Tryz.prog.cellsOf 27 ∧ Row.okWide Tryz.prog W r b0 27 cs := by
    simpa [Value.okWide, Tryz.underlying27] using hval
  rw [cS6] at hsz
  obtain ⟨l⟩ := cs
  obtain ⟨z0, z1, z2, z3, z4, z5, rfl⟩ : ∃ z0 z1 z2 z3 z4 z5, l = [z0, z1, z2, z3, z4, z5] := by
    match l, hsz with
    | [z0, z1, z2, z3, z4, z5], _ => exact ⟨z0, z1, z2, z3, z4, z5, rfl⟩
  obtain ⟨fuel, hf⟩ := hd
  obtain ⟨xs, n', _, _, _, hxl, hfld⟩ := DataW.trod_struct Tryz.underlying27 hf
  have g0 := hfld 0 _ rfl
  have g1 := hfld 1 _ rfl
  have g2 := hfld 2 _ rfl
  obtain ⟨y0, y1, y2, rfl⟩ : ∃ y0 y1 y2, xs = [y0, y1, y2] := by
    match xs, hxl with
    | [y0, y1, y2], _ => exact ⟨y0, y1, y2, rfl⟩
  simp [cP4, cN1, cLW1, Value.cells] at g0 g1 g2
  obtain ⟨xs, n'', _, _, _, hxl, hfld⟩ := DataW.trod_struct Tryz.underlying24 g0
  have f0 := hfld 0 _ rfl
  have f1 := hfld 1 _ rfl
  have f2 := hfld 2 _ rfl
  have f3 := hfld 3 _ rfl
  obtain ⟨x0, x1, x2, x3, rfl⟩ : ∃ x0 x1 x2 x3, xs = [x0, x1, x2, x3] := by
    match xs, hxl with
    | [x0, x1, x2, x3], _ => exact ⟨x0, x1, x2, x3, rfl⟩
  simp [cN1, cLF1] at f0 f1 f2 f3
  obtain ⟨fs, hfs, _⟩ := funcs_in f0
  obtain ⟨v1, e1, _, _⟩ := DataW.trod_int Tryz.underlying3 f1
  obtain ⟨v2, e2, _, _⟩ := DataW.trod_int Tryz.underlying3 f2
  obtain ⟨v3, e3, _, _⟩ := DataW.trod_int Tryz.underlying3 f3
  obtain ⟨v4, e4, _, w4⟩ := DataW.trod_int Tryz.underlying3 g1
  obtain ⟨ws, hws⟩ := cells32_in g2
  simp only [List.cons.injEq, and_true] at e1 e2 e3 e4
  subst e1 e2 e3 e4
  have b4 := bounds_i64 w4
  exact ⟨z0, (fs, v1, v2, v3), v4, z5, ws, rfl, hfs, hws, by omega, by omega⟩
end
end Go.Proofs.YtdkgehhlikaocaaGreat
namespace Go.Proofs.YtdkgehhlikaocaaGreat
open Go Go.RowKit Go.Shelf

/-- Three instructions in boxes of their own. -/
structure StW (w : World) (W : World) : Prop where
  one : BkS 56 W w.heap.size [.int .i64 6, .int .i64 0, .int .i64 1, .int .i64 0, .int .u32 0]
  two : BkS 56 W (w.heap.size + 1) [.int .i64 9, .int .i64 0, .int .i64 0, .int .i64 0, .int .u32 0]
  thr : BkS 56 W (w.heap.size + 1 + 1) [.int .i64 19, .int .i64 0, .int .i64 0, .int .i64 0, .int .u32 0]
  add : Adds w W
theorem StW.adds {w W W' : World} (h : StW w W) (ha : Adds W W') : StW w W' := ⟨h.one.adds ha, h.two.adds ha, h.thr.adds ha, Adds.trans h.add ha⟩
end Go.Proofs.YtdkgehhlikaocaaGreat
namespace Go.Proofs.YtdkgehhlikaocaaGreat
open Go Go.RowKit Go.Shelf

def atP (fs : List Fu) (f pc : Int) : In × Int :=
  if hasB fs.length f && hasB (fs.getD f.toNat zF).2.length pc then ((fs.getD f.toNat zF).2.getD pc.toNat zI, 0) else (zI, 4)
theorem hbI (ao : Option Addr) (len cap : Nat) (x : Int) (b : Bool) (h : hasB len x = b) (w : World) : Calls Tryz.prog 110 #[.slice ao len cap, .int .i64 x] w fun e w' => e = .returned (.bool b) ∧ Adds w w' :=
  (hasI ao len cap x w).mono fun _ _ ⟨h1, h2⟩ => ⟨h ▸ h1, h2 ▸ Adds.refl _⟩
end Go.Proofs.YtdkgehhlikaocaaGreat
