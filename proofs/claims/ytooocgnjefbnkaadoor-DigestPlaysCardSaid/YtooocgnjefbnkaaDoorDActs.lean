/- Acts: a slice of structs of four fields that comes in, as data. -/
import Derived.Deep.Slices
import Derived.Test.YtooocgnjefbnkaaDoorRow
namespace Go.Proofs.YtooocgnjefbnkaaDoor
open Go Go.ChangeShapes Go.WideShapes Go.ChangeAt Go.RowKit

structure ActD where
  what : Int
  width : Int
  n : Nat
  b : List UInt8
def actZ : ActD := ⟨0, 0, 0, []⟩
/-- One act in memory: four cells; the fourth reads as bytes below block n. -/
def ActAt (n : Nat) (w : World) (g o : Nat) (d : ActD) : Prop :=
  w.cell? ⟨g, o, none⟩ = some (.int .i64 d.what) ∧ w.cell? ⟨g, o + 1, none⟩ = some (.int .i64 d.width) ∧ w.cell? ⟨g, o + 2, none⟩ = some (.int .u64 (d.n : Nat)) ∧ ∃ u, w.cell? ⟨g, o + 3, none⟩ = some u ∧ Bytes n w u d.b
def Acts (n : Nat) (w : World) (v : Value) (l : List ActD) : Prop :=
  ∃ ao cap, v = .slice ao l.length cap ∧ l.length ≤ cap ∧ cap ≤ maxLen ∧
    (l ≠ [] → ∃ g off, ao = some ⟨g, off, none⟩ ∧ g < n ∧ ∀ i, i < l.length → ActAt n w g (off + i * 4) (l.getD i actZ) ∧ U64 (l.getD i actZ).n)
theorem ActAt.below {n g o : Nat} {w w' : World} {d : ActD} (h : ActAt n w g o d) (hb : Below n w w') (hg : g < n) : ActAt n w' g o d := by
  obtain ⟨h1, h2, h3, u, h4, h5⟩ := h
  exact ⟨(hb.cell (p := ⟨g, o, none⟩) hg).trans h1, (hb.cell (p := ⟨g, o + 1, none⟩) hg).trans h2, (hb.cell (p := ⟨g, o + 2, none⟩) hg).trans h3, u, (hb.cell (p := ⟨g, o + 3, none⟩) hg).trans h4, h5.below hb⟩

section
variable {H : Type} {enc : TypeId × Value → H}
set_option maxRecDepth 100000 in
/-- A cell of a slice of bytes. -/
theorem bytes_in {fuel : Nat} {W : World} {v : Value} {x : DataW H × List MemPlace} (hf : DataW.trod enc Tryd.prog W 0 (fun _ => true) true fuel 25 [v] = some x) : ∃ l, Bytes W.heap.size W v l := by
  rcases open_ints Tryd.underlying25 Tryd.underlying5 (by kernel_rfl) hf with ⟨hcs, hx⟩ | ⟨a, len, cap, zs, hcs, _, hl, hm, hz, hx, hcell, hwz⟩
  · simp only [List.cons.injEq, and_true] at hcs
    subst hcs
    exact ⟨[], Bytes.nil W⟩
  · simp only [List.cons.injEq, and_true] at hcs
    subst hcs
    simp only [if_true] at hz
    have hll : ((zs.take len).map fun z => UInt8.ofNat z.toNat).length = len := by simp; omega
    refine ⟨(zs.take len).map fun z => UInt8.ofNat z.toNat, some a, cap, by rw [hll], by rw [hll]; exact hl, hm, fun hne => ?_⟩
    have hpos : 0 < zs.length := by
      have : 0 < len := by rw [← hll]; exact List.length_pos_iff.2 hne
      omega
    obtain ⟨b, off, rfl, hc⟩ := ints_at hcell hpos
    refine ⟨b, off, rfl, World.block_lt_of_cell? W _ (hc 0 hpos), fun i hi => ?_⟩
    rw [hll] at hi
    rw [hc i (by omega)]
    have hz8 : (Lit.int .u8 (zs.getD i 0)).wf = true := by
      have hin : i < zs.length := by omega
      rw [List.getD_eq_getElem?_getD, List.getElem?_eq_getElem hin]
      exact hwz _ (List.getElem_mem hin)
    have hb := bounds_u8 hz8
    have e : ((zs.take len).map fun z => UInt8.ofNat z.toNat).getD i 0 = UInt8.ofNat (zs.getD i 0).toNat := by
      have hin : i < zs.length := by omega
      simp [hi, hin]
    rw [e]
    unfold byteV
    rw [show (UInt8.ofNat (zs.getD i 0).toNat).toNat = (zs.getD i 0).toNat % 256 from UInt8.toNat_ofNat']
    have : (((zs.getD i 0).toNat % 256 : Nat) : Int) = zs.getD i 0 := by omega
    rw [this]


theorem cA4 : Tryd.prog.cellsOf 28 = 4 := by kernel_rfl
theorem cI1 : Tryd.prog.cellsOf 3 = 1 := by kernel_rfl
theorem cU1 : Tryd.prog.cellsOf 26 = 1 := by kernel_rfl
theorem cB1 : Tryd.prog.cellsOf 25 = 1 := by kernel_rfl
set_option maxRecDepth 100000 in
theorem arg_acts {r : Reach} {b0 : Nat} {W : World} {v : Value} {d : DataW H} {ps : List MemPlace} (hval : Value.okWide Tryd.prog W r b0 22 v)
    (hd : DataW.Trod enc Tryd.prog W 0 (fun _ => true) true 22 v d ps) : ∃ l, Acts W.heap.size W v l := by
  obtain ⟨a0, len0, cap0, rfl⟩ := okWide_slice Tryd.underlying22 hval
  obtain ⟨fuel, hf⟩ := hd
  rcases Deep.open_slice Tryd.underlying22 hf with ⟨hcs, _⟩ | ⟨a, len, cap, m, n, D, Pl, hcs, _, hl, hm, hmm, _, hel⟩
  · simp only [Value.cells, List.cons.injEq, Value.slice.injEq, and_true] at hcs
    obtain ⟨rfl, rfl, rfl⟩ := hcs
    exact ⟨[], none, 0, rfl, by simp, by simp, fun h => absurd rfl h⟩
  · simp only [Value.cells, List.cons.injEq, Value.slice.injEq, and_true] at hcs
    obtain ⟨rfl, rfl, rfl⟩ := hcs
    simp only [if_true] at hmm
    subst hmm
    have hsp : 0 < len0 → a.spot = none := by
      intro h0
      obtain ⟨cs, hcs, _⟩ := hel 0 (by omega)
      rw [cA4] at hcs
      obtain ⟨_, hlen, hcell⟩ := World.cells?_some hcs
      have k0 := hcell 0 (by decide)
      rw [List.getElem?_eq_getElem (by omega)] at k0
      simpa [Addr.add] using World.cell?_spot k0
    have key : ∀ i, i < len0 → ∃ g off, a = ⟨g, off, none⟩ ∧ g < W.heap.size ∧ ∃ e, ActAt W.heap.size W g (off + i * 4) e ∧ U64 e.n := by
      intro i hi
      obtain ⟨cs, hcs, hx⟩ := hel i (by omega)
      rw [cA4] at hcs
      obtain ⟨_, hlen, hcell⟩ := World.cells?_some hcs
      obtain ⟨xs, n', rfl, _, _, hxl, hfld⟩ := DataW.trod_struct Tryd.underlying28 hx
      have f0 := hfld 0 _ rfl
      have f1 := hfld 1 _ rfl
      have f2 := hfld 2 _ rfl
      have f3 := hfld 3 _ rfl
      obtain ⟨z0, z1, z2, z3, rfl⟩ : ∃ z0 z1 z2 z3, cs = [z0, z1, z2, z3] := by
        match cs, hlen with
        | [z0, z1, z2, z3], _ => exact ⟨z0, z1, z2, z3, rfl⟩
      obtain ⟨x0, x1, x2, x3, rfl⟩ : ∃ x0 x1 x2 x3, xs = [x0, x1, x2, x3] := by
        match xs, hxl with
        | [x0, x1, x2, x3], _ => exact ⟨x0, x1, x2, x3, rfl⟩
      simp [cI1, cU1, cB1] at f0 f1 f2 f3
      obtain ⟨v0, e0, _, _⟩ := DataW.trod_int Tryd.underlying3 f0
      obtain ⟨v1, e1, _, _⟩ := DataW.trod_int Tryd.underlying3 f1
      obtain ⟨v2, e2, _, w2⟩ := DataW.trod_int Tryd.underlying26 f2
      obtain ⟨l3, hl3⟩ := bytes_in f3
      simp only [List.cons.injEq, and_true] at e0 e1 e2
      subst e0 e1 e2
      have k0 := hcell 0 (by decide)
      have k1 := hcell 1 (by decide)
      have k2 := hcell 2 (by decide)
      have k3 := hcell 3 (by decide)
      simp only [List.getElem?_cons_zero, List.getElem?_cons_succ] at k0 k1 k2 k3
      obtain ⟨g, off, spot⟩ := a
      have hspot : spot = none := hsp (by omega)
      subst hspot
      have hp : ∀ q, (⟨g, off, none⟩ : Addr).add q = ⟨g, off + q, none⟩ := fun q => by unfold Addr.add; split <;> simp_all
      have hp2 : ∀ q r, (⟨g, off + q, none⟩ : Addr).add r = ⟨g, off + q + r, none⟩ := fun q r => by unfold Addr.add; split <;> simp_all
      rw [hp, hp2] at k0 k1 k2 k3
      have hb := bounds_u64 w2
      refine ⟨g, off, rfl, World.block_lt_of_cell? W _ k0, ⟨v0, v1, v2.toNat, l3⟩, ⟨k0, k1, ?_, z3, k3, hl3⟩, show v2.toNat < 18446744073709551616 by omega⟩
      rw [k2, show ((v2.toNat : Nat) : Int) = v2 by omega]
    by_cases h0 : len0 = 0
    · subst h0
      exact ⟨[], some a, m, rfl, by simp, hm, fun h => absurd rfl h⟩
    · obtain ⟨g, off, rfl, hg, _⟩ := key 0 (by omega)
      have key2 : ∀ i, i < len0 → ∃ e, ActAt W.heap.size W g (off + i * 4) e ∧ U64 e.n := by
        intro i hi
        obtain ⟨g', off', e, _, h⟩ := key i hi
        simp only [Addr.mk.injEq, and_true] at e
        obtain ⟨rfl, rfl⟩ := e
        exact h
      let F : Nat → ActD := fun i => if h : i < len0 then (key2 i h).choose else actZ
      refine ⟨(List.range len0).map F, some ⟨g, off, none⟩, m, by simp, by simpa using hl, hm, fun _ => ⟨g, off, rfl, hg, fun i hi => ?_⟩⟩
      have hi' : i < len0 := by simpa using hi
      have e : ((List.range len0).map F).getD i actZ = (key2 i hi').choose := by
        simp [List.getD_eq_getElem?_getD, hi', F]
      rw [e]
      exact (key2 i hi').choose_spec
end
end Go.Proofs.YtooocgnjefbnkaaDoor
