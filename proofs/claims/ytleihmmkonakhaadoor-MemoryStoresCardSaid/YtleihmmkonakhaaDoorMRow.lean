/- Arguments of memory's laws: an address, a bool, a list of words by addresses, one of them. -/
import Derived.Deep.Slices
import Derived.Test.YtleihmmkonakhaaDoorRow
import Derived.Test.YtleihmmkonakhaaDoorMF3
namespace Go.Proofs.YtleihmmkonakhaaDoor
open Go Go.ChangeShapes Go.WideShapes Go.ChangeAt Go.RowKit
section
variable {H : Type} {enc : TypeId × Value → H}
set_option maxRecDepth 100000 in
theorem arg_u32m {r : Reach} {b0 : Nat} {W : World} {v : Value} {d : DataW H} {ps : List MemPlace} (hval : Value.okWide Tryd.prog W r b0 29 v)
    (hd : DataW.Trod enc Tryd.prog W 0 (fun _ => true) true 29 v d ps) : ∃ n : Nat, v = .int .u32 n ∧ n < 4294967296 := by
  obtain ⟨x, rfl, rfl, rfl, wx⟩ := open_int Tryd.underlying29 hval hd
  have hb := bounds_u32 wx
  exact ⟨x.toNat, by rw [show ((x.toNat : Nat) : Int) = x by omega], by omega⟩
set_option maxRecDepth 100000 in
theorem arg_boolm {r : Reach} {b0 : Nat} {W : World} {v : Value} {d : DataW H} {ps : List MemPlace} (hval : Value.okWide Tryd.prog W r b0 4 v)
    (hd : DataW.Trod enc Tryd.prog W 0 (fun _ => true) true 4 v d ps) : ∃ z : Bool, v = .bool z := by
  obtain ⟨z, rfl, _⟩ := open_bool Tryd.underlying4 hval hd
  exact ⟨z, rfl⟩
theorem cC2 : Tryd.prog.cellsOf 31 = 2 := by kernel_rfl
theorem cU32 : Tryd.prog.cellsOf 29 = 1 := by kernel_rfl
set_option maxRecDepth 100000 in
theorem arg_cellsM {r : Reach} {b0 : Nat} {W : World} {v : Value} {d : DataW H} {ps : List MemPlace} (hval : Value.okWide Tryd.prog W r b0 22 v)
    (hd : DataW.Trod enc Tryd.prog W 0 (fun _ => true) true 22 v d ps) : ∃ l, CellsW (fun g => g < W.heap.size) W v l ∧ cellsOk l := by
  obtain ⟨a0, len0, cap0, rfl⟩ := okWide_slice Tryd.underlying22 hval
  obtain ⟨fuel, hf⟩ := hd
  rcases Deep.open_slice Tryd.underlying22 hf with ⟨hcs, _⟩ | ⟨a, len, cap, m, n, D, Pl, hcs, _, hl, hm, hmm, _, hel⟩
  · simp only [Value.cells, List.cons.injEq, Value.slice.injEq, and_true] at hcs
    obtain ⟨rfl, rfl, rfl⟩ := hcs
    exact ⟨[], CellsW.nil _ _, fun x hx => by simp at hx⟩
  · simp only [Value.cells, List.cons.injEq, Value.slice.injEq, and_true] at hcs
    obtain ⟨rfl, rfl, rfl⟩ := hcs
    simp only [if_true] at hmm
    subst hmm
    have hsp : 0 < len0 → a.spot = none := by
      intro h0
      obtain ⟨cs, hcs, _⟩ := hel 0 (by omega)
      rw [cC2] at hcs
      obtain ⟨_, hlen, hcell⟩ := World.cells?_some hcs
      have k0 := hcell 0 (by decide)
      rw [List.getElem?_eq_getElem (by omega)] at k0
      simpa [Addr.add] using World.cell?_spot k0
    have key : ∀ i, i < len0 → ∃ g off, a = ⟨g, off, none⟩ ∧ g < W.heap.size ∧ ∃ e : Nat × Nat, W.cell? ⟨g, off + i * 2, none⟩ = some (u32V e.1) ∧ W.cell? ⟨g, off + i * 2 + 1, none⟩ = some (u32V e.2) ∧ e.1 < 4294967296 ∧ e.2 < 4294967296 := by
      intro i hi
      obtain ⟨cs, hcs, hx⟩ := hel i (by omega)
      rw [cC2] at hcs
      obtain ⟨_, hlen, hcell⟩ := World.cells?_some hcs
      obtain ⟨xs, n', rfl, _, _, hxl, hfld⟩ := DataW.trod_struct Tryd.underlying31 hx
      have f0 := hfld 0 _ rfl
      have f1 := hfld 1 _ rfl
      obtain ⟨z0, z1, rfl⟩ : ∃ z0 z1, cs = [z0, z1] := by
        match cs, hlen with
        | [z0, z1], _ => exact ⟨z0, z1, rfl⟩
      obtain ⟨x0, x1, rfl⟩ : ∃ x0 x1, xs = [x0, x1] := by
        match xs, hxl with
        | [x0, x1], _ => exact ⟨x0, x1, rfl⟩
      simp [cU32] at f0 f1
      obtain ⟨v0, e0, _, w0⟩ := DataW.trod_int Tryd.underlying29 f0
      obtain ⟨v1, e1, _, w1⟩ := DataW.trod_int Tryd.underlying29 f1
      simp only [List.cons.injEq, and_true] at e0 e1
      subst e0 e1
      have k0 := hcell 0 (by decide)
      have k1 := hcell 1 (by decide)
      simp only [List.getElem?_cons_zero, List.getElem?_cons_succ] at k0 k1
      obtain ⟨g, off, spot⟩ := a
      have hspot : spot = none := hsp (by omega)
      subst hspot
      have hp : ∀ q, (⟨g, off, none⟩ : Addr).add q = ⟨g, off + q, none⟩ := fun q => by unfold Addr.add; split <;> simp_all
      have hp2 : ∀ q r, (⟨g, off + q, none⟩ : Addr).add r = ⟨g, off + q + r, none⟩ := fun q r => by unfold Addr.add; split <;> simp_all
      rw [hp, hp2] at k0 k1
      rw [Nat.add_zero] at k0
      have hb0 := bounds_u32 w0
      have hb1 := bounds_u32 w1
      refine ⟨g, off, rfl, World.block_lt_of_cell? W _ k0, (v0.toNat, v1.toNat), ?_, ?_, show v0.toNat < 4294967296 by omega, show v1.toNat < 4294967296 by omega⟩
      · unfold u32V; rw [k0, show ((v0.toNat : Nat) : Int) = v0 by omega]
      · unfold u32V; rw [k1, show ((v1.toNat : Nat) : Int) = v1 by omega]
    by_cases h0 : len0 = 0
    · subst h0
      exact ⟨[], ⟨some a, m, rfl, by simp, hm, fun h => absurd rfl h⟩, fun x hx => by simp at hx⟩
    · obtain ⟨g, off, rfl, hg, _⟩ := key 0 (by omega)
      have key2 : ∀ i, i < len0 → ∃ e : Nat × Nat, W.cell? ⟨g, off + i * 2, none⟩ = some (u32V e.1) ∧ W.cell? ⟨g, off + i * 2 + 1, none⟩ = some (u32V e.2) ∧ e.1 < 4294967296 ∧ e.2 < 4294967296 := by
        intro i hi
        obtain ⟨g', off', e, _, h⟩ := key i hi
        simp only [Addr.mk.injEq, and_true] at e
        obtain ⟨rfl, rfl⟩ := e
        exact h
      let F : Nat → Nat × Nat := fun i => if h : i < len0 then (key2 i h).choose else (0, 0)
      have hF : ∀ i (h : i < len0), F i = (key2 i h).choose := fun i h => by simp [F, h]
      refine ⟨(List.range len0).map F, ⟨some ⟨g, off, none⟩, m, by simp, by simpa using hl, hm, fun _ => ⟨g, off, rfl, hg, fun i hi => ?_⟩⟩, fun x hx => ?_⟩
      · have hi' : i < len0 := by simpa using hi
        have e : ((List.range len0).map F).getD i (0, 0) = (key2 i hi').choose := by
          simp [List.getD_eq_getElem?_getD, hi', hF]
        rw [e]
        exact ⟨(key2 i hi').choose_spec.1, (key2 i hi').choose_spec.2.1⟩
      · obtain ⟨i, hi, rfl⟩ := List.mem_map.1 hx
        have hi' : i < len0 := by simpa using hi
        rw [hF i hi']
        exact (key2 i hi').choose_spec.2.2
end
end Go.Proofs.YtleihmmkonakhaaDoor
