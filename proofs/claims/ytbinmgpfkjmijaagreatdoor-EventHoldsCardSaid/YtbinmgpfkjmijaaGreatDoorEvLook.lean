/- What is found in the map of what Kinds name. -/
import Derived.Test.YtbinmgpfkjmijaaGreatDoorEvMap
namespace Go.Proofs.YtbinmgpfkjmijaaGreatDoor
open Go Go.RowKit

/-- A slice of parts: none, or a row. -/
def PartsAt (w : World) (v : Value) (l : List Nat) : Prop := (l = [] ∧ v = .slice none 0 0) ∨ ∃ g c, v = .slice (some ⟨g, 0, none⟩) l.length c ∧ 0 < l.length ∧ l.length ≤ c ∧ c ≤ 2 ∧ RowQ w g l
theorem PartsAt.adds {w w' : World} {v : Value} {l : List Nat} (h : PartsAt w v l) (ha : Adds w w') : PartsAt w' v l := by
  rcases h with h | ⟨g, c, h1, h2, h3, h4, h5⟩
  · exact .inl h
  · exact .inr ⟨g, c, h1, h2, h3, h4, h5.adds ha⟩
theorem atQ_kind (vs : List Value) (hl : vs.length = 14) (k : Nat) (h1 : 1 ≤ k) (h2 : k ≤ 14) : Maps.has (mapQ vs) (.int .i64 k) = true ∧ (mapQ vs).atKey (.int .i64 k) (dSl (.slice none 0 0)) = dSl (vs.getD (k - 1) undef) ∧ (Lit.int .i64 (k : Int)).wf = true := by
  obtain ⟨v1, v2, v3, v4, v5, v6, v7, v8, v9, v10, v11, v12, v13, v14, rfl⟩ : ∃ v1 v2 v3 v4 v5 v6 v7 v8 v9 v10 v11 v12 v13 v14, vs = [v1, v2, v3, v4, v5, v6, v7, v8, v9, v10, v11, v12, v13, v14] := by
    match vs, hl with
    | [v1, v2, v3, v4, v5, v6, v7, v8, v9, v10, v11, v12, v13, v14], _ => exact ⟨v1, v2, v3, v4, v5, v6, v7, v8, v9, v10, v11, v12, v13, v14, rfl⟩
  unfold mapQ
  generalize dSl (.slice none 0 0) = d0
  match k, h1, h2 with
  | 1, _, _ => exact ⟨(by show _ = _; kernel_rfl), (by show _ = _; kernel_rfl), by decide⟩
  | 2, _, _ => exact ⟨(by show _ = _; kernel_rfl), (by show _ = _; kernel_rfl), by decide⟩
  | 3, _, _ => exact ⟨(by show _ = _; kernel_rfl), (by show _ = _; kernel_rfl), by decide⟩
  | 4, _, _ => exact ⟨(by show _ = _; kernel_rfl), (by show _ = _; kernel_rfl), by decide⟩
  | 5, _, _ => exact ⟨(by show _ = _; kernel_rfl), (by show _ = _; kernel_rfl), by decide⟩
  | 6, _, _ => exact ⟨(by show _ = _; kernel_rfl), (by show _ = _; kernel_rfl), by decide⟩
  | 7, _, _ => exact ⟨(by show _ = _; kernel_rfl), (by show _ = _; kernel_rfl), by decide⟩
  | 8, _, _ => exact ⟨(by show _ = _; kernel_rfl), (by show _ = _; kernel_rfl), by decide⟩
  | 9, _, _ => exact ⟨(by show _ = _; kernel_rfl), (by show _ = _; kernel_rfl), by decide⟩
  | 10, _, _ => exact ⟨(by show _ = _; kernel_rfl), (by show _ = _; kernel_rfl), by decide⟩
  | 11, _, _ => exact ⟨(by show _ = _; kernel_rfl), (by show _ = _; kernel_rfl), by decide⟩
  | 12, _, _ => exact ⟨(by show _ = _; kernel_rfl), (by show _ = _; kernel_rfl), by decide⟩
  | 13, _, _ => exact ⟨(by show _ = _; kernel_rfl), (by show _ = _; kernel_rfl), by decide⟩
  | 14, _, _ => exact ⟨(by show _ = _; kernel_rfl), (by show _ = _; kernel_rfl), by decide⟩
  | k + 15, _, h => exact absurd h (by omega)
theorem mapQ_list (vs : List Value) (hl : vs.length = 14) : mapQ vs = .map ((List.range 14).map fun i => (.int .i64 (i + 1 : Nat), dSl (vs.getD i undef))) := by
  obtain ⟨v1, v2, v3, v4, v5, v6, v7, v8, v9, v10, v11, v12, v13, v14, rfl⟩ : ∃ v1 v2 v3 v4 v5 v6 v7 v8 v9 v10 v11 v12 v13 v14, vs = [v1, v2, v3, v4, v5, v6, v7, v8, v9, v10, v11, v12, v13, v14] := by
    match vs, hl with
    | [v1, v2, v3, v4, v5, v6, v7, v8, v9, v10, v11, v12, v13, v14], _ => exact ⟨v1, v2, v3, v4, v5, v6, v7, v8, v9, v10, v11, v12, v13, v14, rfl⟩
  show _ = _
  kernel_rfl
theorem elem_slice (ao : Option Addr) (h : ∀ a, ao = some a → ∃ b o, a = ⟨b, o, none⟩) (n c : Nat) : slElem (.slice ao n c) = some (dSl (.slice ao n c), []) := by
  cases ao with
  | none => rfl
  | some a => obtain ⟨b, o, rfl⟩ := h a rfl; rfl
theorem elem_vs (g1 g3 g2 g4 g5 : Nat) (k : Nat) (h1 : 1 ≤ k) (h2 : k ≤ 14) : slElem ((vsQ g1 g3 g2 g4 g5).getD (k - 1) undef) = some (dSl ((vsQ g1 g3 g2 g4 g5).getD (k - 1) undef), []) := by
  match k, h1, h2 with
  | 1, _, _ => rfl
  | 2, _, _ => rfl
  | 3, _, _ => rfl
  | 4, _, _ => rfl
  | 5, _, _ => rfl
  | 6, _, _ => rfl
  | 7, _, _ => rfl
  | 8, _, _ => rfl
  | 9, _, _ => rfl
  | 10, _, _ => rfl
  | 11, _, _ => rfl
  | 12, _, _ => rfl
  | 13, _, _ => rfl
  | 14, _, _ => rfl
  | k + 15, _, h => exact absurd h (by omega)
theorem zeroQ : slElem (.slice none 0 0) = some (dSl (.slice none 0 0), []) := rfl
theorem parts_vs {W : World} {g1 g3 g2 g4 g5 : Nat} (r1 : RowQ W g1 [1]) (r3 : RowQ W g3 [3]) (r2 : RowQ W g2 [2]) (r4 : RowQ W g4 [3, 4]) (r5 : RowQ W g5 [5]) (k : Nat) (h1 : 1 ≤ k) (h2 : k ≤ 14) : PartsAt W ((vsQ g1 g3 g2 g4 g5).getD (k - 1) undef) (partsE k) := by
  have a1 : PartsAt W (.slice (some ⟨g1, 0, none⟩) 1 1) [1] := .inr ⟨g1, 1, rfl, by decide, by decide, by decide, r1⟩
  have a3 : PartsAt W (.slice (some ⟨g3, 0, none⟩) 1 1) [3] := .inr ⟨g3, 1, rfl, by decide, by decide, by decide, r3⟩
  have a2 : PartsAt W (.slice (some ⟨g2, 0, none⟩) 1 1) [2] := .inr ⟨g2, 1, rfl, by decide, by decide, by decide, r2⟩
  have a4 : PartsAt W (.slice (some ⟨g4, 0, none⟩) 2 2) [3, 4] := .inr ⟨g4, 2, rfl, by decide, by decide, by decide, r4⟩
  have a5 : PartsAt W (.slice (some ⟨g5, 0, none⟩) 1 1) [5] := .inr ⟨g5, 1, rfl, by decide, by decide, by decide, r5⟩
  match k, h1, h2 with
  | 1, _, _ => exact .inl ⟨rfl, rfl⟩
  | 2, _, _ => exact a1
  | 3, _, _ => exact a1
  | 4, _, _ => exact a2
  | 5, _, _ => exact a3
  | 6, _, _ => exact a3
  | 7, _, _ => exact a3
  | 8, _, _ => exact a3
  | 9, _, _ => exact a3
  | 10, _, _ => exact a3
  | 11, _, _ => exact a4
  | 12, _, _ => exact a3
  | 13, _, _ => exact .inl ⟨rfl, rfl⟩
  | 14, _, _ => exact a5
  | k + 15, _, h => exact absurd h (by omega)
theorem look_kind {W : World} {b : Nat} (h : Named W b) (k : Nat) (h1 : 1 ≤ k) (h2 : k ≤ 14) :
    ∃ v, PartsAt W v (partsE k) ∧ ∀ W', Adds W W' → (Instr.lookup 99 (.map (some b)) (.int .i64 k) true).run Tryz.prog W' = .ok (.tuple #[v, .bool true]) W' := by
  obtain ⟨g1, g3, g2, g4, g5, h0, r1, r3, r2, r4, r5⟩ := h
  have hat := atQ_kind (vsQ g1 g3 g2 g4 g5) rfl k h1 h2
  refine ⟨(vsQ g1 g3 g2 g4 g5).getD (k - 1) undef, ?_, fun W' ha => ?_⟩
  · exact parts_vs r1 r3 r2 r4 r5 k h1 h2
  · obtain ⟨v, ps, hr, hv⟩ := (ownsMap_adds h0 ha).look_ok kkind Tryz.underlying99 (zeroSl W') (zd := dSl (.slice none 0 0)) (zp := []) zeroQ (Maps.keyOf_int_mk Tryz.underlying22 hat.2.2)
    rw [hat.2.1] at hv
    rw [slElem_inj hv (elem_vs g1 g3 g2 g4 g5 k h1 h2), hat.1] at hr
    exact hr
theorem look_none {W : World} {b : Nat} (h : Named W b) (x : Int) (hx : (Lit.int .i64 x).wf = true) (hk : ¬ (1 ≤ x ∧ x ≤ 14)) :
    ∀ W', Adds W W' → (Instr.lookup 99 (.map (some b)) (.int .i64 x) true).run Tryz.prog W' = .ok (.tuple #[.slice none 0 0, .bool false]) W' := fun W' ha => by
  obtain ⟨g1, g3, g2, g4, g5, h0, _⟩ := h
  have hn : Maps.has (mapQ (vsQ g1 g3 g2 g4 g5)) (.int .i64 x) = false := by
    have hne : ∀ i : Nat, i < 14 → ((Lit.int .i64 ((i + 1 : Nat) : Int)).sameKey (.int .i64 x)) = false := by
      intro i hi
      have : ¬ ((i : Int) + 1 = x) := by omega
      simp [Lit.sameKey, this]
    rw [mapQ_list _ rfl, Maps.has_eq, List.any_eq_false]
    intro p hp
    obtain ⟨i, hi, rfl⟩ := List.mem_map.1 hp
    rw [hne i (List.mem_range.1 hi)]; simp
  obtain ⟨v, ps, hr, hv⟩ := (ownsMap_adds h0 ha).look_ok kkind Tryz.underlying99 (zeroSl W') (zd := dSl (.slice none 0 0)) (zp := []) zeroQ (Maps.keyOf_int_mk Tryz.underlying22 (a := x) hx)
  rw [Maps.atKey_of_not_has hn] at hv
  rw [slElem_inj hv zeroQ, hn] at hr
  exact hr
end Go.Proofs.YtbinmgpfkjmijaaGreatDoor
