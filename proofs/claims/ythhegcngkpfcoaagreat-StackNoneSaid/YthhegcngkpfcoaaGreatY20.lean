/- Merged: ZMem. -/
import Derived.Test.YthhegcngkpfcoaaGreatY17
import Derived.Test.YthhegcngkpfcoaaGreatY19
import Derived.Test.YthhegcngkpfcoaaGreatY13
namespace Go.Proofs.YthhegcngkpfcoaaGreat
open Go Go.RowKit Go.Shelf

/-- A frame: its function, its place, where its result goes, its registers. -/
abbrev Fr := Nat × Nat × Int × List UInt32
abbrev frC (x : Fr × Value) : List Value := [.int .i64 (x.1.1 : Int), .int .i64 (x.1.2.1 : Int), .int .i64 x.1.2.2.1, x.2]
theorem frC_len (x : Fr × Value) : (frC x).length = 4 := rfl
/-- Registers of the call's own. -/
def RegO (n : Nat) (w : World) (v : Value) (rs : List UInt32) : Prop := w.ownsRow n 22 1 v rs.length (rs.map cellV)
def Apart (x y : Fr × Value) : Prop := ∀ g, x.2.ownBlock = some g → y.2.ownBlock ≠ some g
structure FrsO (n : Nat) (w : World) (v : Value) (R : List (Fr × Value)) : Prop where
  row : w.ownsRow n 83 4 v R.length (R.flatMap frC)
  reg : ∀ x ∈ R, RegO n w x.2 x.1.2.2.2
  far : R.Pairwise Apart
/-- A pile: in a block of its own; a zero one, that has no program, among them. -/
structure PileO (t : TypeId) (n : Nat) (w : World) (b : Nat) (p : Pg) (fv lv : Value) (R : List (Fr × Value)) (res : UInt32) : Prop where
  ht : t = 32 ∨ t = 34
  bx : BkS t w b [fv, .int .i64 p.2.1, .int .i64 p.2.2.1, .int .i64 p.2.2.2, lv, .int .u32 (res.toNat : Nat)]
  fo : CopyO n w fv p.1
  lo : FrsO n w lv R
  hn : n ≤ b

theorem RegO.tn {n b : Nat} {w w' : World} {v : Value} {rs : List UInt32} (h : RegO n w v rs) (ht : TnS b w w') (hb : v.ownBlock ≠ some b) : RegO n w' v rs := ownsRow_tn h ht hb
theorem RegO.adds {n : Nat} {w w' : World} {v : Value} {rs : List UInt32} (h : RegO n w v rs) (ha : Adds w w') : RegO n w' v rs := ownsRow_adds h ha
theorem RegO.form {n : Nat} {w : World} {v : Value} {rs : List UInt32} (h : RegO n w v rs) (hr : rs ≠ []) : ∃ g cap, v = .slice (some ⟨g, 0, none⟩) rs.length cap ∧ n ≤ g ∧ rs.length ≤ cap ∧ cap ≤ maxLen ∧ ∃ cur, w.heap[g]? = some (.cells cur 22 (0, 0)) := by
  obtain ⟨h1, h2⟩ := h
  rcases h2 with ⟨_, h0⟩ | ⟨g, cap, cur, rfl, hb, hh, h3, h4, _⟩
  · exact absurd (List.length_eq_zero_iff.1 h0) hr
  · exact ⟨g, cap, rfl, hb, h3, h4, cur, hh⟩
theorem RegO.form0 {n : Nat} {w : World} {v : Value} {rs : List UInt32} (h : RegO n w v rs) : ∃ ao cap, v = .slice ao rs.length cap ∧ rs.length ≤ cap ∧ cap ≤ maxLen := by
  obtain ⟨h1, h2⟩ := h
  rcases h2 with ⟨rfl, h0⟩ | ⟨g, cap, cur, rfl, hb, hh, h3, h4, _⟩
  · exact ⟨none, 0, by rw [h0], by omega, by unfold maxLen; omega⟩
  · exact ⟨_, cap, rfl, h3, h4⟩
theorem RegO.cell {n g cap k : Nat} {w : World} {rs : List UInt32} (h : RegO n w (.slice (some ⟨g, 0, none⟩) k cap) rs) {i : Nat} (hi : i < rs.length) : w.cell? ⟨g, i, none⟩ = some (cellV (rs.getD i 0)) := by
  have hk : k = rs.length := by
    rcases h.2 with ⟨e, _⟩ | ⟨g', cap', cur, e, _⟩
    · cases e
    · simp only [Value.slice.injEq] at e; exact e.2.1
  subst hk
  exact ownsRow_cell h i (by rw [List.getElem?_map, List.getElem?_eq_getElem hi, List.getD_eq_getElem?_getD, List.getElem?_eq_getElem hi]; rfl)
theorem RegO.free {n g cap k : Nat} {w : World} {rs : List UInt32} (h : RegO n w (.slice (some ⟨g, 0, none⟩) k cap) rs) (i : Nat) : w.frozen? ⟨g, i, none⟩ = false := by
  rcases h.2 with ⟨e, _⟩ | ⟨g', cap', cur, e, _, hh, _⟩
  · cases e
  · simp only [Value.slice.injEq, Option.some.injEq, Addr.mk.injEq] at e
    obtain ⟨⟨rfl, _⟩, _⟩ := e
    simp [World.frozen?, hh]
theorem RegO.set {n g cap k : Nat} {w : World} {rs : List UInt32} (h : RegO n w (.slice (some ⟨g, 0, none⟩) k cap) rs) (i : Nat) (x : UInt32) : RegO n (w.setCell ⟨g, i, none⟩ (.int .u32 (x.toNat : Nat))) (.slice (some ⟨g, 0, none⟩) k cap) (rs.set i x) := by
  have hk : k = rs.length := by
    rcases h.2 with ⟨e, _⟩ | ⟨g', cap', cur, e, _⟩
    · cases e
    · simp only [Value.slice.injEq] at e; exact e.2.1
  subst hk
  unfold RegO at h ⊢
  rw [List.length_set]
  have hs := ownsRow_set h i (.int .u32 (x.toNat : Nat))
  rwa [show (rs.set i x).map cellV = (rs.map cellV).set i (.int .u32 (x.toNat : Nat)) by rw [List.map_set]; rfl]
theorem ownB {w : World} {base : Nat} {e : TypeId} {size n : Nat} {v : Value} {xs : List Value} (h : w.ownsRow base e size v n xs) {g : Nat} (hg : v.ownBlock = some g) : ∃ cur : List Value, BkS e w g cur := by
  rcases h.2 with ⟨rfl, _⟩ | ⟨k, cap, cur, rfl, _, hh, _⟩
  · cases hg
  · simp only [Value.ownBlock, Option.some.injEq] at hg
    subst hg
    exact ⟨cur.toList, by unfold BkS; rw [hh]⟩
theorem FrsO.adds {n : Nat} {w w' : World} {v : Value} {R : List (Fr × Value)} (h : FrsO n w v R) (ha : Adds w w') : FrsO n w' v R := ⟨ownsRow_adds h.row ha, fun x hx => (h.reg x hx).adds ha, h.far⟩
theorem FrsO.tn {n b : Nat} {w w' : World} {v : Value} {R : List (Fr × Value)} (h : FrsO n w v R) (ht : TnS b w w') (hb : b < n) : FrsO n w' v R :=
  ⟨ownsRow_tn h.row ht (fun e => by have := (World.ownsRow.lt h.row b e).1; omega), fun x hx => (h.reg x hx).tn ht (fun e => by have := (World.ownsRow.lt (h.reg x hx) b e).1; omega), h.far⟩
/-- A block of another type is written. -/
theorem FrsO.blk {n b : Nat} {w w' : World} {v : Value} {R : List (Fr × Value)} {t : TypeId} {l : List Value} (h : FrsO n w v R) (hb : BkS t w b l) (h1 : 83 ≠ t) (h2 : 22 ≠ t) (ht : TnS b w w') : FrsO n w' v R :=
  ⟨ownsRow_tn h.row ht (own_neT h.row hb h1), fun x hx => (h.reg x hx).tn ht (own_neT (h.reg x hx) hb h2), h.far⟩
theorem FrsO.nil (n : Nat) (w : World) : FrsO n w (.slice none 0 0) [] := ⟨World.ownsRow_nil _ _ _ _, (fun x hx => by cases hx), List.Pairwise.nil⟩
theorem FrsO.form {n : Nat} {w : World} {v : Value} {R : List (Fr × Value)} (h : FrsO n w v R) : ∃ ao cap, v = .slice ao R.length cap ∧ R.length ≤ cap ∧ cap ≤ maxLen := by
  rcases h.row.2 with ⟨rfl, h0⟩ | ⟨g, cap, cur, rfl, hb, hh, h3, h4, _⟩
  · exact ⟨none, 0, by rw [h0], by omega, by unfold maxLen; omega⟩
  · exact ⟨_, cap, rfl, h3, h4⟩
/-- The top frame, where it lies. -/
theorem FrsO.top {n : Nat} {w : World} {v : Value} {R : List (Fr × Value)} {x : Fr × Value} (h : FrsO n w v (R ++ [x])) : ∃ g cap cur, v = .slice (some ⟨g, 0, none⟩) (R.length + 1) cap ∧ n ≤ g ∧ R.length + 1 ≤ cap ∧ cap ≤ maxLen ∧ BkS 83 w g cur ∧
    w.cell? ⟨g, R.length * 4, none⟩ = some (.int .i64 (x.1.1 : Int)) ∧ w.cell? ⟨g, R.length * 4 + 1, none⟩ = some (.int .i64 (x.1.2.1 : Int)) ∧ w.cell? ⟨g, R.length * 4 + 2, none⟩ = some (.int .i64 x.1.2.2.1) ∧ w.cell? ⟨g, R.length * 4 + 3, none⟩ = some x.2 ∧ ∀ i, w.frozen? ⟨g, i, none⟩ = false := by
  have hl : (R ++ [x]).length = R.length + 1 := by simp
  have hr := h.row
  rcases hr.2 with ⟨_, h0⟩ | ⟨g, cap, cur, rfl, hb, hh, h3, h4, _⟩
  · rw [hl] at h0; omega
  · rw [hl] at hr h3
    have key : ∀ j, j < 4 → ∀ u, (frC x)[j]? = some u → w.cell? ⟨g, R.length * 4 + j, none⟩ = some u := by
      intro j hj u hu
      refine ownsRow_cell hr (R.length * 4 + j) ?_
      rw [flat_get frC 4 frC_len _ _ j hj]
      simp [hu]
    refine ⟨g, cap, cur.toList, by rw [hl], hb, h3, h4, by unfold BkS; rw [hh], key 0 (by decide) _ rfl, key 1 (by decide) _ rfl, key 2 (by decide) _ rfl, key 3 (by decide) _ rfl, fun i => ?_⟩
    exact ownsRow_free hr i
theorem PileO.tne {t : TypeId} {n b : Nat} {w : World} {p : Pg} {fv lv : Value} {R : List (Fr × Value)} {res : UInt32} (h : PileO t n w b p fv lv R res) : 83 ≠ t ∧ 22 ≠ t ∧ 72 ≠ t ∧ 37 ≠ t := by
  rcases h.ht with rfl | rfl <;> decide
theorem PileO.adds {t : TypeId} {n b : Nat} {w w' : World} {p : Pg} {fv lv : Value} {R : List (Fr × Value)} {res : UInt32} (h : PileO t n w b p fv lv R res) (ha : Adds w w') : PileO t n w' b p fv lv R res :=
  ⟨h.ht, h.bx.adds ha, h.fo.adds ha, h.lo.adds ha, h.hn⟩
/-- The top's place is written. -/
theorem PileO.setPc {t : TypeId} {n b g cap k : Nat} {w : World} {p : Pg} {fv : Value} {R : List (Fr × Value)} {f pc : Nat} {d : Int} {rs : List UInt32} {rv : Value} {res : UInt32} (h : PileO t n w b p fv (.slice (some ⟨g, 0, none⟩) k cap) (R ++ [((f, pc, d, rs), rv)]) res) (pc' : Nat) :
    PileO t n (w.setCell ⟨g, R.length * 4 + 1, none⟩ (.int .i64 (pc' : Int))) b p fv (.slice (some ⟨g, 0, none⟩) k cap) (R ++ [((f, pc', d, rs), rv)]) res := by
  obtain ⟨cur, hg⟩ := ownB h.lo.row (g := g) rfl
  obtain ⟨t1, t2, t3, t4⟩ := h.tne
  have hk : k = (R ++ [((f, pc, d, rs), rv)]).length := by
    rcases h.lo.row.2 with ⟨e, _⟩ | ⟨g', cap', cur, e, _⟩
    · cases e
    · simp only [Value.slice.injEq] at e; exact e.2.1
  have ht := TnS.setCell g (R.length * 4 + 1) w (.int .i64 (pc' : Int))
  refine ⟨h.ht, h.bx.tn ht (fun e => own_neT h.lo.row h.bx t1 (by rw [e]; rfl)), h.fo.blk hg (by decide) (by decide) ht, ⟨?_, ?_, ?_⟩, h.hn⟩
  · have hr := h.lo.row
    subst hk
    have hs := ownsRow_set hr (R.length * 4 + 1) (.int .i64 (pc' : Int))
    rw [flat_set frC 4 frC_len _ R.length 1 (by decide) _ ((f, pc', d, rs), rv) (fun x hx => by simp at hx; subst hx; rfl)] at hs
    simpa using hs
  · intro x hx
    rcases List.mem_append.1 hx with hx | hx
    · exact (h.lo.reg x (List.mem_append_left _ hx)).tn ht (own_neT (h.lo.reg x (List.mem_append_left _ hx)) hg (by decide))
    · obtain rfl := List.mem_singleton.1 hx
      have hr := h.lo.reg ((f, pc, d, rs), rv) (by simp)
      exact hr.tn ht (own_neT hr hg (by decide))
  · have hf := h.lo.far
    rw [List.pairwise_append] at hf ⊢
    exact ⟨hf.1, List.pairwise_singleton _ _, fun x hx y hy => by obtain rfl := List.mem_singleton.1 hy; exact hf.2.2 x hx ((f, pc, d, rs), rv) (by simp)⟩
/-- A register of the top is written. -/
theorem PileO.setReg {t : TypeId} {n b g cap k : Nat} {w : World} {p : Pg} {fv lv : Value} {R : List (Fr × Value)} {f pc : Nat} {d : Int} {rs : List UInt32} {res : UInt32} (h : PileO t n w b p fv lv (R ++ [((f, pc, d, rs), .slice (some ⟨g, 0, none⟩) k cap)]) res) (i : Nat) (x : UInt32) :
    PileO t n (w.setCell ⟨g, i, none⟩ (.int .u32 (x.toNat : Nat))) b p fv lv (R ++ [((f, pc, d, rs.set i x), .slice (some ⟨g, 0, none⟩) k cap)]) res := by
  have hr0 := h.lo.reg ((f, pc, d, rs), .slice (some ⟨g, 0, none⟩) k cap) (by simp)
  obtain ⟨cur, hg⟩ := ownB hr0 (g := g) rfl
  obtain ⟨t1, t2, t3, t4⟩ := h.tne
  have ht := TnS.setCell g i w (.int .u32 (x.toNat : Nat))
  have hf := h.lo.far
  rw [List.pairwise_append] at hf
  refine ⟨h.ht, h.bx.tn ht (fun e => own_neT hr0 h.bx t2 (by rw [e]; rfl)), h.fo.blk hg (by decide) (by decide) ht, ⟨?_, ?_, ?_⟩, h.hn⟩
  · have hs := ownsRow_tn h.lo.row ht (own_neT h.lo.row hg (by decide))
    simpa using hs
  · intro y hy
    rcases List.mem_append.1 hy with hy | hy
    · refine (h.lo.reg y (List.mem_append_left _ hy)).tn ht (fun e => ?_)
      exact hf.2.2 y hy ((f, pc, d, rs), .slice (some ⟨g, 0, none⟩) k cap) (List.mem_singleton.2 rfl) g e rfl
    · obtain rfl := List.mem_singleton.1 hy
      exact hr0.set i x
  · rw [List.pairwise_append]
    exact ⟨hf.1, List.pairwise_singleton _ _, fun y hy z hz => by obtain rfl := List.mem_singleton.1 hz; exact hf.2.2 y hy ((f, pc, d, rs), .slice (some ⟨g, 0, none⟩) k cap) (List.mem_singleton.2 rfl)⟩
/-- The types that a pile's blocks are of. -/
def pileT (t : TypeId) : Prop := t = 32 ∨ t = 34 ∨ t = 83 ∨ t = 22
/-- Blocks of other types, and all that is below n, stay. -/
structure Low (n : Nat) (w w' : World) : Prop where
  b : Below n w w'
  k : ∀ (t : TypeId) (i : Nat) (l : List Value), ¬ pileT t → BkS t w i l → BkS t w' i l
theorem Low.refl (n : Nat) (w : World) : Low n w w := ⟨Below.refl _ _, fun _ _ _ _ h => h⟩
theorem Low.trans {n : Nat} {w w' w'' : World} (h : Low n w w') (h' : Low n w' w'') : Low n w w'' := ⟨h.b.trans h'.b, fun t i l ht hb => h'.k t i l ht (h.k t i l ht hb)⟩
theorem Low.mono {n : Nat} {w w' : World} (h : Adds w w') (hn : n ≤ w.heap.size) : Low n w w' := ⟨Below.mono h hn, fun _ _ _ _ hb => hb.adds h⟩
theorem BkS.apart {t u : TypeId} {w : World} {i k : Nat} {l m : List Value} (h : BkS t w i l) (h' : BkS u w k m) (hne : t ≠ u) : i ≠ k := by
  rintro rfl
  unfold BkS at h h'
  rw [h] at h'
  simp only [Option.some.injEq, Obj.cells.injEq] at h'
  exact hne h'.2.1
theorem Low.set {n g i : Nat} {w w' : World} {u : TypeId} {cur : List Value} (h : Low n w w') (hB : BkS u w' g cur) (hu : pileT u) (hn : n ≤ g) (v : Value) : Low n w (w'.setCell ⟨g, i, none⟩ v) :=
  ⟨h.b.setCell (p := ⟨g, i, none⟩) hn v, fun t k l ht hb => (h.k t k l ht hb).other (fun e => (h.k t k l ht hb).apart hB (by rintro rfl; exact ht hu) e.symm) v⟩
theorem Low.grown {n : Nat} {w w' W : World} {row : Option Nat} (h : Low n w w') (hg : w'.grownBy W row) (hs : n ≤ w'.heap.size) (hrow : ∀ g, row = some g → n ≤ g ∧ ∃ u cur, BkS u w' g cur ∧ pileT u) : Low n w W :=
  ⟨Below.grown h.b hg hs (fun g e => (hrow g e).1), fun t k l ht hb => (h.k t k l ht hb).grown hg (fun e => by
    obtain ⟨_, u, cur, hB, hu⟩ := hrow k e
    exact (h.k t k l ht hb).apart hB (by rintro rfl; exact ht hu) rfl)⟩
theorem PileO.myT {t : TypeId} {n b : Nat} {w : World} {p : Pg} {fv lv : Value} {R : List (Fr × Value)} {res : UInt32} (h : PileO t n w b p fv lv R res) : pileT t := by
  rcases h.ht with e | e
  · exact .inl e
  · exact .inr (.inl e)
end Go.Proofs.YthhegcngkpfcoaaGreat
