/- Merged: ZMem, Z1, Z3. -/
import Derived.Test.YtdkgehhlikaocaaGreatY10
import Derived.Test.YtdkgehhlikaocaaGreatY11
import Derived.Test.YtdkgehhlikaocaaGreatY7
import Derived.Test.YtdkgehhlikaocaaGreatY6
import Derived.Test.YtdkgehhlikaocaaGreatY1
import Derived.Test.YtdkgehhlikaocaaGreatY3
import Derived.Deep.QuietTactic
import Derived.BigQuiet
namespace Go.Proofs.YtdkgehhlikaocaaGreat
open Go Go.RowKit Go.Shelf

/-- A frame: its function, its place, where its result goes, its registers. -/
abbrev Fr := Nat × Nat × Int × List UInt32
abbrev frC (x : Fr × Value) : List Value := [.int .i64 (x.1.1 : Int), .int .i64 (x.1.2.1 : Int), .int .i64 x.1.2.2.1, x.2]
theorem frC_len (x : Fr × Value) : (frC x).length = 4 := rfl
/-- Registers of the call's own. -/
def RegO (n : Nat) (w : World) (v : Value) (rs : List UInt32) : Prop := w.ownsRow n 30 1 v rs.length (rs.map cellV)
def Apart (x y : Fr × Value) : Prop := ∀ g, x.2.ownBlock = some g → y.2.ownBlock ≠ some g
structure FrsO (n : Nat) (w : World) (v : Value) (R : List (Fr × Value)) : Prop where
  row : w.ownsRow n 76 4 v R.length (R.flatMap frC)
  reg : ∀ x ∈ R, RegO n w x.2 x.1.2.2.2
  far : R.Pairwise Apart
/-- A pile: in a block of its own; a zero one, that has no program, among them. -/
structure PileO (t : TypeId) (n : Nat) (w : World) (b : Nat) (p : Pg) (fv lv : Value) (R : List (Fr × Value)) (res : UInt32) : Prop where
  ht : t = 70 ∨ t = 73
  bx : BkS t w b [fv, .int .i64 p.2.1, .int .i64 p.2.2.1, .int .i64 p.2.2.2, lv, .int .u32 (res.toNat : Nat)]
  fo : CopyO n w fv p.1
  lo : FrsO n w lv R
  hn : n ≤ b

theorem RegO.tn {n b : Nat} {w w' : World} {v : Value} {rs : List UInt32} (h : RegO n w v rs) (ht : TnS b w w') (hb : v.ownBlock ≠ some b) : RegO n w' v rs := ownsRow_tn h ht hb
theorem RegO.adds {n : Nat} {w w' : World} {v : Value} {rs : List UInt32} (h : RegO n w v rs) (ha : Adds w w') : RegO n w' v rs := ownsRow_adds h ha
theorem RegO.form {n : Nat} {w : World} {v : Value} {rs : List UInt32} (h : RegO n w v rs) (hr : rs ≠ []) : ∃ g cap, v = .slice (some ⟨g, 0, none⟩) rs.length cap ∧ n ≤ g ∧ rs.length ≤ cap ∧ cap ≤ maxLen ∧ ∃ cur, w.heap[g]? = some (.cells cur 30 (0, 0)) := by
  obtain ⟨h1, h2⟩ := h
  rcases h2 with ⟨_, h0⟩ | ⟨g, cap, cur, rfl, hb, hh, h3, h4, _⟩
  · exact absurd (List.length_eq_zero_iff.1 h0) hr
  · exact ⟨g, cap, rfl, hb, h3, h4, cur, hh⟩
theorem RegO.form0 {n : Nat} {w : World} {v : Value} {rs : List UInt32} (h : RegO n w v rs) : ∃ ao cap, v = .slice ao rs.length cap ∧ rs.length ≤ cap ∧ cap ≤ maxLen := by
  obtain ⟨h1, h2⟩ := h
  rcases h2 with ⟨rfl, h0⟩ | ⟨g, cap, cur, rfl, hb, hh, h3, h4, _⟩
  · exact ⟨none, 0, by rw [h0], by omega, by unfold maxLen; omega⟩
  · exact ⟨_, cap, rfl, h3, h4⟩
theorem RegO.cell {n g cap k : Nat} {w : World} {rs : List UInt32} (h : RegO n w (.slice (some ⟨g, 0, none⟩) k cap) rs) {i : Nat} (hi : i < rs.length) : w.cell? ⟨g, i, none⟩ = some (cellV (rs.getD i 0)) := by
  have hk : k = rs.length := by
    rcases h.2 with ⟨e, _⟩ | ⟨g', cap', cur, e, _⟩
    · cases e
    · simp only [Value.slice.injEq] at e; exact e.2.1
  subst hk
  exact ownsRow_cell h i (by rw [List.getElem?_map, List.getElem?_eq_getElem hi, List.getD_eq_getElem?_getD, List.getElem?_eq_getElem hi]; rfl)
theorem RegO.free {n g cap k : Nat} {w : World} {rs : List UInt32} (h : RegO n w (.slice (some ⟨g, 0, none⟩) k cap) rs) (i : Nat) : w.frozen? ⟨g, i, none⟩ = false := by
  rcases h.2 with ⟨e, _⟩ | ⟨g', cap', cur, e, _, hh, _⟩
  · cases e
  · simp only [Value.slice.injEq, Option.some.injEq, Addr.mk.injEq] at e
    obtain ⟨⟨rfl, _⟩, _⟩ := e
    simp [World.frozen?, hh]
theorem RegO.set {n g cap k : Nat} {w : World} {rs : List UInt32} (h : RegO n w (.slice (some ⟨g, 0, none⟩) k cap) rs) (i : Nat) (x : UInt32) : RegO n (w.setCell ⟨g, i, none⟩ (.int .u32 (x.toNat : Nat))) (.slice (some ⟨g, 0, none⟩) k cap) (rs.set i x) := by
  have hk : k = rs.length := by
    rcases h.2 with ⟨e, _⟩ | ⟨g', cap', cur, e, _⟩
    · cases e
    · simp only [Value.slice.injEq] at e; exact e.2.1
  subst hk
  unfold RegO at h ⊢
  rw [List.length_set]
  have hs := ownsRow_set h i (.int .u32 (x.toNat : Nat))
  rwa [show (rs.set i x).map cellV = (rs.map cellV).set i (.int .u32 (x.toNat : Nat)) by rw [List.map_set]; rfl]
theorem ownB {w : World} {base : Nat} {e : TypeId} {size n : Nat} {v : Value} {xs : List Value} (h : w.ownsRow base e size v n xs) {g : Nat} (hg : v.ownBlock = some g) : ∃ cur : List Value, BkS e w g cur := by
  rcases h.2 with ⟨rfl, _⟩ | ⟨k, cap, cur, rfl, _, hh, _⟩
  · cases hg
  · simp only [Value.ownBlock, Option.some.injEq] at hg
    subst hg
    exact ⟨cur.toList, by unfold BkS; rw [hh]⟩
theorem FrsO.adds {n : Nat} {w w' : World} {v : Value} {R : List (Fr × Value)} (h : FrsO n w v R) (ha : Adds w w') : FrsO n w' v R := ⟨ownsRow_adds h.row ha, fun x hx => (h.reg x hx).adds ha, h.far⟩
theorem FrsO.tn {n b : Nat} {w w' : World} {v : Value} {R : List (Fr × Value)} (h : FrsO n w v R) (ht : TnS b w w') (hb : b < n) : FrsO n w' v R :=
  ⟨ownsRow_tn h.row ht (fun e => by have := (World.ownsRow.lt h.row b e).1; omega), fun x hx => (h.reg x hx).tn ht (fun e => by have := (World.ownsRow.lt (h.reg x hx) b e).1; omega), h.far⟩
/-- A block of another type is written. -/
theorem FrsO.blk {n b : Nat} {w w' : World} {v : Value} {R : List (Fr × Value)} {t : TypeId} {l : List Value} (h : FrsO n w v R) (hb : BkS t w b l) (h1 : 76 ≠ t) (h2 : 30 ≠ t) (ht : TnS b w w') : FrsO n w' v R :=
  ⟨ownsRow_tn h.row ht (own_neT h.row hb h1), fun x hx => (h.reg x hx).tn ht (own_neT (h.reg x hx) hb h2), h.far⟩
theorem FrsO.nil (n : Nat) (w : World) : FrsO n w (.slice none 0 0) [] := ⟨World.ownsRow_nil _ _ _ _, (fun x hx => by cases hx), List.Pairwise.nil⟩
theorem FrsO.form {n : Nat} {w : World} {v : Value} {R : List (Fr × Value)} (h : FrsO n w v R) : ∃ ao cap, v = .slice ao R.length cap ∧ R.length ≤ cap ∧ cap ≤ maxLen := by
  rcases h.row.2 with ⟨rfl, h0⟩ | ⟨g, cap, cur, rfl, hb, hh, h3, h4, _⟩
  · exact ⟨none, 0, by rw [h0], by omega, by unfold maxLen; omega⟩
  · exact ⟨_, cap, rfl, h3, h4⟩
/-- The top frame, where it lies. -/
theorem FrsO.top {n : Nat} {w : World} {v : Value} {R : List (Fr × Value)} {x : Fr × Value} (h : FrsO n w v (R ++ [x])) : ∃ g cap cur, v = .slice (some ⟨g, 0, none⟩) (R.length + 1) cap ∧ n ≤ g ∧ R.length + 1 ≤ cap ∧ cap ≤ maxLen ∧ BkS 76 w g cur ∧
    w.cell? ⟨g, R.length * 4, none⟩ = some (.int .i64 (x.1.1 : Int)) ∧ w.cell? ⟨g, R.length * 4 + 1, none⟩ = some (.int .i64 (x.1.2.1 : Int)) ∧ w.cell? ⟨g, R.length * 4 + 2, none⟩ = some (.int .i64 x.1.2.2.1) ∧ w.cell? ⟨g, R.length * 4 + 3, none⟩ = some x.2 ∧ ∀ i, w.frozen? ⟨g, i, none⟩ = false := by
  have hl : (R ++ [x]).length = R.length + 1 := by simp
  have hr := h.row
  rcases hr.2 with ⟨_, h0⟩ | ⟨g, cap, cur, rfl, hb, hh, h3, h4, _⟩
  · rw [hl] at h0; omega
  · rw [hl] at hr h3
    have key : ∀ j, j < 4 → ∀ u, (frC x)[j]? = some u → w.cell? ⟨g, R.length * 4 + j, none⟩ = some u := by
      intro j hj u hu
      refine ownsRow_cell hr (R.length * 4 + j) ?_
      rw [flat_get frC 4 frC_len _ _ j hj]
      simp [hu]
    refine ⟨g, cap, cur.toList, by rw [hl], hb, h3, h4, by unfold BkS; rw [hh], key 0 (by decide) _ rfl, key 1 (by decide) _ rfl, key 2 (by decide) _ rfl, key 3 (by decide) _ rfl, fun i => ?_⟩
    exact ownsRow_free hr i
theorem PileO.tne {t : TypeId} {n b : Nat} {w : World} {p : Pg} {fv lv : Value} {R : List (Fr × Value)} {res : UInt32} (h : PileO t n w b p fv lv R res) : 76 ≠ t ∧ 30 ≠ t ∧ 46 ≠ t ∧ 56 ≠ t := by
  rcases h.ht with rfl | rfl <;> decide
theorem PileO.adds {t : TypeId} {n b : Nat} {w w' : World} {p : Pg} {fv lv : Value} {R : List (Fr × Value)} {res : UInt32} (h : PileO t n w b p fv lv R res) (ha : Adds w w') : PileO t n w' b p fv lv R res :=
  ⟨h.ht, h.bx.adds ha, h.fo.adds ha, h.lo.adds ha, h.hn⟩
/-- The top's place is written. -/
theorem PileO.setPc {t : TypeId} {n b g cap k : Nat} {w : World} {p : Pg} {fv : Value} {R : List (Fr × Value)} {f pc : Nat} {d : Int} {rs : List UInt32} {rv : Value} {res : UInt32} (h : PileO t n w b p fv (.slice (some ⟨g, 0, none⟩) k cap) (R ++ [((f, pc, d, rs), rv)]) res) (pc' : Nat) :
    PileO t n (w.setCell ⟨g, R.length * 4 + 1, none⟩ (.int .i64 (pc' : Int))) b p fv (.slice (some ⟨g, 0, none⟩) k cap) (R ++ [((f, pc', d, rs), rv)]) res := by
  obtain ⟨cur, hg⟩ := ownB h.lo.row (g := g) rfl
  obtain ⟨t1, t2, t3, t4⟩ := h.tne
  have hk : k = (R ++ [((f, pc, d, rs), rv)]).length := by
    rcases h.lo.row.2 with ⟨e, _⟩ | ⟨g', cap', cur, e, _⟩
    · cases e
    · simp only [Value.slice.injEq] at e; exact e.2.1
  have ht := TnS.setCell g (R.length * 4 + 1) w (.int .i64 (pc' : Int))
  refine ⟨h.ht, h.bx.tn ht (fun e => own_neT h.lo.row h.bx t1 (by rw [e]; rfl)), h.fo.blk hg (by decide) (by decide) ht, ⟨?_, ?_, ?_⟩, h.hn⟩
  · have hr := h.lo.row
    subst hk
    have hs := ownsRow_set hr (R.length * 4 + 1) (.int .i64 (pc' : Int))
    rw [flat_set frC 4 frC_len _ R.length 1 (by decide) _ ((f, pc', d, rs), rv) (fun x hx => by simp at hx; subst hx; rfl)] at hs
    simpa using hs
  · intro x hx
    rcases List.mem_append.1 hx with hx | hx
    · exact (h.lo.reg x (List.mem_append_left _ hx)).tn ht (own_neT (h.lo.reg x (List.mem_append_left _ hx)) hg (by decide))
    · obtain rfl := List.mem_singleton.1 hx
      have hr := h.lo.reg ((f, pc, d, rs), rv) (by simp)
      exact hr.tn ht (own_neT hr hg (by decide))
  · have hf := h.lo.far
    rw [List.pairwise_append] at hf ⊢
    exact ⟨hf.1, List.pairwise_singleton _ _, fun x hx y hy => by obtain rfl := List.mem_singleton.1 hy; exact hf.2.2 x hx ((f, pc, d, rs), rv) (by simp)⟩
/-- A register of the top is written. -/
theorem PileO.setReg {t : TypeId} {n b g cap k : Nat} {w : World} {p : Pg} {fv lv : Value} {R : List (Fr × Value)} {f pc : Nat} {d : Int} {rs : List UInt32} {res : UInt32} (h : PileO t n w b p fv lv (R ++ [((f, pc, d, rs), .slice (some ⟨g, 0, none⟩) k cap)]) res) (i : Nat) (x : UInt32) :
    PileO t n (w.setCell ⟨g, i, none⟩ (.int .u32 (x.toNat : Nat))) b p fv lv (R ++ [((f, pc, d, rs.set i x), .slice (some ⟨g, 0, none⟩) k cap)]) res := by
  have hr0 := h.lo.reg ((f, pc, d, rs), .slice (some ⟨g, 0, none⟩) k cap) (by simp)
  obtain ⟨cur, hg⟩ := ownB hr0 (g := g) rfl
  obtain ⟨t1, t2, t3, t4⟩ := h.tne
  have ht := TnS.setCell g i w (.int .u32 (x.toNat : Nat))
  have hf := h.lo.far
  rw [List.pairwise_append] at hf
  refine ⟨h.ht, h.bx.tn ht (fun e => own_neT hr0 h.bx t2 (by rw [e]; rfl)), h.fo.blk hg (by decide) (by decide) ht, ⟨?_, ?_, ?_⟩, h.hn⟩
  · have hs := ownsRow_tn h.lo.row ht (own_neT h.lo.row hg (by decide))
    simpa using hs
  · intro y hy
    rcases List.mem_append.1 hy with hy | hy
    · refine (h.lo.reg y (List.mem_append_left _ hy)).tn ht (fun e => ?_)
      exact hf.2.2 y hy ((f, pc, d, rs), .slice (some ⟨g, 0, none⟩) k cap) (List.mem_singleton.2 rfl) g e rfl
    · obtain rfl := List.mem_singleton.1 hy
      exact hr0.set i x
  · rw [List.pairwise_append]
    exact ⟨hf.1, List.pairwise_singleton _ _, fun y hy z hz => by obtain rfl := List.mem_singleton.1 hz; exact hf.2.2 y hy ((f, pc, d, rs), .slice (some ⟨g, 0, none⟩) k cap) (List.mem_singleton.2 rfl)⟩
/-- The types that a pile's blocks are of. -/
def pileT (t : TypeId) : Prop := t = 70 ∨ t = 73 ∨ t = 76 ∨ t = 30
/-- Blocks of other types, and all that is below n, stay. -/
structure Low (n : Nat) (w w' : World) : Prop where
  b : Below n w w'
  k : ∀ (t : TypeId) (i : Nat) (l : List Value), ¬ pileT t → BkS t w i l → BkS t w' i l
theorem Low.refl (n : Nat) (w : World) : Low n w w := ⟨Below.refl _ _, fun _ _ _ _ h => h⟩
theorem Low.trans {n : Nat} {w w' w'' : World} (h : Low n w w') (h' : Low n w' w'') : Low n w w'' := ⟨h.b.trans h'.b, fun t i l ht hb => h'.k t i l ht (h.k t i l ht hb)⟩
theorem Low.mono {n : Nat} {w w' : World} (h : Adds w w') (hn : n ≤ w.heap.size) : Low n w w' := ⟨Below.mono h hn, fun _ _ _ _ hb => hb.adds h⟩
theorem BkS.apart {t u : TypeId} {w : World} {i k : Nat} {l m : List Value} (h : BkS t w i l) (h' : BkS u w k m) (hne : t ≠ u) : i ≠ k := by
  rintro rfl
  unfold BkS at h h'
  rw [h] at h'
  simp only [Option.some.injEq, Obj.cells.injEq] at h'
  exact hne h'.2.1
theorem Low.set {n g i : Nat} {w w' : World} {u : TypeId} {cur : List Value} (h : Low n w w') (hB : BkS u w' g cur) (hu : pileT u) (hn : n ≤ g) (v : Value) : Low n w (w'.setCell ⟨g, i, none⟩ v) :=
  ⟨h.b.setCell (p := ⟨g, i, none⟩) hn v, fun t k l ht hb => (h.k t k l ht hb).other (fun e => (h.k t k l ht hb).apart hB (by rintro rfl; exact ht hu) e.symm) v⟩
theorem Low.grown {n : Nat} {w w' W : World} {row : Option Nat} (h : Low n w w') (hg : w'.grownBy W row) (hs : n ≤ w'.heap.size) (hrow : ∀ g, row = some g → n ≤ g ∧ ∃ u cur, BkS u w' g cur ∧ pileT u) : Low n w W :=
  ⟨Below.grown h.b hg hs (fun g e => (hrow g e).1), fun t k l ht hb => (h.k t k l ht hb).grown hg (fun e => by
    obtain ⟨_, u, cur, hB, hu⟩ := hrow k e
    exact (h.k t k l ht hb).apart hB (by rintro rfl; exact ht hu) rfl)⟩
theorem PileO.myT {t : TypeId} {n b : Nat} {w : World} {p : Pg} {fv lv : Value} {R : List (Fr × Value)} {res : UInt32} (h : PileO t n w b p fv lv R res) : pileT t := by
  rcases h.ht with e | e
  · exact .inl e
  · exact .inr (.inl e)
end Go.Proofs.YtdkgehhlikaocaaGreat
namespace Go.Proofs.YtdkgehhlikaocaaGreat
open Go Go.RowKit Go.Shelf Go.Lib

abbrev refuV (e : Int) : Value := .iface 96 (.int .i64 e)
set_option maxRecDepth 100000 in
theorem must_yes (e : Int) (w : World) : Calls Tryz.prog 37 #[.bool true, .int .i64 e] w fun r w' => r = .returned (.tuple #[]) ∧ w = w' := by
  go_enter Tryz.func37, Tryz.ntmps37
  go_wp2
  go_end0
  exact ⟨by simp, rfl⟩
set_option maxRecDepth 100000 in
theorem must_no (e : Int) (w : World) : Calls Tryz.prog 37 #[.bool false, .int .i64 e] w fun r w' => r = .panicked [{ v := refuV e, recovered := false }] ∧ w = w' := by
  go_enter Tryz.func37, Tryz.ntmps37
  go_wp2
  exact ⟨rfl, rfl, rfl⟩
set_option maxRecDepth 100000 in
theorem told12 (v : Int) (w : World) : Calls Tryz.prog 24 #[refuV v] w fun e w' => e = .returned (.int .i64 v) ∧ w = w' := by
  have ht : ∀ w : World, (Instr.typeAssert (.iface 96 (.int .i64 v)) 20 96 false).run Tryz.prog w = .ok (.int .i64 v) w := fun _ => by kernel_rfl
  go_enter Tryz.func24, Tryz.ntmps24
  go_wp2
  go_ret
  exact ⟨rfl, rfl⟩
def inBd (a b x : Int) : Bool := decide (a ≤ x ∧ x ≤ b)
set_option maxRecDepth 100000 in
theorem hold_bd (a b x : Int) (w : World) : Calls Tryz.prog 45 #[.agg #[.int .i64 a, .int .i64 b], .int .i64 x] w fun e w' => e = .returned (.bool (inBd a b x)) ∧ Adds w w' := by
  obtain ⟨w1, hw1⟩ : ∃ w1, w.alloc (.cells #[.int .i64 a, .int .i64 b] 93) = w1 := ⟨_, rfl⟩
  have A1 := Lib.hid (show Adds w w1 by rw [← hw1]; exact Adds.new _ _)
  have B1 : BkS 93 w1 w.heap.size [.int .i64 a, .int .i64 b] := by rw [← hw1]; exact BkS.new _ _ _
  have b0 := B1.cell 0
  have b1 := B1.cell 1
  clear B1
  by_cases h1 : a ≤ x
  · by_cases h2 : x ≤ b
    · rw [show inBd a b x = true by unfold inBd; exact decide_eq_true ⟨h1, h2⟩]
      go_enter Tryz.func45, Tryz.ntmps45
      go_wp2
      go_ret
      exact ⟨rfl, A1.out⟩
    · rw [show inBd a b x = false by unfold inBd; exact decide_eq_false (by omega)]
      go_enter Tryz.func45, Tryz.ntmps45
      go_wp2
      go_ret
      exact ⟨rfl, A1.out⟩
  · rw [show inBd a b x = false by unfold inBd; exact decide_eq_false (by omega)]
    go_enter Tryz.func45, Tryz.ntmps45
    go_wp2
    go_ret
    exact ⟨rfl, A1.out⟩
end Go.Proofs.YtdkgehhlikaocaaGreat
namespace Go.Proofs.YtdkgehhlikaocaaGreat
open Go Go.RowKit Go.Shelf

/-- It answers, and nothing but the draw has gone on. -/
def Drs (v : Value) (w : World) (e : Ending) (w' : World) : Prop := e = .returned v ∧ ∃ m, w' = w.drewN m
theorem res_box1 {P : Program} {fn : Func} {p : Tmp} {ty : TypeId} (h : fn.results = #[.cell p ty]) (tmps : Array Value) (w : World) (g : Nat) (cs : Array Value) (t : TypeId) (fr : Nat × Nat) (d : TypeDesc) (hp : tmps.getD p undef = .pointer (some ⟨g, 0, none⟩))
    (hg : w.heap[g]? = some (.cells cs t fr)) (hu : P.underlying ty = some d) (hd : (match d with | .struct _ | .array _ _ => true | _ => false) = true) (hi : (P.info? ty).map (·.size) = some cs.size) : (results fn tmps).run P w = .ok (.agg cs) w := by
  have hp' : tmps[p]?.getD undef = .pointer (some ⟨g, 0, none⟩) := by simpa using hp
  simp [results, h, hp', asAddr, run_loadVar_row (P := P) w g t ty cs fr d hg hu hd hi]
section
variable {t : TypeId} {n b g cap : Nat} {w : World} {p : Pg} {fv lv : Value} {R : List (Fr × Value)} {x : Fr × Value} {res : UInt32}
/-- The top, where its list has an address. -/
abbrev TopO (t : TypeId) (n : Nat) (w : World) (b : Nat) (p : Pg) (fv : Value) (g cap : Nat) (R : List (Fr × Value)) (x : Fr × Value) (res : UInt32) : Prop := PileO t n w b p fv (.slice (some ⟨g, 0, none⟩) (R.length + 1) cap) (R ++ [x]) res
theorem TopO.cells (h : TopO t n w b p fv g cap R x res) : (w.cell? ⟨b, 4, none⟩ = some (.slice (some ⟨g, 0, none⟩) (R.length + 1) cap) ∧ R.length + 1 ≤ cap ∧ cap ≤ maxLen) ∧
    w.cell? ⟨g, R.length * 4, none⟩ = some (.int .i64 (x.1.1 : Int)) ∧ w.cell? ⟨g, R.length * 4 + 1, none⟩ = some (.int .i64 (x.1.2.1 : Int)) ∧ w.cell? ⟨g, R.length * 4 + 2, none⟩ = some (.int .i64 x.1.2.2.1) ∧ w.cell? ⟨g, R.length * 4 + 3, none⟩ = some x.2 ∧ ∀ i, w.frozen? ⟨g, i, none⟩ = false := by
  obtain ⟨g', cap', cur, e, _, h2, h3, _, h4⟩ := h.lo.top
  simp only [Value.slice.injEq, Option.some.injEq, Addr.mk.injEq, and_true, true_and] at e
  obtain ⟨rfl, rfl⟩ := e
  exact ⟨⟨h.bx.cell 4, h2, h3⟩, h4⟩
theorem TopO.reg (h : TopO t n w b p fv g cap R x res) : RegO n w x.2 x.1.2.2.2 := h.lo.reg x (by simp)
theorem PileO.open (h : PileO t n w b p fv lv (R ++ [x]) res) : ∃ g cap, lv = .slice (some ⟨g, 0, none⟩) (R.length + 1) cap := by
  obtain ⟨g, cap, cur, e, _⟩ := h.lo.top
  exact ⟨g, cap, e⟩
theorem PileO.low {fv lv : Value} {R : List (Fr × Value)} (h : PileO t n w b p fv lv R res) : n ≤ w.heap.size := Nat.le_trans h.hn (Nat.le_of_lt h.bx.lt)
theorem drewN_below (n : Nat) (w : World) (m : Nat) : Below n w (w.drewN m) := ⟨rfl, rfl, rfl, Nat.le_refl _, fun _ _ => rfl⟩
set_option maxRecDepth 100000 in
set_option maxHeartbeats 1000000 in
theorem topS_any (h : TopO t n w b p fv g cap R x res) : Calls Tryz.prog 61 #[.pointer (some ⟨b, 0, none⟩)] w (Drs (.pointer (some ⟨g, R.length * 4, none⟩)) w) := by
  obtain ⟨⟨c0, h1, h2⟩, _⟩ := h.cells
  unfold maxLen at h2
  clear h
  obtain ⟨k, hk⟩ : ∃ k, R.length = k := ⟨_, rfl⟩
  rw [hk] at c0 h1 ⊢
  clear hk
  have hkI : (k : Int) + 1 ≤ 9223372036854775807 := by omega
  have hcI : (cap : Int) ≤ 9223372036854775807 := by omega
  clear h1 h2
  have hw : wrap64 ((k : Int) + 1 - 1) = (k : Int) := by unfold wrap64; omega
  go_enter Tryz.func61, Tryz.ntmps61
  go_wp2_with fail
  go_quiet (fail)
  go_wp2
  go_ret
  exact ⟨rfl, _, rfl⟩
set_option maxRecDepth 100000 in
theorem endedS_any (h : PileO t n w b p fv lv R res) : Calls Tryz.prog 42 #[.pointer (some ⟨b, 0, none⟩)] w fun e w' => e = .returned (.bool (decide (R.length = 0))) ∧ w = w' := by
  obtain ⟨ao, cap, rfl, h1, h2⟩ := h.lo.form
  have c0 : w.cell? ⟨b, 4, none⟩ = some (.slice ao R.length cap) := h.bx.cell 4
  clear h
  obtain ⟨k, hk⟩ : ∃ k, R.length = k := ⟨_, rfl⟩
  rw [hk] at c0 ⊢
  clear hk h1 h2
  by_cases h0 : k = 0
  · subst h0
    go_enter Tryz.func42, Tryz.ntmps42
    go_wp2
    go_ret
    exact ⟨rfl, rfl⟩
  · have hk0 : ((k : Int) == 0) = false := by rw [beq_eq_false_iff_ne]; omega
    rw [decide_eq_false h0]
    clear h0
    go_enter Tryz.func42, Tryz.ntmps42
    go_wp2
    go_ret
    exact ⟨rfl, rfl⟩
set_option maxRecDepth 100000 in
set_option maxHeartbeats 1000000 in
theorem regsS_any (h : TopO t n w b p fv g cap R x res) (least : Int) : Calls Tryz.prog 44 #[.pointer (some ⟨b, 0, none⟩), .int .i64 least] w fun e w' => e = .returned (.agg #[.int .i64 least, .int .i64 ((x.1.2.2.2.length : Int) - 1)]) ∧ Adds w w' := by
  have HT := Lib.hid (fun (W : World) (ha : Adds w W) => topS_any (h.adds ha))
  obtain ⟨ao, rc, hrv, hr1, hr2⟩ := h.reg.form0
  unfold maxLen at hr2
  have HC := Lib.hid (fun (W : World) (ha : Adds w W) => show W.cell? ⟨g, R.length * 4 + 3, none⟩ = some (.slice ao x.1.2.2.2.length rc) from by rw [(TopO.cells (h.adds ha)).2.2.2.2.1, hrv])
  obtain ⟨k, hk⟩ : ∃ k, R.length = k := ⟨_, rfl⟩
  obtain ⟨rl, hrl⟩ : ∃ rl, x.1.2.2.2.length = rl := ⟨_, rfl⟩
  rw [hk] at HT HC
  rw [hrl] at HC hr1 ⊢
  clear h hrv hk hrl
  have hrI : (rl : Int) ≤ 9223372036854775807 := by omega
  have hw : wrap64 ((rl : Int) - 1) = (rl : Int) - 1 := by unfold wrap64; omega
  clear hr1 hr2
  obtain ⟨w1, hw1⟩ : ∃ w1, w.alloc (.cells #[.int .i64 0, .int .i64 0] 93) = w1 := ⟨_, rfl⟩
  have A1 := Lib.hid (show Adds w w1 by rw [← hw1]; exact Adds.new _ _)
  have B1 := Lib.hid (show BkS 93 w1 w.heap.size [.int .i64 0, .int .i64 0] by rw [← hw1]; exact BkS.new _ _ _)
  go_enter Tryz.func44, Tryz.ntmps44
  go_wp2_with (go_at_call 61; refine (HT.out _ A1.out).mono ?_; rintro e w2 ⟨rfl, m, rfl⟩; have A2 := Lib.hid (Adds.trans A1.out (Adds.drewN w1 m)); have c0 := HC.out _ A2.out; have B2 := Lib.hid (B1.out.adds (Adds.drewN w1 m)); have z0 := B2.out.cell 0; have z1 := B2.out.cell 1; have y0 := B2.out.free 0; have y1 := B2.out.free 1)
  refine bodyPost_ret (res_box1 rfl _ _ _ _ _ _ _ rfl ((B2.out.set 0 (.int .i64 least)).set 1 (.int .i64 ((rl : Int) - 1))) Tryz.underlying93 rfl (by kernel_rfl)) rfl ?_
  exact ⟨rfl, Adds.set (Adds.set A2.out (Nat.le_refl _) _ _) (Nat.le_refl _) _ _⟩
theorem RegO.word {v : Value} {rs : List UInt32} (h : RegO n w v rs) {i : Nat} (hi : i < rs.length) : ∃ q c, v = .slice (some ⟨q, 0, none⟩) rs.length c ∧ n ≤ q ∧ rs.length ≤ c ∧ c ≤ maxLen ∧ w.cell? ⟨q, i, none⟩ = some (.int .u32 ((rs.getD i 0).toNat : Nat)) ∧ w.frozen? ⟨q, i, none⟩ = false := by
  obtain ⟨q, c, rfl, h1, h2, h3, _⟩ := h.form (by rintro rfl; simp at hi)
  exact ⟨q, c, rfl, h1, h2, h3, h.cell hi, h.free i⟩
set_option maxRecDepth 100000 in
set_option maxHeartbeats 1000000 in
theorem regS_any (h : TopO t n w b p fv g cap R x res) (i : Nat) (hi : i < x.1.2.2.2.length) : Calls Tryz.prog 46 #[.pointer (some ⟨b, 0, none⟩), .int .i64 (i : Int)] w (Drs (.int .u32 ((x.1.2.2.2.getD i 0).toNat : Nat)) w) := by
  have HT := Lib.hid (topS_any h)
  obtain ⟨q, c, hrv, hq, hr1, hr2, hw1, _⟩ := h.reg.word hi
  unfold maxLen at hr2
  have hc3 := h.cells.2.2.2.2.1
  rw [hrv] at hc3
  have HC := Lib.hid (fun (m : Nat) => And.intro ((Adds.drewN w m).cellAt hc3) ((Adds.drewN w m).cellAt hw1))
  obtain ⟨k, hk⟩ : ∃ k, R.length = k := ⟨_, rfl⟩
  obtain ⟨rl, hrl⟩ : ∃ rl, x.1.2.2.2.length = rl := ⟨_, rfl⟩
  obtain ⟨u, hu⟩ : ∃ u, (x.1.2.2.2.getD i 0).toNat = u := ⟨_, rfl⟩
  rw [hk] at HT HC
  rw [hrl] at HC hr1 hi
  rw [hu] at HC ⊢
  clear h hrv hk hrl hc3 hw1 hu
  have hiI : (i : Int) < (rl : Int) := by omega
  have hcI : (rl : Int) ≤ 9223372036854775807 := by omega
  clear hr1 hr2 hi hq
  go_enter Tryz.func46, Tryz.ntmps46
  go_wp2_with (go_at_call 61; refine HT.out.mono ?_; rintro e w2 ⟨rfl, m, rfl⟩; obtain ⟨c0, c1⟩ := HC.out m)
  go_ret
  exact ⟨rfl, _, rfl⟩
/-- A register of the top, or none, is written. -/
def putR (reg : Int) (u : UInt32) (x : Fr × Value) : Fr × Value := if reg = -1 then x else ((x.1.1, x.1.2.1, x.1.2.2.1, x.1.2.2.2.set reg.toNat u), x.2)
set_option maxRecDepth 100000 in
set_option maxHeartbeats 1000000 in
theorem putS_any (h : TopO t n w b p fv g cap R x res) (reg : Int) (hr : reg = -1 ∨ 0 ≤ reg ∧ reg < x.1.2.2.2.length) (u : UInt32) : Calls Tryz.prog 55 #[.pointer (some ⟨b, 0, none⟩), .int .i64 reg, .int .u32 (u.toNat : Nat)] w fun e w' => e = .returned (.tuple #[]) ∧ TopO t n w' b p fv g cap R (putR reg u x) res ∧ Low n w w' := by
  have HH := Lib.hid h
  by_cases h1 : reg = -1
  · subst h1
    unfold putR
    rw [if_pos rfl]
    go_enter Tryz.func55, Tryz.ntmps55
    go_wp2
    go_end0
    exact ⟨by simp, HH.out, Low.refl _ _⟩
  · obtain ⟨i, rfl⟩ : ∃ i : Nat, reg = i := ⟨reg.toNat, by omega⟩
    have hi : i < x.1.2.2.2.length := by omega
    have HT := Lib.hid (topS_any h)
    obtain ⟨⟨f, pc, d, rs⟩, rv⟩ := x
    obtain ⟨q, c, hrv, hq, hr1, hr2, hw1, hf1⟩ := h.reg.word hi
    simp only at hrv hr1 hw1
    subst hrv
    unfold maxLen at hr2
    have hc3 := h.cells.2.2.2.2.1
    have HC := Lib.hid (fun (m : Nat) => And.intro ((Adds.drewN w m).cellAt hc3) (And.intro ((Adds.drewN w m).cellAt hw1) (show (w.drewN m).frozen? ⟨q, i, none⟩ = false from hf1)))
    obtain ⟨curq, hgq⟩ := ownB (show RegO n w (.slice (some ⟨q, 0, none⟩) rs.length c) rs from h.reg) (g := q) rfl
    have HP := Lib.hid (fun (m : Nat) => And.intro (PileO.setReg (h.adds (Adds.drewN w m)) i u) (show Low n w ((w.drewN m).setCell ⟨q, i, none⟩ (.int .u32 (u.toNat : Nat))) from (Low.mono (Adds.drewN w m) h.low).set (hgq.adds (Adds.drewN w m)) (.inr (.inr (.inr rfl))) hq _))
    clear hgq
    unfold putR
    rw [if_neg h1]
    have hne : ((i : Int) != -1) = true := by simp
    obtain ⟨k, hk⟩ : ∃ k, R.length = k := ⟨_, rfl⟩
    obtain ⟨rl, hrl⟩ : ∃ rl, rs.length = rl := ⟨_, rfl⟩
    have HK := Lib.hid hk
    have HRl := Lib.hid hrl
    simp only [hk, hrl] at HT HC HP hr1 hi
    have hiI : (i : Int) < (rl : Int) := by omega
    have hcI : (rl : Int) ≤ 9223372036854775807 := by omega
    clear h hk hrl hc3 hw1 hf1 hr1 hr2 hi hq h1 hr HH
    go_enter Tryz.func55, Tryz.ntmps55
    go_wp2_with (go_at_call 61; refine HT.out.mono ?_; rintro e w2 ⟨rfl, m, rfl⟩; obtain ⟨c0, c1, f1⟩ := HC.out m; have HQ := Lib.hid (HP.out m))
    go_end0
    have hq := HQ.out
    rw [← HK.out, ← HRl.out] at hq
    exact ⟨by simp, hq.1, hq.2⟩
set_option maxRecDepth 100000 in
set_option maxHeartbeats 1000000 in
theorem behindS_any {f pc : Nat} {d : Int} {rs : List UInt32} {rv : Value} (h : TopO t n w b p fv g cap R ((f, pc, d, rs), rv) res) (hpc : pc < 9223372036854775807) : Calls Tryz.prog 56 #[.pointer (some ⟨b, 0, none⟩)] w fun e w' => e = .returned (.tuple #[]) ∧ TopO t n w' b p fv g cap R ((f, pc + 1, d, rs), rv) res ∧ Low n w w' := by
  have HT := Lib.hid (topS_any h)
  have hc := h.cells
  have hng := (World.ownsRow.lt h.lo.row g rfl).1
  have HC := Lib.hid (fun (m : Nat) => And.intro ((Adds.drewN w m).cellAt hc.2.2.1) (show (w.drewN m).frozen? ⟨g, R.length * 4 + 1, none⟩ = false from hc.2.2.2.2.2 _))
  obtain ⟨curq, hgq⟩ := ownB h.lo.row (g := g) rfl
  have HP := Lib.hid (fun (m : Nat) => And.intro (PileO.setPc (h.adds (Adds.drewN w m)) (pc + 1)) (show Low n w ((w.drewN m).setCell ⟨g, R.length * 4 + 1, none⟩ (.int .i64 ((pc + 1 : Nat) : Int))) from (Low.mono (Adds.drewN w m) h.low).set (hgq.adds (Adds.drewN w m)) (.inr (.inr (.inl rfl))) hng _))
  clear hgq
  obtain ⟨k, hk⟩ : ∃ k, R.length = k := ⟨_, rfl⟩
  have HK := Lib.hid hk
  simp only [hk] at HT HC HP
  have hpI : (pc : Int) < 9223372036854775807 := by omega
  clear h hc hng hpc hk
  go_enter Tryz.func56, Tryz.ntmps56
  go_wp2_with (go_at_call 61; refine HT.out.mono ?_; rintro e w2 ⟨rfl, m, rfl⟩; obtain ⟨c0, f0⟩ := HC.out m; have HQ := Lib.hid (HP.out m))
  go_end0
  have e1 : ((pc : Int) + 1) = ((pc + 1 : Nat) : Int) := by omega
  rw [e1]
  have hq := HQ.out
  rw [← HK.out] at hq ⊢
  exact ⟨by simp, hq.1, hq.2⟩
end
end Go.Proofs.YtdkgehhlikaocaaGreat
