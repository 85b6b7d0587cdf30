/- Programs as they lie in memory. -/
import Derived.Test.YtfclclckcjjnkaaGreatDoorIF8
import Derived.Test.YtfclclckcjjnkaaGreatDoorBC
namespace Go.Proofs.YtfclclckcjjnkaaGreatDoor
open Go Go.RowKit Go.Shelf

/-- A function: its registers and its code. A program: functions, mutexes, locks, groups. -/
abbrev Fu := Int × List In
abbrev Pg := List Fu × Int × Int × Int
abbrev zI : In := (0, 0, 0, 0, 0)
abbrev zF : Fu := (0, [])
def At5 (w : World) (g o : Nat) (x : In) : Prop :=
  w.cell? ⟨g, o, none⟩ = some (.int .i64 x.1) ∧ w.cell? ⟨g, o + 1, none⟩ = some (.int .i64 x.2.1) ∧ w.cell? ⟨g, o + 2, none⟩ = some (.int .i64 x.2.2.1) ∧ w.cell? ⟨g, o + 3, none⟩ = some (.int .i64 x.2.2.2.1) ∧ w.cell? ⟨g, o + 4, none⟩ = some (.int .u32 x.2.2.2.2)
def CodeW (n : Nat) (w : World) (v : Value) (c : List In) : Prop :=
  ∃ ao cap, v = .slice ao c.length cap ∧ c.length ≤ cap ∧ cap ≤ maxLen ∧ (c ≠ [] → ∃ g off, ao = some ⟨g, off, none⟩ ∧ g < n ∧ ∀ i, i < c.length → At5 w g (off + i * 5) (c.getD i zI))
def FuncAt (n : Nat) (w : World) (g o : Nat) (f : Fu) : Prop :=
  w.cell? ⟨g, o, none⟩ = some (.int .i64 f.1) ∧ ∃ u, w.cell? ⟨g, o + 1, none⟩ = some u ∧ CodeW n w u f.2 ∧ (∀ x ∈ f.2, OkIn x)
def FuncsW (n : Nat) (w : World) (v : Value) (fs : List Fu) : Prop :=
  ∃ ao cap, v = .slice ao fs.length cap ∧ fs.length ≤ cap ∧ cap ≤ maxLen ∧ (fs ≠ [] → ∃ g off, ao = some ⟨g, off, none⟩ ∧ g < n ∧ ∀ i, i < fs.length → FuncAt n w g (off + i * 2) (fs.getD i zF))
abbrev pgV (v : Value) (p : Pg) : Value := .agg #[v, .int .i64 p.2.1, .int .i64 p.2.2.1, .int .i64 p.2.2.2]
abbrev pgC (v : Value) (p : Pg) : List Value := [v, .int .i64 p.2.1, .int .i64 p.2.2.1, .int .i64 p.2.2.2]
theorem At5.below {n g o : Nat} {w w' : World} {x : In} (h : At5 w g o x) (hb : Below n w w') (hg : g < n) : At5 w' g o x := by
  obtain ⟨h0, h1, h2, h3, h4⟩ := h
  exact ⟨(hb.cell (p := ⟨g, o, none⟩) hg).trans h0, (hb.cell (p := ⟨g, o + 1, none⟩) hg).trans h1, (hb.cell (p := ⟨g, o + 2, none⟩) hg).trans h2, (hb.cell (p := ⟨g, o + 3, none⟩) hg).trans h3, (hb.cell (p := ⟨g, o + 4, none⟩) hg).trans h4⟩
theorem CodeW.below {n : Nat} {w w' : World} {v : Value} {c : List In} (h : CodeW n w v c) (hb : Below n w w') : CodeW n w' v c := by
  obtain ⟨ao, cap, rfl, h1, h2, h3⟩ := h
  exact ⟨ao, cap, rfl, h1, h2, fun hl => by obtain ⟨g, off, e, hg, hc⟩ := h3 hl; exact ⟨g, off, e, hg, fun i hi => (hc i hi).below hb hg⟩⟩
theorem FuncAt.below {n g o : Nat} {w w' : World} {f : Fu} (h : FuncAt n w g o f) (hb : Below n w w') (hg : g < n) : FuncAt n w' g o f := by
  obtain ⟨h0, u, h1, h2, h3⟩ := h
  exact ⟨(hb.cell (p := ⟨g, o, none⟩) hg).trans h0, u, (hb.cell (p := ⟨g, o + 1, none⟩) hg).trans h1, h2.below hb, h3⟩
theorem FuncsW.below {n : Nat} {w w' : World} {v : Value} {fs : List Fu} (h : FuncsW n w v fs) (hb : Below n w w') : FuncsW n w' v fs := by
  obtain ⟨ao, cap, rfl, h1, h2, h3⟩ := h
  exact ⟨ao, cap, rfl, h1, h2, fun hl => by obtain ⟨g, off, e, hg, hc⟩ := h3 hl; exact ⟨g, off, e, hg, fun i hi => (hc i hi).below hb hg⟩⟩
theorem CodeW.up {n m : Nat} {w : World} {v : Value} {c : List In} (h : CodeW n w v c) (hm : n ≤ m) : CodeW m w v c := by
  obtain ⟨ao, cap, rfl, h1, h2, h3⟩ := h
  exact ⟨ao, cap, rfl, h1, h2, fun hl => by obtain ⟨g, off, e, hg, hc⟩ := h3 hl; exact ⟨g, off, e, Nat.lt_of_lt_of_le hg hm, hc⟩⟩
theorem FuncsW.up {n m : Nat} {w : World} {v : Value} {fs : List Fu} (h : FuncsW n w v fs) (hm : n ≤ m) : FuncsW m w v fs := by
  obtain ⟨ao, cap, rfl, h1, h2, h3⟩ := h
  exact ⟨ao, cap, rfl, h1, h2, fun hl => by obtain ⟨g, off, e, hg, hc⟩ := h3 hl; exact ⟨g, off, e, Nat.lt_of_lt_of_le hg hm, fun i hi => by obtain ⟨k0, u, k1, k2, k3⟩ := hc i hi; exact ⟨k0, u, k1, k2.up hm, k3⟩⟩⟩
/-- What lies in a world lies below its size. -/
theorem CodeW.here {n : Nat} {w : World} {v : Value} {c : List In} (h : CodeW n w v c) : CodeW w.heap.size w v c := by
  obtain ⟨ao, cap, rfl, h1, h2, h3⟩ := h
  refine ⟨ao, cap, rfl, h1, h2, fun hl => ?_⟩
  obtain ⟨g, off, e, hg, hc⟩ := h3 hl
  exact ⟨g, off, e, World.block_lt_of_cell? w _ (hc 0 (List.length_pos_iff.2 hl)).1, hc⟩
theorem FuncsW.here {n : Nat} {w : World} {v : Value} {fs : List Fu} (h : FuncsW n w v fs) : FuncsW w.heap.size w v fs := by
  obtain ⟨ao, cap, rfl, h1, h2, h3⟩ := h
  refine ⟨ao, cap, rfl, h1, h2, fun hl => ?_⟩
  obtain ⟨g, off, e, hg, hc⟩ := h3 hl
  exact ⟨g, off, e, World.block_lt_of_cell? w _ (hc 0 (List.length_pos_iff.2 hl)).1, fun i hi => by obtain ⟨k0, u, k1, k2, k3⟩ := hc i hi; exact ⟨k0, u, k1, k2.here, k3⟩⟩
theorem CodeW.adds {n : Nat} {w w' : World} {v : Value} {c : List In} (h : CodeW n w v c) (ha : Adds w w') : CodeW w.heap.size w' v c := h.here.below ha
theorem FuncsW.adds {n : Nat} {w w' : World} {v : Value} {fs : List Fu} (h : FuncsW n w v fs) (ha : Adds w w') : FuncsW w.heap.size w' v fs := h.here.below ha
/-- A function of a program's, where there is one. -/
theorem FuncsW.at {n : Nat} {w : World} {ao : Option Addr} {cap : Nat} {fs : List Fu} (h : FuncsW n w (.slice ao fs.length cap) fs) {i : Nat} (hi : i < fs.length) : ∃ g off, ao = some ⟨g, off, none⟩ ∧ g < n ∧ FuncAt n w g (off + i * 2) (fs.getD i zF) := by
  obtain ⟨ao', cap', e, _, _, h3⟩ := h
  simp only [Value.slice.injEq, true_and] at e
  obtain ⟨rfl, rfl⟩ := e
  obtain ⟨g, off, e, hg, hc⟩ := h3 (by rintro rfl; simp at hi)
  exact ⟨g, off, e, hg, hc i hi⟩
theorem CodeW.at {n : Nat} {w : World} {ao : Option Addr} {cap : Nat} {c : List In} (h : CodeW n w (.slice ao c.length cap) c) {i : Nat} (hi : i < c.length) : ∃ g off, ao = some ⟨g, off, none⟩ ∧ g < n ∧ At5 w g (off + i * 5) (c.getD i zI) := by
  obtain ⟨ao', cap', e, _, _, h3⟩ := h
  simp only [Value.slice.injEq, true_and] at e
  obtain ⟨rfl, rfl⟩ := e
  obtain ⟨g, off, e, hg, hc⟩ := h3 (by rintro rfl; simp at hi)
  exact ⟨g, off, e, hg, hc i hi⟩
theorem CodeW.form {n : Nat} {w : World} {v : Value} {c : List In} (h : CodeW n w v c) : ∃ ao cap, v = .slice ao c.length cap ∧ c.length ≤ cap ∧ cap ≤ maxLen := by
  obtain ⟨ao, cap, e, h1, h2, _⟩ := h
  exact ⟨ao, cap, e, h1, h2⟩
end Go.Proofs.YtfclclckcjjnkaaGreatDoor
