/- What stays where locks turn; calls that came in; what the law Holds counts. -/
import Derived.Test.YtedllkahalfjgaaWL0
import Derived.Test.YtedllkahalfjgaaWRow
import Derived.Test.YtedllkahalfjgaaBC
namespace Go.Proofs.Ytedllkahalfjgaa
open Go Go.RowKit

/-- Blocks of other types than locks lie in stay. -/
def FarT (w w' : World) : Prop := ∀ (t : TypeId) (b : Nat) (cs : List Value), BkS t w b cs → t ≠ 96 → t ≠ 94 → t ≠ 3 → BkS t w' b cs
theorem FarT.of_adds {w w' : World} (h : Adds w w') : FarT w w' := fun _ _ _ hb _ _ _ => hb.adds h
theorem FarT.trans {a b c : World} (h : FarT a b) (k : FarT b c) : FarT a c := fun t q cs hb h1 h2 h3 => k t q cs (h t q cs hb h1 h2 h3) h1 h2 h3
theorem HasL.notO {m : Nat} {w : World} {v : Value} {O : Nat → Prop} {ls : List Lk} (h : HasL m w v O ls) {t : TypeId} {b : Nat} {cs : List Value} (hb : BkS t w b cs) (h1 : t ≠ 96) (h2 : t ≠ 94) (h3 : t ≠ 3) : ¬ O b := by
  obtain ⟨bp, bl, lv, hp, rfl, _⟩ := h
  rintro (rfl | rfl | ⟨i, x, hx, hk⟩)
  · exact h1 (hb.cells_eq hp.blk).1
  · exact h2 (hb.cells_eq hp.lst).1
  · obtain ⟨cur, hc⟩ := (hp.row i x hx).type b hk
    exact h3 (hb.cells_eq hc).1
theorem HasL.farT {m : Nat} {w w' : World} {v : Value} {O : Nat → Prop} {ls : List Lk} (h : HasL m w v O ls) (ht : TnO O w w') : FarT w w' := fun _ _ _ hb h1 h2 h3 => ht.bk hb (h.notO hb h1 h2 h3)
section
variable {n : Nat} {w0 W W' : World} {v : Value} {ls ls' : List Lk}
theorem live_goes2 {f : FuncId} {args : Array Value} {r : Value} {m : Nat} (h : Live n w0 W v ls) (hc : ∀ O, HasL n W v O ls → Calls Try.prog f args W (Goes m W v O ls' r)) : Calls Try.prog f args W fun e W' => e = .returned r ∧ Live m w0 W' v ls' ∧ FarT W W' := by
  obtain ⟨O, h1, h2, h3⟩ := h
  refine (hc O h1).mono ?_
  rintro e W' ⟨rfl, O', g1, g2, g3⟩
  exact ⟨rfl, ⟨O', g1, fun k hk => (g3 k hk).elim (h2 k) (fun h => Nat.le_trans h3.size h), TnO.own h3 h2 g2⟩, h1.farT g2⟩
/-- A box of another type, of the call's own, is written to. -/
theorem Live.set (h : Live n w0 W v ls) {t : TypeId} {b : Nat} {cs : List Value} (hb : BkS t W b cs) (h1 : t ≠ 96) (h2 : t ≠ 94) (h3 : t ≠ 3) (hB : w0.heap.size ≤ b) (i : Nat) (u : Value) : Live n w0 (W.setCell ⟨b, i, none⟩ u) v ls := by
  obtain ⟨O, g1, g2, g3⟩ := h
  exact ⟨O, g1.kept (fun k hk => Below.heap_setCell W _ _ _ (fun e => g1.notO hb h1 h2 h3 (by have e' : k = b := e; rw [← e']; exact hk))), g2, Adds.set g3 hB i u⟩
theorem Live.len (h : Live n w0 W v ls) : ls.length ≤ 64 := let ⟨_, h1, _, _⟩ := h; h1.len
theorem Live.ok (h : Live n w0 W v ls) : ∀ x ∈ ls, OkL n x := let ⟨_, h1, _, _⟩ := h; h1.ok
theorem readers_live (h : Live n w0 W v ls) (hn : n ≤ 1000000) (i : Int) : Calls Try.prog 15 #[v, .int .i64 i] W fun e W' => ∃ v', e = .returned v' ∧ IntsO W.heap.size W' v' (atL ls i).rd ∧ Adds W W' := let ⟨_, h1, _, _⟩ := h; readersW_any h1 i hn
theorem writer_live (h : Live n w0 W v ls) (i : Int) : Calls Try.prog 44 #[v, .int .i64 i] W fun e w' => e = .returned (.tuple #[.int .i64 (whoW (atL ls i).wr), .bool (decide ((atL ls i).wr ≠ 0))]) ∧ Adds W w' := let ⟨_, h1, _, _⟩ := h; writerW_any h1 i
end
theorem ActsW.at3 {N : Nat} {w w' : World} {v : Value} {l : List A3} (h : ActsW N w v l) (_hN : N ≤ w.heap.size) (ha : Adds w w') {k : Nat} (hk : k < l.length) : ∃ g off cap, v = .slice (some ⟨g, off, none⟩) l.length cap ∧ At3 w' g (off + k * 3) (l.getD k zA) := by
  obtain ⟨ao, cap, rfl, _, hc⟩ := h
  obtain ⟨g, off, rfl, hg, hc⟩ := hc (by rintro rfl; simp at hk)
  obtain ⟨h0, h1, h2⟩ := hc k hk
  exact ⟨g, off, cap, rfl, Adds.cellAt ha h0, Adds.cellAt ha h1, Adds.cellAt ha h2⟩
theorem okA_at {l : List A3} (h : ∀ y ∈ l, okA y) {k : Nat} (hk : k < l.length) : okA (l.getD k zA) := by
  rw [List.getD_eq_getElem?_getD, List.getElem?_eq_getElem hk]
  exact h _ (List.getElem_mem hk)

/-! ### counts -/
def arrV (l : List Int) : List Value := (l ++ List.replicate (64 - l.length) 0).map intV
theorem arrV_at {l : List Int} {n : Nat} {x : Int} (h : l[n]? = some x) : (arrV l)[n]? = some (.int .i64 x) := by
  unfold arrV
  rw [List.getElem?_map, List.getElem?_append_left (List.getElem?_eq_some_iff.1 h).1, h]
  rfl
theorem arrV_set {l : List Int} {n : Nat} (h : n < l.length) (x : Int) : (arrV l).set n (.int .i64 x) = arrV (l.set n x) := by
  unfold arrV
  rw [List.length_set, ← List.set_append_left _ _ h, List.map_set]
theorem arrV_zero (n : Nat) (h : n ≤ 64) : arrV (List.replicate n 0) = List.replicate 64 (.int .i64 0) := by
  unfold arrV
  rw [List.length_replicate, List.replicate_append_replicate, show n + (64 - n) = 64 by omega, List.map_replicate]
def nR (x : Lk) : Int := ((x.rd.length : Nat) : Int)
def nW (x : Lk) : Int := if x.wr = 0 then 0 else 1
theorem nW_no {y : Lk} (h : nW y = 0) : decide (y.wr ≠ 0) = false := by
  unfold nW at h
  by_cases e : y.wr = 0
  · simp [e]
  · rw [if_neg e] at h; omega
theorem nW_yes {y : Lk} (h : nW y = 1) : decide (y.wr ≠ 0) = true := by
  unfold nW at h
  by_cases e : y.wr = 0
  · rw [if_pos e] at h; omega
  · simp [e]
/-- None has both. -/
def OneL (ls : List Lk) : Prop := ∀ x ∈ ls, x.wr ≠ 0 → x.rd = []
theorem OneL.at_ {ls : List Lk} (h : OneL ls) (i : Int) : (atL ls i).wr ≠ 0 → (atL ls i).rd = [] := by
  by_cases hi : hasL ls i
  · exact h _ (List.mem_of_getElem? (atL_mem hi))
  · rw [atL_no hi]; exact fun h => absurd rfl h
theorem OneL.set {ls : List Lk} (h : OneL ls) {y : Lk} (hy : y.wr ≠ 0 → y.rd = []) (n : Nat) : OneL (ls.set n y) := fun x hx => by
  rcases List.mem_or_eq_of_mem_set hx with h1 | rfl
  · exact h x h1
  · exact hy
/-- Behind a call that was not refused: the lock i is y, with so many readers and writers more. -/
structure StepW (ls ls' : List Lk) (m : Nat) (dn dw : Int) (x y : Lk) : Prop where
  at_ : ls[m]? = some x
  set : ls' = ls.set m y
  r : nR x + dn = nR y
  w : nW x + dw = nW y
  one : y.wr ≠ 0 → y.rd = []
theorem has_nat {ls : List Lk} {i : Int} (h : hasL ls i) : ∃ m : Nat, i = m ∧ m < ls.length ∧ ls[m]? = some (atL ls i) := ⟨i.toNat, by have := h.1; omega, by have := h.1; have := h.2; omega, atL_mem h⟩
theorem step_read {ls : List Lk} {i b : Int} (h : readE ls i b = 0) : ∃ (m : Nat) (x y : Lk), i = m ∧ m < ls.length ∧ StepW ls (readL ls i b) m 1 0 x y ∧ 0 < nR y ∧ nW y = 0 := by
  obtain ⟨h1, h2, h3⟩ := readE_good h
  obtain ⟨m, hm, hl, hx⟩ := has_nat h2
  refine ⟨m, _, ⟨(atL ls i).rd ++ [b], (atL ls i).wr⟩, hm, hl, ⟨hx, ?_, ?_, ?_, fun e => absurd h3 e⟩, ?_, ?_⟩
  · unfold readL; rw [if_pos h, hm]; rfl
  · simp [nR]
  · simp [nW]
  · simp [nR]
  · simp [nW, h3]
theorem step_write {ls : List Lk} {i b : Int} (h : writeE ls i b = 0) : ∃ (m : Nat) (x y : Lk), i = m ∧ m < ls.length ∧ StepW ls (writeL ls i b) m 0 1 x y ∧ nR y = 0 ∧ nW y = 1 := by
  obtain ⟨h1, h2, h3, h4⟩ := writeE_good h
  obtain ⟨m, hm, hl, hx⟩ := has_nat h2
  have h5 : ¬ b + 1 = 0 := by unfold mayI at h1; omega
  refine ⟨m, _, ⟨(atL ls i).rd, b + 1⟩, hm, hl, ⟨hx, ?_, ?_, ?_, fun _ => h4⟩, ?_, ?_⟩
  · unfold writeL; rw [if_pos h, hm]; rfl
  · simp [nR]
  · simp [nW, h3, h5]
  · simp [nR, h4]
  · simp [nW, h5]
theorem step_unread {ls : List Lk} {i b : Int} (ho : OneL ls) (h : unreadE ls i b = 0) : ∃ (m : Nat) (x y : Lk), i = m ∧ m < ls.length ∧ StepW ls (unreadL ls i b) m (-1) 0 x y ∧ 0 ≤ nR y ∧ nW y = 0 := by
  obtain ⟨h1, h2, h3⟩ := unreadE_good h
  obtain ⟨m, hm, hl, hx⟩ := has_nat h2
  have h4 : (atL ls i).wr = 0 := Classical.byContradiction fun e => h3 (ho.at_ i e)
  have h5 := outL_len b h3
  refine ⟨m, _, ⟨outL (atL ls i).rd b, (atL ls i).wr⟩, hm, hl, ⟨hx, ?_, ?_, ?_, fun e => absurd h4 e⟩, ?_, ?_⟩
  · unfold unreadL; rw [if_pos h, hm]; rfl
  · simp only [nR]; omega
  · simp [nW]
  · simp only [nR]; omega
  · simp [nW, h4]
theorem step_unwrite {ls : List Lk} {i : Int} (ho : OneL ls) (h : unwriteE ls i = 0) : ∃ (m : Nat) (x y : Lk), i = m ∧ m < ls.length ∧ StepW ls (unwriteL ls i) m 0 (-1) x y ∧ nR y = 0 ∧ nW y = 0 := by
  obtain ⟨h2, h3⟩ := unwriteE_good h
  obtain ⟨m, hm, hl, hx⟩ := has_nat h2
  have h4 := ho.at_ i h3
  refine ⟨m, _, ⟨(atL ls i).rd, 0⟩, hm, hl, ⟨hx, ?_, ?_, ?_, fun e => absurd rfl e⟩, ?_, ?_⟩
  · unfold unwriteL; rw [if_pos h, hm]; rfl
  · simp [nR]
  · simp [nW, h3]
  · simp [nR, h4]
  · simp [nW]
theorem bks_ne {t u : TypeId} {w : World} {b c : Nat} {l l' : List Value} (h : BkS t w b l) (h' : BkS u w c l') (ht : t ≠ u) : b ≠ c := fun e => by
  subst e
  exact ht (h.cells_eq h').1
theorem StepW.cells {ls ls' : List Lk} {m : Nat} {dn dw : Int} {x y : Lk} (h : StepW ls ls' m dn dw x y) : (ls.map nR)[m]? = some (nR x) ∧ (ls.map nW)[m]? = some (nW x) ∧ (atL ls' (m : Int)) = y := by
  have hm : m < ls.length := (List.getElem?_eq_some_iff.1 h.at_).1
  refine ⟨by rw [List.getElem?_map, h.at_]; rfl, by rw [List.getElem?_map, h.at_]; rfl, ?_⟩
  rw [atL_nat, h.set, List.getD_eq_getElem?_getD, List.getElem?_set_self hm]
  rfl
/-- The region of this number. -/
def regOf (n : Nat) : Code → Option Code
  | .region id ops d => if id = n then some (.region id ops d) else none
  | .seq a b => (regOf n a).or (regOf n b)
  | .cond _ a b => (regOf n a).or (regOf n b)
  | .block _ b => regOf n b
  | .loop b => regOf n b
  | .scope b => regOf n b
  | .rangeFunc _ _ a b => (regOf n a).or (regOf n b)
  | _ => none
end Go.Proofs.Ytedllkahalfjgaa
