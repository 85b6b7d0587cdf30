/- Locks in memory: the list, and what turns of it. -/
import Derived.Test.YtedllkahalfjgaaWM
namespace Go.Proofs.Ytedllkahalfjgaa
open Go Go.RowKit

/-- copy of the first at to one place further on, within one row: and the row, cut by its first. -/
theorem cut_moved {w w1 : World} {g k cap : Nat} {xs : List Int} {at_ : Nat} (h : CutR w (.slice (some ⟨g, k, none⟩) xs.length cap) xs) (hat : at_ < xs.length) {cur1 : Array Value}
    (hb : w1.heap[g]? = some (.cells cur1 3 (0, 0))) (hc : ∀ cur, w.heap[g]? = some (.cells cur 3 (0, 0)) → cur1.toList = cur.toList.take (k + 1) ++ (xs.take at_).map intV ++ cur.toList.drop (k + 1 + at_)) :
    CutR w1 (.slice (some (if cap = 1 then ⟨g, k, none⟩ else ⟨g, k + 1, none⟩)) (xs.length - 1) (cap - 1)) (xs.eraseIdx at_) := by
  rcases h with ⟨h, _⟩ | ⟨g', k', cap', cur, e, hh, h1, h2, h3, h4⟩
  · cases h
  · simp only [Value.slice.injEq, Option.some.injEq, Addr.mk.injEq, and_true, true_and] at e
    obtain ⟨⟨rfl, rfl⟩, rfl⟩ := e
    have e1 := hc cur hh
    have hsz : cur.toList.length = cur.size := by simp
    have hlen : (xs.eraseIdx at_).length = xs.length - 1 := by rw [List.length_eraseIdx, if_pos hat]
    have hs1 : cur1.size = cur.size := by
      have := congrArg List.length e1
      simp only [List.length_append, List.length_take, List.length_map, List.length_drop, Array.length_toList] at this
      omega
    have key : (cur1.toList.drop (k + 1)).take (xs.length - 1) = (xs.eraseIdx at_).map intV := by
      rw [e1]
      apply List.ext_getElem?
      intro j
      have e4 : ∀ j, j < xs.length → cur.toList[k + j]? = (xs[j]?).map intV := fun j hj => by
        have := congrArg (fun l => l[j]?) h4
        simp only [List.getElem?_take, List.getElem?_drop, List.getElem?_map, if_pos hj] at this
        exact this
      rw [List.getElem?_take, List.getElem?_drop, List.getElem?_map, List.getElem?_eraseIdx]
      by_cases hj : j < xs.length - 1
      · rw [if_pos hj, List.append_assoc, List.getElem?_append_right (by simp; omega)]
        have hx : (k + 1 + j) - (cur.toList.take (k + 1)).length = j := by simp; omega
        rw [hx]
        by_cases hja : j < at_
        · rw [if_pos hja, List.getElem?_append_left (by simp; omega), List.getElem?_map, List.getElem?_take, if_pos hja]
        · rw [if_neg hja, List.getElem?_append_right (by simp; omega), List.getElem?_drop]
          have hy : k + 1 + at_ + (j - ((xs.take at_).map intV).length) = k + (j + 1) := by simp; omega
          rw [hy, e4 _ (by omega)]
      · rw [if_neg hj]
        rw [if_neg (show ¬ j < at_ by omega), List.getElem?_eq_none (by omega)]
        rfl
    by_cases hcap : cap = 1
    · subst hcap
      rw [if_pos rfl]
      have hx0 : xs.length = 1 := by omega
      refine .inr ⟨g, k, 0, cur1, by rw [hlen], hb, by omega, by rw [hlen]; omega, by unfold maxLen; omega, ?_⟩
      rw [hlen, hx0]
      rw [show xs.eraseIdx at_ = [] from List.length_eq_zero_iff.1 (by rw [hlen, hx0])]
      simp
    · rw [if_neg hcap]
      exact .inr ⟨g, k + 1, cap - 1, cur1, by rw [hlen], hb, by omega, by rw [hlen]; omega, by omega, by rw [hlen]; exact key⟩

/-! ### the list -/
structure LM where
  lk : Lk
  sv : Value
def LM.cells (x : LM) : List Value := [x.sv, .int .i64 (whoW x.lk.wr), .bool (decide (x.lk.wr ≠ 0))]
theorem LM.cells_len (x : LM) : x.cells.length = 3 := rfl
abbrev lm0 : LM := ⟨lk0, .slice none 0 0⟩
def bodyC (lv : List LM) : List Value := (lv ++ List.replicate (64 - lv.length) lm0).flatMap LM.cells
def listC (lv : List LM) : List Value := bodyC lv ++ [.int .i64 ((lv.length : Nat) : Int)]
theorem bodyC_len {lv : List LM} (h : lv.length ≤ 64) : (bodyC lv).length = 192 := by
  unfold bodyC
  rw [flat_len LM.cells 3 LM.cells_len]
  simp; omega
theorem listC_len {lv : List LM} (h : lv.length ≤ 64) : (listC lv).length = 193 := by unfold listC; simp [bodyC_len h]
theorem listC_many {lv : List LM} (h : lv.length ≤ 64) : (listC lv)[192]? = some (.int .i64 ((lv.length : Nat) : Int)) := by
  unfold listC
  rw [List.getElem?_append_right (by rw [bodyC_len h]; omega), bodyC_len h]
  rfl
theorem listC_at {lv : List LM} (h : lv.length ≤ 64) {i : Nat} {x : LM} (hi : lv[i]? = some x) (j : Nat) (hj : j < 3) : (listC lv)[i * 3 + j]? = x.cells[j]? := by
  have hlt : i < lv.length := (List.getElem?_eq_some_iff.1 hi).1
  unfold listC
  rw [List.getElem?_append_left (by rw [bodyC_len h]; omega)]
  unfold bodyC
  rw [flat_get LM.cells 3 LM.cells_len _ i j hj, List.getElem?_append_left hlt, hi]
  rfl
theorem listC_set {lv : List LM} (h : lv.length ≤ 64) {i : Nat} (hi : i < lv.length) (j : Nat) (hj : j < 3) (u : Value) (y : LM) (hy : ∀ x, lv[i]? = some x → y.cells = x.cells.set j u) : (listC lv).set (i * 3 + j) u = listC (lv.set i y) := by
  unfold listC
  rw [List.set_append_left _ _ (by rw [bodyC_len h]; omega)]
  unfold bodyC
  rw [flat_set LM.cells 3 LM.cells_len _ i j hj u y (fun x hx => hy x (by rwa [List.getElem?_append_left hi] at hx))]
  rw [List.set_append_left _ _ hi]
  simp
abbrev Tri := Value × Value × Value
def triC (t : Tri) : List Value := [t.1, t.2.1, t.2.2]
def LM.tri (x : LM) : Tri := (x.sv, .int .i64 (whoW x.lk.wr), .bool (decide (x.lk.wr ≠ 0)))
theorem tri_flat (l : List LM) : l.flatMap LM.cells = (l.map LM.tri).flatMap triC := by rw [List.flatMap_map]; rfl
theorem listC_set2 {lv : List LM} (h : lv.length ≤ 64) {i : Nat} (hi : i < lv.length) (u u' : Value) (y : LM) (hy : ∀ x, lv[i]? = some x → y.cells = [x.sv, u, u']) : ((listC lv).set (i * 3 + 1) u).set (i * 3 + 2) u' = listC (lv.set i y) := by
  unfold listC
  rw [List.set_append_left _ _ (by rw [bodyC_len h]; omega), List.set_append_left _ _ (by rw [List.length_set, bodyC_len h]; omega)]
  unfold bodyC
  have hx : lv[i]? = some lv[i] := List.getElem?_eq_getElem hi
  rw [tri_flat, tri_flat, flat_set triC 3 (fun _ => rfl) _ i 1 (by decide) u ((lv[i]).sv, u, .bool (decide ((lv[i]).lk.wr ≠ 0))) (fun t ht => by
      rw [List.getElem?_map, List.getElem?_append_left hi, hx] at ht
      simp only [Option.map_some, Option.some.injEq] at ht
      subst ht; rfl),
    flat_set triC 3 (fun _ => rfl) _ i 2 (by decide) u' y.tri (fun t ht => by
      rw [List.getElem?_set_self (by simp; omega)] at ht
      simp only [Option.some.injEq] at ht
      subst ht
      exact hy _ hx), List.set_set, ← List.map_set, List.set_append_left _ _ hi]
  simp
theorem bodyC_nil (n : Nat) (h : n ≤ 64) : bodyC (List.replicate n lm0) = (List.replicate 64 lm0).flatMap LM.cells := by
  unfold bodyC
  rw [List.length_replicate, List.replicate_append_replicate, show n + (64 - n) = 64 by omega]

/-- The blocks that locks lie in. -/
def ownB (bp bl : Nat) (lv : List LM) (k : Nat) : Prop := k = bp ∨ k = bl ∨ ∃ (i : Nat) (x : LM), lv[i]? = some x ∧ x.sv.ownBlock = some k
/-- Only these blocks have turned; memory was made. -/
structure TnO (O : Nat → Prop) (w w' : World) : Prop where
  os : w'.os = w.os
  tape : w'.tape = w.tape
  output : w'.output = w.output
  size : w.heap.size ≤ w'.heap.size
  block : ∀ k, k < w.heap.size → ¬ O k → w'.heap[k]? = w.heap[k]?
theorem TnO.refl (O : Nat → Prop) (w : World) : TnO O w w := ⟨rfl, rfl, rfl, Nat.le_refl _, fun _ _ _ => rfl⟩
theorem TnO.of_adds (O : Nat → Prop) {w w' : World} (h : Adds w w') : TnO O w w' := ⟨h.os, h.tape, h.output, h.size, fun k hk _ => h.block k hk⟩
theorem TnO.trans {O : Nat → Prop} {u v w : World} (h : TnO O u v) (k : TnO O v w) : TnO O u w :=
  ⟨k.os.trans h.os, k.tape.trans h.tape, k.output.trans h.output, Nat.le_trans h.size k.size, fun i hi ho => (k.block i (Nat.lt_of_lt_of_le hi h.size) ho).trans (h.block i hi ho)⟩
/-- Of other blocks behind, which are of these, or new. -/
theorem TnO.trans' {O O' : Nat → Prop} {u v w : World} (h : TnO O u v) (hO : ∀ k, O' k → O k ∨ u.heap.size ≤ k) (k : TnO O' v w) : TnO O u w :=
  ⟨k.os.trans h.os, k.tape.trans h.tape, k.output.trans h.output, Nat.le_trans h.size k.size, fun i hi ho => (k.block i (Nat.lt_of_lt_of_le hi h.size) (fun e => by
    rcases hO i e with c | c
    · exact ho c
    · omega)).trans (h.block i hi ho)⟩
/-- Of blocks that the call itself made. -/
theorem TnO.own {O : Nat → Prop} {u v w : World} (h : Adds u v) (hO : ∀ k, O k → u.heap.size ≤ k) (k : TnO O v w) : Adds u w :=
  ⟨k.os.trans h.os, k.tape.trans h.tape, k.output.trans h.output, Nat.le_trans h.size k.size, fun i hi => (k.block i (Nat.lt_of_lt_of_le hi h.size) (fun e => by have := hO i e; omega)).trans (h.block i hi)⟩
theorem TnO.cell {O : Nat → Prop} {w w' : World} (h : TnO O w w') {b i : Nat} {v : Value} (hc : w.cell? ⟨b, i, none⟩ = some v) (hb : ¬ O b) : w'.cell? ⟨b, i, none⟩ = some v :=
  (World.cell?_of_block (h.block b (World.block_lt_of_cell? w _ hc) hb)).trans hc
theorem TnO.bk {O : Nat → Prop} {w w' : World} {t : TypeId} {b : Nat} {l : List Value} (h : TnO O w w') (hb : BkS t w b l) (hO : ¬ O b) : BkS t w' b l := (h.block b hb.lt hO).trans hb

structure LocksP (m : Nat) (w : World) (v : Value) (bp bl : Nat) (lv : List LM) : Prop where
  ptr : v = .pointer (some ⟨bp, 0, none⟩)
  blk : BkS 96 w bp [.pointer (some ⟨bl, 0, none⟩)]
  lst : BkS 94 w bl (listC lv)
  len : lv.length ≤ 64
  row : ∀ (i : Nat) x, lv[i]? = some x → CutR w x.sv x.lk.rd
  apart : ∀ (i j : Nat) x y k, lv[i]? = some x → lv[j]? = some y → x.sv.ownBlock = some k → y.sv.ownBlock = some k → i = j
  ok : ∀ x ∈ lv, OkL m x.lk
section
variable {m : Nat} {w w' : World} {v : Value} {bp bl : Nat} {lv : List LM}
theorem LocksP.lt (h : LocksP m w v bp bl lv) : ∀ k, ownB bp bl lv k → k < w.heap.size := by
  rintro k (rfl | rfl | ⟨i, x, hx, hk⟩)
  · exact h.blk.lt
  · exact h.lst.lt
  · exact (h.row i x hx).lt k hk
theorem LocksP.kept (h : LocksP m w v bp bl lv) (hb : ∀ k, ownB bp bl lv k → w'.heap[k]? = w.heap[k]?) : LocksP m w' v bp bl lv :=
  ⟨h.ptr, (hb bp (.inl rfl)).trans h.blk, (hb bl (.inr (.inl rfl))).trans h.lst, h.len, fun i x hx => (h.row i x hx).kept fun g hg => hb g (.inr (.inr ⟨i, x, hx, hg⟩)), h.apart, h.ok⟩
theorem LocksP.adds (h : LocksP m w v bp bl lv) (ha : Adds w w') : LocksP m w' v bp bl lv := h.kept fun k hk => ha.block k (h.lt k hk)
theorem LocksP.up (h : LocksP m w v bp bl lv) {n : Nat} (hn : m ≤ n) : LocksP n w v bp bl lv := ⟨h.ptr, h.blk, h.lst, h.len, h.row, h.apart, fun x hx => (h.ok x hx).up hn⟩
theorem BkS.cells_eq {t u : TypeId} {w : World} {b : Nat} {l : List Value} {cur : Array Value} {z : Nat × Nat} (h : BkS t w b l) (h' : w.heap[b]? = some (.cells cur u z)) : t = u ∧ l.toArray = cur := by
  unfold BkS at h
  rw [h] at h'
  simp only [Option.some.injEq, Obj.cells.injEq] at h'
  exact ⟨h'.2.1, h'.1⟩
/-- The three kinds of blocks are unlike. -/
theorem LocksP.ne (h : LocksP m w v bp bl lv) : bp ≠ bl := fun e => by
  have h2 := h.lst
  rw [← e] at h2
  have := (h.blk.cells_eq h2).1
  revert this; decide
theorem LocksP.ne_row (h : LocksP m w v bp bl lv) {i : Nat} {x : LM} {k : Nat} (hx : lv[i]? = some x) (hk : x.sv.ownBlock = some k) : k ≠ bp ∧ k ≠ bl := by
  obtain ⟨cur, hc⟩ := (h.row i x hx).type k hk
  constructor
  · rintro rfl
    have := (h.blk.cells_eq hc).1
    revert this; decide
  · rintro rfl
    have := (h.lst.cells_eq hc).1
    revert this; decide
/-- One lock's row turns, or lies elsewhere, and the list's cells are written: locks still. -/
theorem LocksP.turn (h : LocksP m w v bp bl lv) {n : Nat} (hn : m ≤ n) {i : Nat} {x y : LM} (hx : lv[i]? = some x) (hy : CutR w' y.sv y.lk.rd) (hok : OkL n y.lk) (hl : BkS 94 w' bl (listC (lv.set i y)))
    (ht : TnO (fun k => k = bl ∨ x.sv.ownBlock = some k) w w') (hg : ∀ k, y.sv.ownBlock = some k → x.sv.ownBlock = some k ∨ w.heap.size ≤ k) :
    LocksP n w' v bp bl (lv.set i y) ∧ TnO (ownB bp bl lv) w w' ∧ ∀ k, ownB bp bl (lv.set i y) k → ownB bp bl lv k ∨ w.heap.size ≤ k := by
  have hi : i < lv.length := (List.getElem?_eq_some_iff.1 hx).1
  have get : ∀ j z, (lv.set i y)[j]? = some z → (j = i ∧ z = y) ∨ (j ≠ i ∧ lv[j]? = some z) := fun j z hz => by
    rw [List.getElem?_set] at hz
    by_cases e : i = j
    · rw [if_pos e, if_pos (by omega)] at hz; simp at hz; exact .inl ⟨e.symm, hz.symm⟩
    · rw [if_neg e] at hz; exact .inr ⟨fun e' => e e'.symm, hz⟩
  refine ⟨⟨h.ptr, ?_, hl, by simpa using h.len, ?_, ?_, ?_⟩, ⟨ht.os, ht.tape, ht.output, ht.size, fun k hk ho => ht.block k hk ?_⟩, ?_⟩
  · refine (ht.block bp h.blk.lt ?_).trans h.blk
    rintro (e | e)
    · exact h.ne e
    · exact (h.ne_row hx e).1 rfl
  · intro j z hz
    rcases get j z hz with ⟨rfl, rfl⟩ | ⟨hj, hz⟩
    · exact hy
    · refine (h.row j z hz).kept fun g hg' => ht.block g ((h.row j z hz).lt g hg') ?_
      rintro (e | e)
      · exact (h.ne_row hz hg').2 e
      · exact hj (h.apart j i z x g hz hx hg' e)
  · intro j j' z z' k hz hz' hk hk'
    have far : ∀ (j : Nat) (z : LM), j ≠ i → lv[j]? = some z → z.sv.ownBlock = some k → y.sv.ownBlock = some k → False := fun j z hj hz hk hk' => by
      rcases hg k hk' with c | c
      · exact hj (h.apart j i z x k hz hx hk c)
      · have := (h.row j z hz).lt k hk
        omega
    rcases get j z hz with ⟨e1, e2⟩ | ⟨hj, hz1⟩
    · rcases get j' z' hz' with ⟨e3, e4⟩ | ⟨hj', hz1'⟩
      · rw [e1, e3]
      · exact (far j' z' hj' hz1' hk' (by rw [← e2]; exact hk)).elim
    · rcases get j' z' hz' with ⟨e3, e4⟩ | ⟨hj', hz1'⟩
      · exact (far j z hj hz1 hk (by rw [← e4]; exact hk')).elim
      · exact h.apart j j' z z' k hz1 hz1' hk hk'
  · intro z hz
    rcases List.mem_or_eq_of_mem_set hz with h1 | rfl
    · exact (h.ok z h1).up hn
    · exact hok
  · rintro (rfl | e)
    · exact ho (.inr (.inl rfl))
    · exact ho (.inr (.inr ⟨i, x, hx, e⟩))
  · rintro k (rfl | rfl | ⟨j, z, hz, hk⟩)
    · exact .inl (.inl rfl)
    · exact .inl (.inr (.inl rfl))
    · rcases get j z hz with ⟨rfl, rfl⟩ | ⟨hj, hz⟩
      · rcases hg k hk with c | c
        · exact .inl (.inr (.inr ⟨j, x, hx, c⟩))
        · exact .inr c
      · exact .inl (.inr (.inr ⟨j, z, hz, hk⟩))
/-- One lock's readers are others, in the row that was, or in another one. -/
theorem LocksP.putR (h : LocksP m w v bp bl lv) {n : Nat} (hn : m ≤ n) {i : Nat} {x : LM} (hx : lv[i]? = some x) {w1 : World} {v' : Value} {rd' : List Int} (hgr : w.grownBy w1 x.sv.ownBlock) (hy : CutR w1 v' rd') (hok : OkL n ⟨rd', x.lk.wr⟩)
    (hg : ∀ k, v'.ownBlock = some k → x.sv.ownBlock = some k ∨ w.heap.size ≤ k) :
    LocksP n (w1.setCell ⟨bl, i * 3, none⟩ v') v bp bl (lv.set i ⟨⟨rd', x.lk.wr⟩, v'⟩) ∧ TnO (ownB bp bl lv) w (w1.setCell ⟨bl, i * 3, none⟩ v') ∧ ∀ k, ownB bp bl (lv.set i ⟨⟨rd', x.lk.wr⟩, v'⟩) k → ownB bp bl lv k ∨ w.heap.size ≤ k := by
  have hi : i < lv.length := (List.getElem?_eq_some_iff.1 hx).1
  have hbl : BkS 94 w1 bl (listC lv) := (hgr.block bl h.lst.lt (fun e => (h.ne_row hx e.symm).2 rfl)).trans h.lst
  have hne : ∀ k, v'.ownBlock = some k → k ≠ bl := fun k hk e => by
    obtain ⟨cur, hc⟩ := hy.type k hk
    rw [e] at hc
    have := (hbl.cells_eq hc).1
    revert this; decide
  refine h.turn hn hx (y := ⟨⟨rd', x.lk.wr⟩, v'⟩) (hy.kept fun g hg' => Below.heap_setCell w1 _ _ _ (hne g hg')) hok ?_ ⟨hgr.os, hgr.tape, hgr.output, by simpa [World.setCell] using hgr.size, fun k hk ho => ?_⟩ hg
  · have := hbl.set (i * 3) v'
    rwa [show i * 3 = i * 3 + 0 from rfl, listC_set h.len hi 0 (by decide) v' ⟨⟨rd', x.lk.wr⟩, v'⟩ (fun z hz => by rw [hx] at hz; cases hz; rfl)] at this
  · exact (Below.heap_setCell w1 _ _ _ (fun e => ho (.inl e))).trans (hgr.block k hk (fun e => ho (.inr e.symm)))
/-- One lock's writer is another one. -/
theorem LocksP.putW (h : LocksP m w v bp bl lv) {i : Nat} {x : LM} (hx : lv[i]? = some x) (c : Int) (hok : OkL m ⟨x.lk.rd, c⟩) :
    let w' := (w.setCell ⟨bl, i * 3 + 1, none⟩ (.int .i64 (whoW c))).setCell ⟨bl, i * 3 + 2, none⟩ (.bool (decide (c ≠ 0)))
    LocksP m w' v bp bl (lv.set i ⟨⟨x.lk.rd, c⟩, x.sv⟩) ∧ TnO (ownB bp bl lv) w w' ∧ ∀ k, ownB bp bl (lv.set i ⟨⟨x.lk.rd, c⟩, x.sv⟩) k → ownB bp bl lv k ∨ w.heap.size ≤ k := by
  intro w'
  have hi : i < lv.length := (List.getElem?_eq_some_iff.1 hx).1
  have far : ∀ k, k ≠ bl → w'.heap[k]? = w.heap[k]? := fun k hk => (Below.heap_setCell _ _ _ _ hk).trans (Below.heap_setCell _ _ _ _ hk)
  refine h.turn (Nat.le_refl m) hx (y := ⟨⟨x.lk.rd, c⟩, x.sv⟩) ((h.row i x hx).kept fun g hg => far g (h.ne_row hx hg).2) hok ?_ ⟨rfl, rfl, rfl, by simp [w', World.setCell], fun k hk ho => far k (fun e => ho (.inl e))⟩ (fun k hk => .inl hk)
  have h1 := (h.lst.set (i * 3 + 1) (.int .i64 (whoW c))).set (i * 3 + 2) (.bool (decide (c ≠ 0)))
  rw [listC_set2 h.len hi _ _ ⟨⟨x.lk.rd, c⟩, x.sv⟩ (fun z hz => by rw [hx] at hz; cases hz; rfl)] at h1
  exact h1
end
/-- Locks that read ls, in blocks O. -/
def HasL (m : Nat) (w : World) (v : Value) (O : Nat → Prop) (ls : List Lk) : Prop := ∃ bp bl lv, LocksP m w v bp bl lv ∧ O = ownB bp bl lv ∧ ls = lv.map LM.lk
/-- What a call leaves: the same locks, others in them; nothing else has turned. -/
def Goes (n : Nat) (w : World) (v : Value) (O : Nat → Prop) (ls : List Lk) (r : Value) (e : Ending) (w' : World) : Prop :=
  e = .returned r ∧ ∃ O', HasL n w' v O' ls ∧ TnO O w w' ∧ ∀ k, O' k → O k ∨ w.heap.size ≤ k
theorem HasL.adds {m : Nat} {w w' : World} {v : Value} {O : Nat → Prop} {ls : List Lk} (h : HasL m w v O ls) (ha : Adds w w') : HasL m w' v O ls := let ⟨bp, bl, lv, h1, h2, h3⟩ := h; ⟨bp, bl, lv, h1.adds ha, h2, h3⟩
theorem HasL.up {m n : Nat} {w : World} {v : Value} {O : Nat → Prop} {ls : List Lk} (h : HasL m w v O ls) (hn : m ≤ n) : HasL n w v O ls := let ⟨bp, bl, lv, h1, h2, h3⟩ := h; ⟨bp, bl, lv, h1.up hn, h2, h3⟩
theorem HasL.lt {m : Nat} {w : World} {v : Value} {O : Nat → Prop} {ls : List Lk} (h : HasL m w v O ls) : ∀ k, O k → k < w.heap.size := by
  obtain ⟨bp, bl, lv, h1, rfl, _⟩ := h; exact h1.lt
theorem HasL.kept {m : Nat} {w w' : World} {v : Value} {O : Nat → Prop} {ls : List Lk} (h : HasL m w v O ls) (hb : ∀ k, O k → w'.heap[k]? = w.heap[k]?) : HasL m w' v O ls := by
  obtain ⟨bp, bl, lv, h1, rfl, h3⟩ := h; exact ⟨bp, bl, lv, h1.kept hb, rfl, h3⟩
/-- Locks in other blocks turn. -/
theorem HasL.far {m : Nat} {w w' : World} {v : Value} {O O' : Nat → Prop} {ls : List Lk} (h : HasL m w v O ls) (ht : TnO O' w w') (hd : ∀ k, O k → ¬ O' k) : HasL m w' v O ls := h.kept fun k hk => ht.block k (h.lt k hk) (hd k hk)
theorem HasL.len {m : Nat} {w : World} {v : Value} {O : Nat → Prop} {ls : List Lk} (h : HasL m w v O ls) : ls.length ≤ 64 := by
  obtain ⟨bp, bl, lv, h1, _, rfl⟩ := h; simpa using h1.len
theorem HasL.ok {m : Nat} {w : World} {v : Value} {O : Nat → Prop} {ls : List Lk} (h : HasL m w v O ls) : ∀ x ∈ ls, OkL m x := by
  obtain ⟨bp, bl, lv, h1, _, rfl⟩ := h
  intro x hx
  obtain ⟨y, hy, rfl⟩ := List.mem_map.1 hx
  exact h1.ok y hy
end Go.Proofs.Ytedllkahalfjgaa
