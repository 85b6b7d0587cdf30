/- A memory in the heap: its map, its pages; what stays as it is. -/
import Derived.Laws.Rows
import Derived.Laws.Tables
import Derived.Deep.WholeRow
import Derived.Test.YtleihmmkonakhaaDoorDMem
import Derived.Test.YtleihmmkonakhaaDoorMMap
namespace Go.Proofs.YtleihmmkonakhaaDoor
open Go Go.RowKit Go.Maps

/-! ### What keeps all blocks but some -/
structure Frm (M : Nat → Prop) (w w' : World) : Prop where
  os : w'.os = w.os
  tape : w'.tape = w.tape
  output : w'.output = w.output
  size : w.heap.size ≤ w'.heap.size
  block : ∀ k, k < w.heap.size → ¬ M k → w'.heap[k]? = w.heap[k]?
theorem Frm.refl (M : Nat → Prop) (w : World) : Frm M w w := ⟨rfl, rfl, rfl, Nat.le_refl _, fun _ _ _ => rfl⟩
theorem Frm.trans {M : Nat → Prop} {u v w : World} (h : Frm M u v) (k : Frm M v w) : Frm M u w :=
  ⟨k.os.trans h.os, k.tape.trans h.tape, k.output.trans h.output, Nat.le_trans h.size k.size, fun i hi hm => (k.block i (Nat.lt_of_lt_of_le hi h.size) hm).trans (h.block i hi hm)⟩
/-- What is written anew may be a block that was not there at first. -/
theorem Frm.then {M M' : Nat → Prop} {u v w : World} (h : Frm M u v) (k : Frm M' v w) (hm : ∀ i, M' i → M i ∨ u.heap.size ≤ i) : Frm M u w :=
  ⟨k.os.trans h.os, k.tape.trans h.tape, k.output.trans h.output, Nat.le_trans h.size k.size, fun i hi hn => (k.block i (Nat.lt_of_lt_of_le hi h.size) (fun e => (hm i e).elim hn (by omega))).trans (h.block i hi hn)⟩
theorem Frm.mono {M M' : Nat → Prop} {w w' : World} (h : Frm M w w') (hm : ∀ k, M k → M' k) : Frm M' w w' := ⟨h.os, h.tape, h.output, h.size, fun k hk hn => h.block k hk fun e => hn (hm k e)⟩
theorem Frm.of_adds (M : Nat → Prop) {w w' : World} (h : Adds w w') : Frm M w w' := ⟨h.os, h.tape, h.output, h.size, fun k hk _ => h.block k hk⟩
theorem Frm.of_grown {M : Nat → Prop} {w w' : World} {b : Nat} (h : w.grownBy w' (some b)) (hb : M b) : Frm M w w' :=
  ⟨h.os, h.tape, h.output, h.size, fun k hk hn => h.block k hk fun e => by cases e; exact hn hb⟩
theorem Frm.adds {M : Nat → Prop} {u w w' : World} (h : Adds u w) (k : Frm M w w') (hm : ∀ i, M i → u.heap.size ≤ i) : Adds u w' :=
  ⟨k.os.trans h.os, k.tape.trans h.tape, k.output.trans h.output, Nat.le_trans h.size k.size, fun i hi => (k.block i (Nat.lt_of_lt_of_le hi h.size) (fun e => by have := hm i e; omega)).trans (h.block i hi)⟩
theorem Frm.setCell {M : Nat → Prop} {b : Nat} (i : Nat) (w : World) (u : Value) (hb : M b) : Frm M w (w.setCell ⟨b, i, none⟩ u) := Frm.of_grown (Turns.setCell b i w u) hb
theorem Frm.drew (M : Nat → Prop) (w : World) : Frm M w w.drew := ⟨rfl, rfl, rfl, Nat.le_refl _, fun _ _ _ => rfl⟩
theorem Frm.alloc (M : Nat → Prop) (w : World) (o : Obj) : Frm M w (w.alloc o) := Frm.of_adds M ((Below.refl _ _).alloc (Nat.le_refl _) _)

/-! ### Pages -/
def pageL (f : Nat → Nat) (n : Nat) : List Value := (List.range 4096).map (fun i => .int .u32 ((f i : Nat) : Int)) ++ [.int .i64 n]
/-- Block c holds a page: its words, how many of them are said not to be 0. -/
def PBlk (w : World) (c : Nat) (f : Nat → Nat) (n : Nat) : Prop := w.heap[c]? = some (.cells (pageL f n).toArray 76 (0, 0))
theorem pageL_word (f : Nat → Nat) (n i : Nat) (h : i < 4096) : (pageL f n)[i]? = some (.int .u32 ((f i : Nat) : Int)) := by
  unfold pageL
  rw [List.getElem?_append_left (by simpa using h)]
  simp [h]
theorem pageL_left (f : Nat → Nat) (n : Nat) : (pageL f n)[4096]? = some (.int .i64 n) := by
  unfold pageL
  rw [List.getElem?_append_right (by simp)]
  simp
theorem pageL_set (f : Nat → Nat) (n a v : Nat) (h : a < 4096) : (pageL f n).set a (.int .u32 ((v : Nat) : Int)) = pageL (setW f a v) n := by
  unfold pageL
  rw [List.set_append_left _ _ (by simpa using h)]
  refine congrArg (· ++ [Value.int .i64 ((n : Nat) : Int)]) ?_
  generalize 4096 = m
  apply List.ext_getElem
  · simp
  · intro i h1 h2
    rw [List.getElem_set]
    simp only [List.getElem_map, List.getElem_range, setW]
    split
    · rename_i e; rw [if_pos e.symm]
    · rename_i e; rw [if_neg (fun e' => e e'.symm)]
theorem pageL_set_left (f : Nat → Nat) (n m : Nat) : (pageL f n).set 4096 (.int .i64 m) = pageL f m := by
  unfold pageL
  rw [List.set_append_right _ _ (by simp)]
  simp
theorem pageL_congr {f g : Nat → Nat} (n : Nat) (h : ∀ i, i < 4096 → f i = g i) : pageL f n = pageL g n := by
  unfold pageL
  refine congrArg (· ++ [Value.int .i64 ((n : Nat) : Int)]) ?_
  apply List.map_congr_left
  intro i hi
  rw [h i (by simpa using hi)]
theorem pageL_inj {f g : Nat → Nat} {n m : Nat} (h : pageL f n = pageL g m) : ∀ i, i < 4096 → f i = g i := fun i hi => by
  have h1 := pageL_word f n i hi
  rw [h, pageL_word g m i hi] at h1
  simp only [Option.some.injEq, Value.int.injEq, true_and] at h1
  omega
theorem pageL_size (f : Nat → Nat) (n : Nat) : (pageL f n).toArray.size = 4097 := by simp [pageL]
theorem pageL_one (f : Nat → Nat) (n : Nat) : (pageL f n).toArray.all (·.oneCell') = true := by
  rw [Array.all_eq_true_iff_forall_mem]
  intro u hu
  have hm : u ∈ pageL f n := by simpa using hu
  unfold pageL at hm
  rcases List.mem_append.1 hm with h | h
  · obtain ⟨i, _, rfl⟩ := List.mem_map.1 h; rfl
  · rw [List.mem_singleton.1 h]; rfl
theorem PBlk.lt {w : World} {c : Nat} {f : Nat → Nat} {n : Nat} (h : PBlk w c f n) : c < w.heap.size := (Array.getElem?_eq_some_iff.1 h).1
theorem PBlk.cell {w : World} {c : Nat} {f : Nat → Nat} {n : Nat} (h : PBlk w c f n) (i : Nat) (hi : i < 4096) : w.cell? ⟨c, i, none⟩ = some (.int .u32 ((f i : Nat) : Int)) := by
  rw [cell_of_row w c i _ _ _ h]; simpa using pageL_word f n i hi
theorem PBlk.left {w : World} {c : Nat} {f : Nat → Nat} {n : Nat} (h : PBlk w c f n) : w.cell? ⟨c, 4096, none⟩ = some (.int .i64 n) := by
  rw [cell_of_row w c 4096 _ _ _ h]; simpa using pageL_left f n
theorem PBlk.free {w : World} {c : Nat} {f : Nat → Nat} {n : Nat} (h : PBlk w c f n) (i : Nat) : w.frozen? ⟨c, i, none⟩ = false := by
  unfold PBlk at h
  simp [World.frozen?, h]
theorem PBlk.setAny {w : World} {c : Nat} {l : List Value} (h : w.heap[c]? = some (.cells l.toArray 76 (0, 0))) (i : Nat) (u : Value) :
    (w.setCell ⟨c, i, none⟩ u).heap[c]? = some (.cells (l.set i u).toArray 76 (0, 0)) := by
  simp only [World.setCell, Array.getElem?_modify, h]
  simp
theorem PBlk.set {w : World} {c : Nat} {f : Nat → Nat} {n : Nat} (h : PBlk w c f n) (a v : Nat) (ha : a < 4096) : PBlk (w.setCell ⟨c, a, none⟩ (.int .u32 ((v : Nat) : Int))) c (setW f a v) n := by
  have := PBlk.setAny h a (.int .u32 ((v : Nat) : Int))
  rwa [pageL_set f n a v ha] at this
theorem PBlk.setLeft {w : World} {c : Nat} {f : Nat → Nat} {n : Nat} (h : PBlk w c f n) (m : Nat) : PBlk (w.setCell ⟨c, 4096, none⟩ (.int .i64 m)) c f m := by
  have := PBlk.setAny h 4096 (.int .i64 m)
  rwa [pageL_set_left f n m] at this
theorem PBlk.same {w w' : World} {c : Nat} {f : Nat → Nat} {n : Nat} (h : PBlk w c f n) (hb : w'.heap[c]? = w.heap[c]?) : PBlk w' c f n := hb.trans h
theorem PBlk.congr {w : World} {c : Nat} {f g : Nat → Nat} {n : Nat} (h : PBlk w c f n) (hf : ∀ i, i < 4096 → f i = g i) : PBlk w c g n := by
  unfold PBlk at *
  rwa [← pageL_congr n hf]
theorem PBlk.new (w : World) (f : Nat → Nat) (n : Nat) : PBlk (w.alloc (.cells (pageL f n).toArray 76)) w.heap.size f n := heap_alloc_new w _

/-! ### Memories -/
/-- Block b is a map of pages L that hold the words S. -/
structure MemL (w : World) (b : Nat) (S : Nat → Nat) (L : List (Nat × Nat)) : Prop where
  map : MapAt w b L
  apart : (L.map (·.2)).Nodup
  page : ∀ x ∈ L, x.1 < 1048576 ∧ PBlk w x.2 (pgW S x.1) (cntP (pgW S x.1)) ∧ cntP (pgW S x.1) ≠ 0
  all : ∀ p, p < 1048576 → p ∉ L.map (·.1) → ∀ i, i < 4096 → pgW S p i = 0
  word : ∀ a, S a < 4294967296
/-- The blocks of a memory. -/
def foot (b : Nat) (L : List (Nat × Nat)) (k : Nat) : Prop := k = b ∨ k ∈ L.map (·.2)

theorem MemL.block_ne {w : World} {b : Nat} {S : Nat → Nat} {L : List (Nat × Nat)} (h : MemL w b S L) : ∀ x ∈ L, x.2 ≠ b := fun x hx e => by
  have hp := (h.page x hx).2.1
  obtain ⟨n, es, ⟨es0, clock, h0, _⟩, _⟩ := h.map
  unfold PBlk at hp
  rw [e, h0] at hp
  cases hp
theorem MemL.foot_lt {w : World} {b : Nat} {S : Nat → Nat} {L : List (Nat × Nat)} (h : MemL w b S L) {k : Nat} (hk : foot b L k) : k < w.heap.size := by
  rcases hk with rfl | hk
  · exact h.map.lt
  · obtain ⟨x, hx, rfl⟩ := List.mem_map.1 hk
    exact (h.page x hx).2.1.lt
theorem MemL.same {w w' : World} {b : Nat} {S : Nat → Nat} {L : List (Nat × Nat)} (h : MemL w b S L) (hb : ∀ k, foot b L k → w'.heap[k]? = w.heap[k]?) : MemL w' b S L :=
  ⟨h.map.same (hb b (.inl rfl)), h.apart, fun x hx => ⟨(h.page x hx).1, (h.page x hx).2.1.same (hb _ (.inr (List.mem_map.2 ⟨x, hx, rfl⟩))), (h.page x hx).2.2⟩, h.all, h.word⟩
theorem MemL.adds {w w' : World} {b : Nat} {S : Nat → Nat} {L : List (Nat × Nat)} (h : MemL w b S L) (ha : Adds w w') : MemL w' b S L := h.same fun k hk => ha.block k (h.foot_lt hk)
theorem MemL.frm {M : Nat → Prop} {w w' : World} {b : Nat} {S : Nat → Nat} {L : List (Nat × Nat)} (h : MemL w b S L) (hf : Frm M w w') (hm : ∀ k, foot b L k → ¬ M k) : MemL w' b S L :=
  h.same fun k hk => hf.block k (h.foot_lt hk) (hm k hk)

theorem nodup_bound : ∀ (n : Nat) (l : List Nat), l.Nodup → (∀ x ∈ l, x < n) → l.length ≤ n
  | 0, l, _, h => by
    cases l with
    | nil => simp
    | cons x t => exact absurd (h x (by simp)) (by omega)
  | n + 1, l, hd, h => by
    by_cases hm : n ∈ l
    · have h1 := nodup_bound n (l.erase n) (hd.erase n) (fun x hx => by
        have h2 := (hd.mem_erase_iff).1 hx
        have := h x h2.2
        have := h2.1
        omega)
      rw [List.length_erase_of_mem hm] at h1
      omega
    · have := nodup_bound n l hd (fun x hx => by
        have := h x hx
        have : x ≠ n := fun e => hm (e ▸ hx)
        omega)
      omega
theorem MemL.many {w : World} {b : Nat} {S : Nat → Nat} {L : List (Nat × Nat)} (h : MemL w b S L) : L.length ≤ 1048576 := by
  have := nodup_bound 1048576 (L.map (·.1)) h.map.nodup (fun x hx => by obtain ⟨y, hy, rfl⟩ := List.mem_map.1 hx; exact (h.page y hy).1)
  simpa using this
theorem MemL.room {w : World} {b : Nat} {S : Nat → Nat} {L : List (Nat × Nat)} (h : MemL w b S L) : L.length < maxLen := by
  have := h.many
  unfold maxLen
  omega

/-- A memory behind its pointer. -/
structure MemP (w : World) (v : Value) (S : Nat → Nat) (bm b : Nat) (L : List (Nat × Nat)) : Prop where
  ptr : v = .pointer (some ⟨bm, 0, none⟩)
  cell : w.heap[bm]? = some (.cells #[.map (some b)] 52 (0, 0))
  mem : MemL w b S L
theorem MemP.ne {w : World} {v : Value} {S : Nat → Nat} {bm b : Nat} {L : List (Nat × Nat)} (h : MemP w v S bm b L) : ¬ foot b L bm := by
  rintro (e | hk)
  · obtain ⟨n, es, ⟨es0, clock, h0, _⟩, _⟩ := h.mem.map
    rw [← e, h.cell] at h0
    cases h0
  · obtain ⟨x, hx, e⟩ := List.mem_map.1 hk
    have hp := (h.mem.page x hx).2.1
    unfold PBlk at hp
    rw [e, h.cell] at hp
    have h2 : (52 : Nat) = 76 := by
      have := Option.some.inj hp
      injection this
    exact absurd h2 (by decide)
theorem MemP.c0 {w : World} {v : Value} {S : Nat → Nat} {bm b : Nat} {L : List (Nat × Nat)} (h : MemP w v S bm b L) : w.cell? ⟨bm, 0, none⟩ = some (.map (some b)) := by
  rw [cell_of_row w bm 0 _ _ _ h.cell]; rfl
theorem MemP.lt {w : World} {v : Value} {S : Nat → Nat} {bm b : Nat} {L : List (Nat × Nat)} (h : MemP w v S bm b L) : bm < w.heap.size := (Array.getElem?_eq_some_iff.1 h.cell).1
def footP (bm b : Nat) (L : List (Nat × Nat)) (k : Nat) : Prop := k = bm ∨ foot b L k
theorem MemP.foot_lt {w : World} {v : Value} {S : Nat → Nat} {bm b : Nat} {L : List (Nat × Nat)} (h : MemP w v S bm b L) {k : Nat} (hk : footP bm b L k) : k < w.heap.size :=
  hk.elim (fun e => e ▸ h.lt) h.mem.foot_lt
theorem MemP.same {w w' : World} {v : Value} {S : Nat → Nat} {bm b : Nat} {L : List (Nat × Nat)} (h : MemP w v S bm b L) (hb : ∀ k, footP bm b L k → w'.heap[k]? = w.heap[k]?) : MemP w' v S bm b L :=
  ⟨h.ptr, (hb bm (.inl rfl)).trans h.cell, h.mem.same fun k hk => hb k (.inr hk)⟩
theorem MemP.adds {w w' : World} {v : Value} {S : Nat → Nat} {bm b : Nat} {L : List (Nat × Nat)} (h : MemP w v S bm b L) (ha : Adds w w') : MemP w' v S bm b L := h.same fun _ hk => ha.block _ (h.foot_lt hk)
theorem MemP.frm {M : Nat → Prop} {w w' : World} {v : Value} {S : Nat → Nat} {bm b : Nat} {L : List (Nat × Nat)} (h : MemP w v S bm b L) (hf : Frm M w w') (hm : ∀ k, footP bm b L k → ¬ M k) : MemP w' v S bm b L :=
  h.same fun k hk => hf.block k (h.foot_lt hk) (hm k hk)
/-- What its words are may be said otherwise. -/
theorem MemL.congr {w : World} {b : Nat} {S T : Nat → Nat} {L : List (Nat × Nat)} (h : MemL w b S L) (e : ∀ a, S a = T a) : MemL w b T L := by
  have : S = T := funext e
  rwa [← this]
end Go.Proofs.YtleihmmkonakhaaDoor
