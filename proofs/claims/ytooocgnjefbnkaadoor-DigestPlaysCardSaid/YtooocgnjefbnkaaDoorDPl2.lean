/- What an act's call leaves, in the law's own words. -/
import Derived.Test.YtooocgnjefbnkaaDoorDPl
namespace Go.Proofs.YtooocgnjefbnkaaDoor
open Go Go.RowKit

theorem wp_calm {P : Program} {c : Code} {Q : Exit → Act → World → Prop} {a : Act} {w : World} (h : c.wp P (Exit.then (Q .normal) (fun _ _ _ => False)) a w) : c.wp P Q a w :=
  Code.wp_mono (Q := Exit.then (Q .normal) (fun _ _ _ => False)) (fun e _ _ hq => by cases e <;> first | exact hq | exact hq.elim) h

/-- A digest that has taken l, beside the law's own row of the same bytes. -/
structure Under (n0 bd : Nat) (va : Value) (dl al : List UInt8) (w0 W : World) : Prop where
  nb : n0 ≤ bd
  blk : Blk W bd (digK 256 (bitsS dl) dl.length)
  own : OwnB W n0 va al
  low : Below n0 w0 W
  size : n0 ≤ W.heap.size
theorem Under.adds {n0 bd : Nat} {va : Value} {dl al : List UInt8} {w0 W W' : World} (h : Under n0 bd va dl al w0 W) (ha : Adds W W') : Under n0 bd va dl al w0 W' :=
  ⟨h.nb, h.blk.adds ha, h.own.adds ha, h.low.trans (Below.mono ha h.size), Nat.le_trans h.size ha.size⟩
theorem Under.turned {n0 bd : Nat} {va : Value} {dl dl' al : List UInt8} {w0 W W' : World} (h : Under n0 bd va dl al w0 W) (ht : Turns bd W W') (hB : Blk W' bd (digK 256 (bitsS dl') dl'.length)) : Under n0 bd va dl' al w0 W' :=
  ⟨h.nb, hB, h.own.turns h.blk ht, h.low.trans (ht.low h.blk.lt h.nb), Nat.le_trans h.size ht.size⟩
theorem Under.row {n0 bd : Nat} {va va' : Value} {dl al al' : List UInt8} {w0 W W' : World} (h : Under n0 bd va dl al w0 W) (ho : OwnB W' n0 va' al') (hg : W.grownBy W' va.ownBlock) : Under n0 bd va' dl al' w0 W' :=
  ⟨h.nb, h.blk.row h.own hg, ho, h.low.trans (h.own.rowBelow h.size hg), Nat.le_trans h.size hg.size⟩

theorem plays_write {n0 bd : Nat} {va : Value} {dl al : List UInt8} {w0 W : World} (h : Under n0 bd va dl al w0 W) (u : Value) (bs : List UInt8) (hu : Bytes n0 W u bs) (hd : dl.length ≤ 1600) (hbs : bs.length ≤ 40) :
    Calls Tryd.prog 9 #[.pointer (some ⟨bd, 0, none⟩), .slice (some ⟨W.heap.size, 0, none⟩) 2 2] (W.drew.alloc (.cells #[u, u] 25)) fun e w' => e = .returned (.int .i64 0) ∧ Under n0 bd va (dl ++ bs ++ bs) al w0 w' := by
  have h1 : Under n0 bd va dl al w0 (W.drew.alloc (.cells #[u, u] 25)) := h.adds ((Adds.drew W).trans (adds_new _ _))
  have hu2 : Bytes n0 W.drew u bs := hu.below ((Below.refl _ _).drew)
  refine (write_any bd (bitsS dl) dl.length (bitsS_lt dl) _ [bs, bs] _ (lists_2 W.drew u u bs bs h.size hu2 hu2) h1.blk (by simp; omega)).mono ?_
  rintro e w' ⟨rfl, hB, ht⟩
  refine ⟨rfl, h1.turned ht ?_⟩
  rw [foldL_flat] at hB
  simp only [List.flatten_cons, List.flatten_nil, List.append_nil] at hB
  rw [List.append_assoc, bitsS_append, show (dl ++ (bs ++ bs)).length = dl.length + (bs ++ bs).length from List.length_append]
  exact hB
theorem plays_number {n0 bd : Nat} {va : Value} {dl al : List UInt8} {w0 W : World} (h : Under n0 bd va dl al w0 W) (n : Nat) (x : Int) (hw : Widths W) (hd : dl.length ≤ 1600) :
    Calls Tryd.prog 11 #[.pointer (some ⟨bd, 0, none⟩), .int .u64 n, .int .i64 x] W fun e w' => e = .returned (.int .i64 (fixE n x)) ∧ Under n0 bd va (dl ++ fixB n x) al w0 w' ∧ Turns bd W w' := by
  refine (numberD_any bd (bitsS dl) dl.length (bitsS_lt dl) n x W hw h.blk (by omega)).mono ?_
  rintro e w' ⟨rfl, hB, ht⟩
  refine ⟨rfl, h.turned ht ?_, ht⟩
  rw [bitsS_append, List.length_append]
  exact hB
/-- The copy is under way in the digest's place; the elder one takes a byte more and is left. -/
theorem plays_copy {n0 bd : Nat} {va : Value} {dl al : List UInt8} {w0 W : World} (h : Under n0 bd va dl al w0 W) :
    Calls Tryd.prog 12 #[.pointer (some ⟨bd, 0, none⟩)] W fun e w' => ∃ c, e = .returned (.pointer (some ⟨c, 0, none⟩)) ∧ c ≠ bd ∧ Under n0 c va dl al w0 w' ∧ Under n0 bd va dl al w0 w' := by
  refine (copy_full bd (bitsS dl) dl.length W h.blk).mono ?_
  rintro e w' ⟨c, rfl, hc, hB, ha⟩
  have hlt := h.blk.lt
  have hs := h.size
  have h2 := h.adds ha
  exact ⟨c, rfl, by omega, ⟨by omega, hB, h2.own, h2.low, h2.size⟩, h2⟩
theorem plays_one {n0 bd c : Nat} {va : Value} {dl al : List UInt8} {w0 W : World} (hc : c ≠ bd) (h : Under n0 c va dl al w0 W) (h2 : Under n0 bd va dl al w0 W) (hd : dl.length ≤ 1600) :
    Calls Tryd.prog 9 #[.pointer (some ⟨bd, 0, none⟩), .slice (some ⟨W.heap.size + 1, 0, none⟩) 1 1] ((W.alloc (.cells #[.int .u8 1] 5)).alloc (.cells #[.slice (some ⟨W.heap.size, 0, none⟩) 1 1] 25)) fun e w' => e = .returned (.int .i64 0) ∧ Under n0 c va dl al w0 w' := by
  have hb : Bytes (W.alloc (.cells #[.int .u8 1] 5)).heap.size (W.alloc (.cells #[.int .u8 1] 5)) (.slice (some ⟨W.heap.size, 0, none⟩) 1 1) [1] := (OwnB.lit W [1] (by simp [maxLen])).bytes
  have hl := lists_1 _ _ [1] (Nat.le_refl _) hb
  rw [World.size_alloc] at hl
  have ha : Adds W ((W.alloc (.cells #[.int .u8 1] 5)).alloc (.cells #[.slice (some ⟨W.heap.size, 0, none⟩) 1 1] 25)) := (adds_new _ _).trans (adds_new _ _)
  have k := h.adds ha
  have k2 := h2.adds ha
  refine (write_any bd (bitsS dl) dl.length (bitsS_lt dl) _ [[1]] _ hl k2.blk (by simp; omega)).mono ?_
  rintro e w' ⟨rfl, _, ht⟩
  exact ⟨rfl, k.nb, k.blk.other ht hc, k2.own.turns k2.blk ht, k2.low.trans (ht.low k2.blk.lt k2.nb), Nat.le_trans k2.size ht.size⟩
end Go.Proofs.YtooocgnjefbnkaaDoor
