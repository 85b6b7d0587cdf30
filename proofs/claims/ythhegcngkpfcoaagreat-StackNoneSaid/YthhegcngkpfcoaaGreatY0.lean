/- Merged: IPlain, BA. -/
import Derived.WalkKit
import Derived.WalkSpells
import Derived.WalkLawsBesides
import Derived.Laws.AppendOwnNone
import Derived.Lib.Hide
import Derived.Test.YthhegcngkpfcoaaGreatRows
import Derived.Lib.LaidTab
namespace Go.Proofs.YthhegcngkpfcoaaGreat

/-- An instruction: its Op, A, B, C, Imm. -/
abbrev In := Int × Int × Int × Int × Int
/-- The number that part k has: A, B, C, Imm. -/
def getP (k : Nat) (x : In) : Int := match k with | 0 => x.2.1 | 1 => x.2.2.1 | 2 => x.2.2.2.1 | _ => x.2.2.2.2
def putP (k : Nat) (x : In) (n : Int) : In := match k with
  | 0 => (x.1, n, x.2.2.1, x.2.2.2.1, x.2.2.2.2)
  | 1 => (x.1, x.2.1, n, x.2.2.2.1, x.2.2.2.2)
  | 2 => (x.1, x.2.1, x.2.2.1, n, x.2.2.2.2)
  | _ => (x.1, x.2.1, x.2.2.1, x.2.2.2.1, n)
/-- What an Op names: part and kind of number (0 register, 1 handed, 2 word, 3 kind, 4 place, 5 function). -/
def partsN : Nat → List (Nat × Nat)
  | 1 => [(0, 0), (3, 2)] | 2 => [(0, 0), (1, 0)] | 3 => [(0, 0), (1, 0), (2, 0), (3, 3)] | 4 => [(3, 4)] | 5 => [(0, 0), (3, 4)] | 6 => [(0, 0), (1, 0)] | 7 => [(0, 0), (1, 0)]
  | 8 => [(0, 0), (1, 0), (2, 1), (3, 5)] | 9 => [(0, 0)] | 10 => [(1, 0), (2, 1), (3, 5)] | 11 => [(0, 0)] | 12 => [(0, 0)] | 13 => [(0, 0)] | 14 => [(0, 0)] | 15 => [(0, 0)] | 16 => [(0, 0)]
  | 17 => [(0, 0), (1, 0)] | 18 => [(0, 0)] | _ => []
def loN (n : Nat) : Int := if n = 3 then 1 else 0
def hiN (n : Nat) (x : In) : Int := match n with | 0 => 15 | 1 => 16 - getP 1 x | 2 => 4294967295 | 3 => 12 | 4 => 511 | _ => 31
def holdsP (p : Nat × Nat) (x : In) : Bool := decide (loN p.2 ≤ getP p.1 x ∧ getP p.1 x ≤ hiN p.2 x)
/-- With those parts set to 0. -/
def bare (l : List (Nat × Nat)) (x : In) : In := l.foldl (fun r p => putP p.1 r 0) x
def holdsL (l : List (Nat × Nat)) (x : In) : Bool := l.all (fun p => holdsP p x) && decide (bare l x = (x.1, 0, 0, 0, 0))
/-- Which may be. -/
def mayI (x : In) : Bool := decide (1 ≤ x.1 ∧ x.1 ≤ 19) && holdsL (partsN x.1.toNat) x
end Go.Proofs.YthhegcngkpfcoaaGreat
namespace Go.Proofs.YthhegcngkpfcoaaGreat

end Go.Proofs.YthhegcngkpfcoaaGreat
namespace Go.Proofs.YthhegcngkpfcoaaGreat
open Go Go.RowKit

def byteV (b : UInt8) : Value := .int .u8 b.toNat
/-- v is a slice whose bytes read l in w; they lie in blocks below n. -/
def Bytes (n : Nat) (w : World) (v : Value) (l : List UInt8) : Prop :=
  ∃ ao cap, v = .slice ao l.length cap ∧ l.length ≤ cap ∧ cap ≤ maxLen ∧
    (l ≠ [] → ∃ b off, ao = some ⟨b, off, none⟩ ∧ b < n ∧ ∀ i, i < l.length → w.cell? ⟨b, off + i, none⟩ = some (byteV (l.getD i 0)))

theorem Bytes.below {n : Nat} {w w' : World} {v : Value} {l : List UInt8} (h : Bytes n w v l) (hb : Below n w w') : Bytes n w' v l := by
  obtain ⟨ao, cap, rfl, h1, h2, h3⟩ := h
  refine ⟨ao, cap, rfl, h1, h2, fun hl => ?_⟩
  obtain ⟨b, off, e, hbn, hc⟩ := h3 hl
  exact ⟨b, off, e, hbn, fun i hi => (hb.cell (p := ⟨b, off + i, none⟩) hbn).trans (hc i hi)⟩
theorem Bytes.mono {n m : Nat} {w : World} {v : Value} {l : List UInt8} (h : Bytes n w v l) (hm : n ≤ m) : Bytes m w v l := by
  obtain ⟨ao, cap, rfl, h1, h2, h3⟩ := h
  refine ⟨ao, cap, rfl, h1, h2, fun hl => ?_⟩
  obtain ⟨b, off, e, hbn, hc⟩ := h3 hl
  exact ⟨b, off, e, by omega, hc⟩
/-- The blocks are those that are there. -/
theorem Bytes.here {n : Nat} {w : World} {v : Value} {l : List UInt8} (h : Bytes n w v l) : Bytes w.heap.size w v l := by
  obtain ⟨ao, cap, rfl, h1, h2, h3⟩ := h
  refine ⟨ao, cap, rfl, h1, h2, fun hl => ?_⟩
  obtain ⟨b, off, e, hbn, hc⟩ := h3 hl
  exact ⟨b, off, e, World.block_lt_of_cell? w _ (hc 0 (List.length_pos_iff.2 hl)), hc⟩
theorem Bytes.nil {n : Nat} (w : World) : Bytes n w (.slice none 0 0) [] := ⟨none, 0, rfl, by simp, by simp, fun h => absurd rfl h⟩

/-- A row of bytes that the call has made. -/
def OwnB (w : World) (base : Nat) (v : Value) (l : List UInt8) : Prop := w.ownsRow base 5 1 v l.length (l.map byteV)

theorem OwnB.bytes {w : World} {base : Nat} {v : Value} {l : List UInt8} (h : OwnB w base v l) : Bytes w.heap.size w v l := by
  obtain ⟨h1, h2⟩ := h
  rcases h2 with ⟨rfl, h2⟩ | ⟨g, cap, cur, rfl, hb, hg, hn, hm, hs, ht⟩
  · have : l = [] := List.eq_nil_of_length_eq_zero h2
    subst this; exact Bytes.nil w
  · refine ⟨_, cap, rfl, hn, hm, fun _ => ⟨g, 0, rfl, (Array.getElem?_eq_some_iff.1 hg).1, fun i hi => ?_⟩⟩
    have hx : (l.map byteV)[i]? = some (byteV (l.getD i 0)) := by simp [hi]
    rw [← ht, List.getElem?_take, if_pos (by omega)] at hx
    simp only [Nat.zero_add]
    rw [cell_of_row w g i cur _ _ hg]
    simpa using hx
theorem OwnB.nil (w : World) (base : Nat) : OwnB w base (.slice none 0 0) [] := World.ownsRow_nil _ _ _ _

theorem OwnB.form {w : World} {base : Nat} {v : Value} {l : List UInt8} (h : OwnB w base v l) (hl : l ≠ []) : ∃ g cap, v = .slice (some ⟨g, 0, none⟩) l.length cap ∧ base ≤ g ∧ g < w.heap.size := by
  obtain ⟨h1, h2⟩ := h
  rcases h2 with ⟨rfl, h2⟩ | ⟨g, cap, cur, rfl, hb, hg, hn, hm, hs, ht⟩
  · exact absurd (List.eq_nil_of_length_eq_zero h2) hl
  · exact ⟨g, cap, rfl, hb, (Array.getElem?_eq_some_iff.1 hg).1⟩
theorem OwnB.below {w w' : World} {base n : Nat} {v : Value} {l : List UInt8} (h : OwnB w base v l) (hb : Below n w w') (hg : ∀ g, v.ownBlock = some g → g < n) : OwnB w' base v l := by
  refine ⟨h.1, ?_⟩
  rcases h.2 with hn | ⟨g, cap, cur, rfl, hbg, hgg, rest⟩
  · exact .inl hn
  · exact .inr ⟨g, cap, cur, rfl, hbg, by rw [hb.block g (hg g rfl)]; exact hgg, rest⟩
theorem OwnB.lower {w : World} {base b : Nat} {v : Value} {l : List UInt8} (h : OwnB w base v l) (hb : b ≤ base) : OwnB w b v l := by
  refine ⟨h.1, ?_⟩
  rcases h.2 with hn | ⟨g, cap, cur, rfl, hbg, rest⟩
  · exact .inl hn
  · exact .inr ⟨g, cap, cur, rfl, by omega, rest⟩
/-- A literal of bytes, in a block of its own. -/
theorem OwnB.lit (w : World) (l : List UInt8) (hl : l.length ≤ maxLen) : OwnB (w.alloc (.cells (l.map byteV).toArray 5)) w.heap.size (.slice (some ⟨w.heap.size, 0, none⟩) l.length l.length) l := by
  have := World.ownsRow_lit (size := 1) (e := 5) w (l.map byteV).toArray l.length (Nat.le_refl _) hl (by simp)
  exact this

/-- A string of bytes. -/
def str (l : List UInt8) : ByteArray := ⟨l.toArray⟩

/-- What only makes memory, and turns nothing that was there. -/
def Adds (w w' : World) : Prop := Below w.heap.size w w'
theorem Adds.refl (w : World) : Adds w w := Below.refl _ _
theorem Adds.trans {a b c : World} (h : Adds a b) (k : Adds b c) : Adds a c := Below.trans h (Below.mono k h.size)
theorem Adds.drew (w : World) : Adds w w.drew := (Below.refl _ _).drew
theorem Adds.drewN (w : World) (n : Nat) : Adds w (w.drewN n) := ⟨rfl, rfl, rfl, Nat.le_refl _, fun _ _ => rfl⟩
theorem Bytes.adds {w w' : World} {v : Value} {l : List UInt8} (h : Bytes w.heap.size w v l) (ha : Adds w w') : Bytes w'.heap.size w' v l := (h.below ha).here
/-- A scope whose run jumps forward to one label, once. -/
theorem wp_scope_fwd {P : Program} {a : Act} {w : World} {Q : Exit → Act → World → Prop} {c rest : Code} (l : Nat) (hf : findLabel c l = some rest)
    (first : c.wp P (Exit.jump l (fun a' w' => rest.wp P (Exit.noGoto Q) a' w') Q) a w) : (Code.scope c).wp P Q a w :=
  wp_scope_jumps l (fun a' w' => rest.wp P (Exit.noGoto Q) a' w') (fun _ _ => 0) hf first fun a' w' h => Code.wp_mono (fun e a'' w'' he => by cases e <;> first | exact he | exact False.elim he) h
end Go.Proofs.YthhegcngkpfcoaaGreat
namespace Go.Proofs.YthhegcngkpfcoaaGreat
open Go Go.RowKit

theorem ret_int {k : IntKind} {a b : Int} (h : a = b) : Ending.returned (.int k a) = .returned (.int k b) := by rw [h]
theorem ret_bool {a b : Bool} (h : a = b) : Ending.returned (.bool a) = .returned (.bool b) := by rw [h]
end Go.Proofs.YthhegcngkpfcoaaGreat
namespace Go.Proofs.YthhegcngkpfcoaaGreat
open Go.RowKit

end Go.Proofs.YthhegcngkpfcoaaGreat
namespace Go.Proofs.YthhegcngkpfcoaaGreat
open Go.RowKit

end Go.Proofs.YthhegcngkpfcoaaGreat
namespace Go.Proofs.YthhegcngkpfcoaaGreat
open Go.RowKit

end Go.Proofs.YthhegcngkpfcoaaGreat
namespace Go.Proofs.YthhegcngkpfcoaaGreat
open Go Go.RowKit

end Go.Proofs.YthhegcngkpfcoaaGreat
namespace Go.Proofs.YthhegcngkpfcoaaGreat
open Go Go.RowKit

def TrueAdds (w : World) (e : Ending) (w' : World) : Prop := e = .returned (.bool true) ∧ Adds w w'
theorem OwnB.adds {w w' : World} {b : Nat} {v : Value} {l : List UInt8} (h : OwnB w b v l) (ha : Adds w w') : OwnB w' b v l := h.below ha fun g hg => (World.ownsRow.lt h g hg).2
end Go.Proofs.YthhegcngkpfcoaaGreat
