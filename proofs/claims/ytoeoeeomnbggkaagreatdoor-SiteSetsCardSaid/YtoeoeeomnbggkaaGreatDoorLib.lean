/- Bytes in memory: a slice whose bytes read as a list, in a world; a row of bytes that a call has made itself; what slicing, appending and converting do to them. -/
import Derived.WalkKit
import Derived.WalkSpells
import Derived.WalkLawsBesides
import Derived.Laws.AppendOwnNone
import Derived.Lib.Hide
namespace Go.Proofs.YtoeoeeomnbggkaaGreatDoor
open Go Go.RowKit

def byteV (b : UInt8) : Value := .int .u8 b.toNat
theorem byteV_one (b : UInt8) : (byteV b).oneCell' = true := rfl

/-- v is a slice whose bytes read l in w; they lie in blocks below n. -/
def Bytes (n : Nat) (w : World) (v : Value) (l : List UInt8) : Prop :=
  ∃ ao cap, v = .slice ao l.length cap ∧ l.length ≤ cap ∧ cap ≤ maxLen ∧
    (l ≠ [] → ∃ b off, ao = some ⟨b, off, none⟩ ∧ b < n ∧ ∀ i, i < l.length → w.cell? ⟨b, off + i, none⟩ = some (byteV (l.getD i 0)))

theorem Bytes.below {n : Nat} {w w' : World} {v : Value} {l : List UInt8} (h : Bytes n w v l) (hb : Below n w w') : Bytes n w' v l := by
  obtain ⟨ao, cap, rfl, h1, h2, h3⟩ := h
  refine ⟨ao, cap, rfl, h1, h2, fun hl => ?_⟩
  obtain ⟨b, off, e, hbn, hc⟩ := h3 hl
  exact ⟨b, off, e, hbn, fun i hi => (hb.cell (p := ⟨b, off + i, none⟩) hbn).trans (hc i hi)⟩
theorem Bytes.mono {n m : Nat} {w : World} {v : Value} {l : List UInt8} (h : Bytes n w v l) (hm : n ≤ m) : Bytes m w v l := by
  obtain ⟨ao, cap, rfl, h1, h2, h3⟩ := h
  refine ⟨ao, cap, rfl, h1, h2, fun hl => ?_⟩
  obtain ⟨b, off, e, hbn, hc⟩ := h3 hl
  exact ⟨b, off, e, by omega, hc⟩
/-- The blocks are those that are there. -/
theorem Bytes.here {n : Nat} {w : World} {v : Value} {l : List UInt8} (h : Bytes n w v l) : Bytes w.heap.size w v l := by
  obtain ⟨ao, cap, rfl, h1, h2, h3⟩ := h
  refine ⟨ao, cap, rfl, h1, h2, fun hl => ?_⟩
  obtain ⟨b, off, e, hbn, hc⟩ := h3 hl
  exact ⟨b, off, e, World.block_lt_of_cell? w _ (hc 0 (List.length_pos_iff.2 hl)), hc⟩
theorem Bytes.nil {n : Nat} (w : World) : Bytes n w (.slice none 0 0) [] := ⟨none, 0, rfl, by simp, by simp, fun h => absurd rfl h⟩

/-- A slice of it. -/
theorem Bytes.sliced {n : Nat} {w : World} {ao : Option Addr} {len cap : Nat} {l : List UInt8} (h : Bytes n w (.slice ao len cap) l) (lo hi m : Nat) (h1 : lo ≤ hi) (h2 : hi ≤ len) (h3 : hi ≤ m) (h4 : m ≤ cap) :
    Bytes n w (.slice (if m = lo then ao else ao.map (·.add (lo * 1))) (hi - lo) (m - lo)) ((l.drop lo).take (hi - lo)) := by
  obtain ⟨ao', cap', e, e1, e2, e3⟩ := h
  simp only [Value.slice.injEq] at e
  obtain ⟨rfl, rfl, rfl⟩ := e
  have hl : ((l.drop lo).take (hi - lo)).length = hi - lo := by simp; omega
  refine ⟨_, _, by rw [hl], by rw [hl]; omega, by omega, fun hne => ?_⟩
  have hlt : 0 < hi - lo := by rw [← hl]; exact List.length_pos_iff.2 hne
  obtain ⟨b, off, rfl, hbn, hc⟩ := e3 (by rintro rfl; simp at h2; omega)
  refine ⟨b, off + lo, ?_, hbn, fun i hi' => ?_⟩
  · rw [if_neg (by omega)]; simp [Addr.add]
  · rw [hl] at hi'
    have := hc (lo + i) (by omega)
    rw [Nat.add_assoc, this]
    simp only [List.getD_eq_getElem?_getD, List.getElem?_take, List.getElem?_drop, if_pos hi']

/-- A row of bytes that the call has made. -/
def OwnB (w : World) (base : Nat) (v : Value) (l : List UInt8) : Prop := w.ownsRow base 5 1 v l.length (l.map byteV)

theorem OwnB.bytes {w : World} {base : Nat} {v : Value} {l : List UInt8} (h : OwnB w base v l) : Bytes w.heap.size w v l := by
  obtain ⟨h1, h2⟩ := h
  rcases h2 with ⟨rfl, h2⟩ | ⟨g, cap, cur, rfl, hb, hg, hn, hm, hs, ht⟩
  · have : l = [] := List.eq_nil_of_length_eq_zero h2
    subst this; exact Bytes.nil w
  · refine ⟨_, cap, rfl, hn, hm, fun _ => ⟨g, 0, rfl, (Array.getElem?_eq_some_iff.1 hg).1, fun i hi => ?_⟩⟩
    have hx : (l.map byteV)[i]? = some (byteV (l.getD i 0)) := by simp [hi]
    rw [← ht, List.getElem?_take, if_pos (by omega)] at hx
    simp only [Nat.zero_add]
    rw [cell_of_row w g i cur _ _ hg]
    simpa using hx
theorem OwnB.nil (w : World) (base : Nat) : OwnB w base (.slice none 0 0) [] := World.ownsRow_nil _ _ _ _

theorem OwnB.form {w : World} {base : Nat} {v : Value} {l : List UInt8} (h : OwnB w base v l) (hl : l ≠ []) : ∃ g cap, v = .slice (some ⟨g, 0, none⟩) l.length cap ∧ base ≤ g ∧ g < w.heap.size := by
  obtain ⟨h1, h2⟩ := h
  rcases h2 with ⟨rfl, h2⟩ | ⟨g, cap, cur, rfl, hb, hg, hn, hm, hs, ht⟩
  · exact absurd (List.eq_nil_of_length_eq_zero h2) hl
  · exact ⟨g, cap, rfl, hb, (Array.getElem?_eq_some_iff.1 hg).1⟩
theorem OwnB.below {w w' : World} {base n : Nat} {v : Value} {l : List UInt8} (h : OwnB w base v l) (hb : Below n w w') (hg : ∀ g, v.ownBlock = some g → g < n) : OwnB w' base v l := by
  refine ⟨h.1, ?_⟩
  rcases h.2 with hn | ⟨g, cap, cur, rfl, hbg, hgg, rest⟩
  · exact .inl hn
  · exact .inr ⟨g, cap, cur, rfl, hbg, by rw [hb.block g (hg g rfl)]; exact hgg, rest⟩
theorem OwnB.lower {w : World} {base b : Nat} {v : Value} {l : List UInt8} (h : OwnB w base v l) (hb : b ≤ base) : OwnB w b v l := by
  refine ⟨h.1, ?_⟩
  rcases h.2 with hn | ⟨g, cap, cur, rfl, hbg, rest⟩
  · exact .inl hn
  · exact .inr ⟨g, cap, cur, rfl, by omega, rest⟩
/-- A literal of bytes, in a block of its own. -/
theorem OwnB.lit (w : World) (l : List UInt8) (hl : l.length ≤ maxLen) : OwnB (w.alloc (.cells (l.map byteV).toArray 5)) w.heap.size (.slice (some ⟨w.heap.size, 0, none⟩) l.length l.length) l := by
  have := World.ownsRow_lit (size := 1) (e := 5) w (l.map byteV).toArray l.length (Nat.le_refl _) hl (by simp)
  exact this

/-- A string of bytes. -/
def str (l : List UInt8) : ByteArray := ⟨l.toArray⟩

/-- The string that a slice of bytes is turned into. -/
theorem Bytes.str {P : Program} {n : Nat} {w : World} {v : Value} {l : List UInt8} (h : Bytes n w v l) (src dst e : TypeId) (hs : P.underlying src = some (.slice e)) (he : P.underlying e = some (.int .u8)) (hd : P.underlying dst = some .string) :
    (convert src dst v).run P w = .ok (.string (str l)) w := by
  obtain ⟨ao, cap, rfl, h1, h2, h3⟩ := h
  cases ao with
  | none =>
    have hl : l = [] := by
      rcases l with _ | ⟨x, l⟩
      · rfl
      · obtain ⟨b, off, e, _⟩ := h3 (by simp)
        cases e
    subst hl
    exact run_convert_bytes_nil w src e hs he _ _ dst hd
  | some a =>
    have hl : (loadCells a l.length).run P w = .ok ((l.map fun b => (b.toNat : Int)).map (Value.int .u8)).toArray w := by
      have := run_loadCells_list (P := P) w a ((l.map fun b => (b.toNat : Int)).map (Value.int .u8)) (fun j v hj => by
        have hjl : j < l.length := by
          rcases Nat.lt_or_ge j l.length with h | h
          · exact h
          · rw [List.getElem?_eq_none (by simpa using h)] at hj; cases hj
        obtain ⟨b, off, e, _, hc⟩ := h3 (by rintro rfl; simp at hjl)
        simp only [Option.some.injEq] at e
        subst e
        have hplain : (⟨b, off, none⟩ : Addr).add j = ⟨b, off + j, none⟩ := by unfold Addr.add; split <;> simp_all
        rw [hplain, hc j hjl]
        simp [List.getElem?_eq_getElem hjl] at hj
        subst hj
        simp [byteV, hjl])
      simpa using this
    rw [run_convert_bytes_string w src dst e _ _ cap hs he hd, run_bytesToString w _ _ cap _ hl, foldl_push_bytes]
    have e2 : (l.map fun b => (b.toNat : Int)).map (fun n => UInt8.ofNat n.toNat) = l := by
      rw [List.map_map]
      conv => rhs; rw [← List.map_id l]
      exact List.map_congr_left fun b _ => by simp
    rw [e2]
    have e3 : (⟨ByteArray.empty.data ++ l.toArray⟩ : ByteArray) = Go.Proofs.YtoeoeeomnbggkaaGreatDoor.str l := by
      show (⟨#[] ++ l.toArray⟩ : ByteArray) = _
      rw [Array.empty_append]; rfl
    rw [e3]

/-- What only makes memory, and turns nothing that was there. -/
def Adds (w w' : World) : Prop := Below w.heap.size w w'
theorem Adds.refl (w : World) : Adds w w := Below.refl _ _
theorem Adds.trans {a b c : World} (h : Adds a b) (k : Adds b c) : Adds a c := Below.trans h (Below.mono k h.size)
theorem Adds.drew (w : World) : Adds w w.drew := (Below.refl _ _).drew
theorem Adds.drewN (w : World) (n : Nat) : Adds w (w.drewN n) := ⟨rfl, rfl, rfl, Nat.le_refl _, fun _ _ => rfl⟩
theorem Bytes.adds {w w' : World} {v : Value} {l : List UInt8} (h : Bytes w.heap.size w v l) (ha : Adds w w') : Bytes w'.heap.size w' v l := (h.below ha).here
theorem bytes_adds {n : Nat} {w w' : World} {v : Value} {l : List UInt8} (h : Bytes n w v l) (ha : Adds w w') : Bytes w'.heap.size w' v l := h.here.adds ha

/-- The cells of a row of bytes, as an append asks for them. -/
theorem Bytes.news {n : Nat} {w : World} {a : Addr} {len cap : Nat} {l : List UInt8} (h : Bytes n w (.slice (some a) len cap) l) :
    len = l.length ∧ ∀ j u, (l.map byteV)[j]? = some u → w.cell? (a.add j) = some u := by
  obtain ⟨ao, cap', e, e1, e2, e3⟩ := h
  simp only [Value.slice.injEq] at e
  obtain ⟨rfl, rfl, rfl⟩ := e
  refine ⟨rfl, fun j u hu => ?_⟩
  have hj : j < l.length := by
    rcases Nat.lt_or_ge j l.length with h | h
    · exact h
    · rw [List.getElem?_eq_none (by simpa using h)] at hu; cases hu
  obtain ⟨b, off, e, _, hc⟩ := e3 (by rintro rfl; simp at hj)
  simp only [Option.some.injEq] at e
  subst e
  have ea : (⟨b, off, none⟩ : Addr).add j = ⟨b, off + j, none⟩ := by unfold Addr.add; split <;> simp_all
  rw [ea, hc j hj]
  simp only [List.getElem?_map, List.getElem?_eq_getElem hj, Option.map_some, Option.some.injEq] at hu
  simp [← hu, hj]

/-- A scope whose run jumps forward to one label, once. -/
theorem wp_scope_fwd {P : Program} {a : Act} {w : World} {Q : Exit → Act → World → Prop} {c rest : Code} (l : Nat) (hf : findLabel c l = some rest)
    (first : c.wp P (Exit.jump l (fun a' w' => rest.wp P (Exit.noGoto Q) a' w') Q) a w) : (Code.scope c).wp P Q a w :=
  wp_scope_jumps l (fun a' w' => rest.wp P (Exit.noGoto Q) a' w') (fun _ _ => 0) hf first fun a' w' h => Code.wp_mono (fun e a'' w'' he => by cases e <;> first | exact he | exact False.elim he) h
end Go.Proofs.YtoeoeeomnbggkaaGreatDoor
