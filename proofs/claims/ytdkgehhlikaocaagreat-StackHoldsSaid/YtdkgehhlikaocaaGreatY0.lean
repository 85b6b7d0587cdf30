/- Merged: IPlain, BA, IMap. -/
import Derived.WalkKit
import Derived.WalkSpells
import Derived.WalkLawsBesides
import Derived.Laws.AppendOwnNone
import Derived.Lib.Hide
import Derived.Test.YtdkgehhlikaocaaGreatRows
import Derived.Lib.LaidTab
import Derived.Laws.EntriesVeiled
namespace Go.Proofs.YtdkgehhlikaocaaGreat

/-- An instruction: its Op, A, B, C, Imm. -/
abbrev In := Int × Int × Int × Int × Int
/-- The number that part k has: A, B, C, Imm. -/
def getP (k : Nat) (x : In) : Int := match k with | 0 => x.2.1 | 1 => x.2.2.1 | 2 => x.2.2.2.1 | _ => x.2.2.2.2
def putP (k : Nat) (x : In) (n : Int) : In := match k with
  | 0 => (x.1, n, x.2.2.1, x.2.2.2.1, x.2.2.2.2)
  | 1 => (x.1, x.2.1, n, x.2.2.2.1, x.2.2.2.2)
  | 2 => (x.1, x.2.1, x.2.2.1, n, x.2.2.2.2)
  | _ => (x.1, x.2.1, x.2.2.1, x.2.2.2.1, n)
/-- What an Op names: part and kind of number (0 register, 1 handed, 2 word, 3 kind, 4 place, 5 function). -/
def partsN : Nat → List (Nat × Nat)
  | 1 => [(0, 0), (3, 2)] | 2 => [(0, 0), (1, 0)] | 3 => [(0, 0), (1, 0), (2, 0), (3, 3)] | 4 => [(3, 4)] | 5 => [(0, 0), (3, 4)] | 6 => [(0, 0), (1, 0)] | 7 => [(0, 0), (1, 0)]
  | 8 => [(0, 0), (1, 0), (2, 1), (3, 5)] | 9 => [(0, 0)] | 10 => [(1, 0), (2, 1), (3, 5)] | 11 => [(0, 0)] | 12 => [(0, 0)] | 13 => [(0, 0)] | 14 => [(0, 0)] | 15 => [(0, 0)] | 16 => [(0, 0)]
  | 17 => [(0, 0), (1, 0)] | 18 => [(0, 0)] | _ => []
def loN (n : Nat) : Int := if n = 3 then 1 else 0
def hiN (n : Nat) (x : In) : Int := match n with | 0 => 15 | 1 => 16 - getP 1 x | 2 => 4294967295 | 3 => 12 | 4 => 511 | _ => 31
def holdsP (p : Nat × Nat) (x : In) : Bool := decide (loN p.2 ≤ getP p.1 x ∧ getP p.1 x ≤ hiN p.2 x)
/-- With those parts set to 0. -/
def bare (l : List (Nat × Nat)) (x : In) : In := l.foldl (fun r p => putP p.1 r 0) x
def holdsL (l : List (Nat × Nat)) (x : In) : Bool := l.all (fun p => holdsP p x) && decide (bare l x = (x.1, 0, 0, 0, 0))
/-- Which may be. -/
def mayI (x : In) : Bool := decide (1 ≤ x.1 ∧ x.1 ≤ 19) && holdsL (partsN x.1.toNat) x
end Go.Proofs.YtdkgehhlikaocaaGreat
namespace Go.Proofs.YtdkgehhlikaocaaGreat

end Go.Proofs.YtdkgehhlikaocaaGreat
namespace Go.Proofs.YtdkgehhlikaocaaGreat
open Go Go.RowKit

def byteV (b : UInt8) : Value := .int .u8 b.toNat
/-- v is a slice whose bytes read l in w; they lie in blocks below n. -/
def Bytes (n : Nat) (w : World) (v : Value) (l : List UInt8) : Prop :=
  ∃ ao cap, v = .slice ao l.length cap ∧ l.length ≤ cap ∧ cap ≤ maxLen ∧
    (l ≠ [] → ∃ b off, ao = some ⟨b, off, none⟩ ∧ b < n ∧ ∀ i, i < l.length → w.cell? ⟨b, off + i, none⟩ = some (byteV (l.getD i 0)))

theorem Bytes.below {n : Nat} {w w' : World} {v : Value} {l : List UInt8} (h : Bytes n w v l) (hb : Below n w w') : Bytes n w' v l := by
  obtain ⟨ao, cap, rfl, h1, h2, h3⟩ := h
  refine ⟨ao, cap, rfl, h1, h2, fun hl => ?_⟩
  obtain ⟨b, off, e, hbn, hc⟩ := h3 hl
  exact ⟨b, off, e, hbn, fun i hi => (hb.cell (p := ⟨b, off + i, none⟩) hbn).trans (hc i hi)⟩
theorem Bytes.mono {n m : Nat} {w : World} {v : Value} {l : List UInt8} (h : Bytes n w v l) (hm : n ≤ m) : Bytes m w v l := by
  obtain ⟨ao, cap, rfl, h1, h2, h3⟩ := h
  refine ⟨ao, cap, rfl, h1, h2, fun hl => ?_⟩
  obtain ⟨b, off, e, hbn, hc⟩ := h3 hl
  exact ⟨b, off, e, by omega, hc⟩
/-- The blocks are those that are there. -/
theorem Bytes.here {n : Nat} {w : World} {v : Value} {l : List UInt8} (h : Bytes n w v l) : Bytes w.heap.size w v l := by
  obtain ⟨ao, cap, rfl, h1, h2, h3⟩ := h
  refine ⟨ao, cap, rfl, h1, h2, fun hl => ?_⟩
  obtain ⟨b, off, e, hbn, hc⟩ := h3 hl
  exact ⟨b, off, e, World.block_lt_of_cell? w _ (hc 0 (List.length_pos_iff.2 hl)), hc⟩
theorem Bytes.nil {n : Nat} (w : World) : Bytes n w (.slice none 0 0) [] := ⟨none, 0, rfl, by simp, by simp, fun h => absurd rfl h⟩

/-- A row of bytes that the call has made. -/
def OwnB (w : World) (base : Nat) (v : Value) (l : List UInt8) : Prop := w.ownsRow base 5 1 v l.length (l.map byteV)

theorem OwnB.bytes {w : World} {base : Nat} {v : Value} {l : List UInt8} (h : OwnB w base v l) : Bytes w.heap.size w v l := by
  obtain ⟨h1, h2⟩ := h
  rcases h2 with ⟨rfl, h2⟩ | ⟨g, cap, cur, rfl, hb, hg, hn, hm, hs, ht⟩
  · have : l = [] := List.eq_nil_of_length_eq_zero h2
    subst this; exact Bytes.nil w
  · refine ⟨_, cap, rfl, hn, hm, fun _ => ⟨g, 0, rfl, (Array.getElem?_eq_some_iff.1 hg).1, fun i hi => ?_⟩⟩
    have hx : (l.map byteV)[i]? = some (byteV (l.getD i 0)) := by simp [hi]
    rw [← ht, List.getElem?_take, if_pos (by omega)] at hx
    simp only [Nat.zero_add]
    rw [cell_of_row w g i cur _ _ hg]
    simpa using hx
theorem OwnB.nil (w : World) (base : Nat) : OwnB w base (.slice none 0 0) [] := World.ownsRow_nil _ _ _ _

theorem OwnB.form {w : World} {base : Nat} {v : Value} {l : List UInt8} (h : OwnB w base v l) (hl : l ≠ []) : ∃ g cap, v = .slice (some ⟨g, 0, none⟩) l.length cap ∧ base ≤ g ∧ g < w.heap.size := by
  obtain ⟨h1, h2⟩ := h
  rcases h2 with ⟨rfl, h2⟩ | ⟨g, cap, cur, rfl, hb, hg, hn, hm, hs, ht⟩
  · exact absurd (List.eq_nil_of_length_eq_zero h2) hl
  · exact ⟨g, cap, rfl, hb, (Array.getElem?_eq_some_iff.1 hg).1⟩
theorem OwnB.below {w w' : World} {base n : Nat} {v : Value} {l : List UInt8} (h : OwnB w base v l) (hb : Below n w w') (hg : ∀ g, v.ownBlock = some g → g < n) : OwnB w' base v l := by
  refine ⟨h.1, ?_⟩
  rcases h.2 with hn | ⟨g, cap, cur, rfl, hbg, hgg, rest⟩
  · exact .inl hn
  · exact .inr ⟨g, cap, cur, rfl, hbg, by rw [hb.block g (hg g rfl)]; exact hgg, rest⟩
theorem OwnB.lower {w : World} {base b : Nat} {v : Value} {l : List UInt8} (h : OwnB w base v l) (hb : b ≤ base) : OwnB w b v l := by
  refine ⟨h.1, ?_⟩
  rcases h.2 with hn | ⟨g, cap, cur, rfl, hbg, rest⟩
  · exact .inl hn
  · exact .inr ⟨g, cap, cur, rfl, by omega, rest⟩
/-- A literal of bytes, in a block of its own. -/
theorem OwnB.lit (w : World) (l : List UInt8) (hl : l.length ≤ maxLen) : OwnB (w.alloc (.cells (l.map byteV).toArray 5)) w.heap.size (.slice (some ⟨w.heap.size, 0, none⟩) l.length l.length) l := by
  have := World.ownsRow_lit (size := 1) (e := 5) w (l.map byteV).toArray l.length (Nat.le_refl _) hl (by simp)
  exact this

/-- A string of bytes. -/
def str (l : List UInt8) : ByteArray := ⟨l.toArray⟩

/-- What only makes memory, and turns nothing that was there. -/
def Adds (w w' : World) : Prop := Below w.heap.size w w'
theorem Adds.refl (w : World) : Adds w w := Below.refl _ _
theorem Adds.trans {a b c : World} (h : Adds a b) (k : Adds b c) : Adds a c := Below.trans h (Below.mono k h.size)
theorem Adds.drew (w : World) : Adds w w.drew := (Below.refl _ _).drew
theorem Adds.drewN (w : World) (n : Nat) : Adds w (w.drewN n) := ⟨rfl, rfl, rfl, Nat.le_refl _, fun _ _ => rfl⟩
theorem Bytes.adds {w w' : World} {v : Value} {l : List UInt8} (h : Bytes w.heap.size w v l) (ha : Adds w w') : Bytes w'.heap.size w' v l := (h.below ha).here
/-- A scope whose run jumps forward to one label, once. -/
theorem wp_scope_fwd {P : Program} {a : Act} {w : World} {Q : Exit → Act → World → Prop} {c rest : Code} (l : Nat) (hf : findLabel c l = some rest)
    (first : c.wp P (Exit.jump l (fun a' w' => rest.wp P (Exit.noGoto Q) a' w') Q) a w) : (Code.scope c).wp P Q a w :=
  wp_scope_jumps l (fun a' w' => rest.wp P (Exit.noGoto Q) a' w') (fun _ _ => 0) hf first fun a' w' h => Code.wp_mono (fun e a'' w'' he => by cases e <;> first | exact he | exact False.elim he) h
end Go.Proofs.YtdkgehhlikaocaaGreat
namespace Go.Proofs.YtdkgehhlikaocaaGreat
open Go Go.RowKit

theorem ret_int {k : IntKind} {a b : Int} (h : a = b) : Ending.returned (.int k a) = .returned (.int k b) := by rw [h]
theorem ret_bool {a b : Bool} (h : a = b) : Ending.returned (.bool a) = .returned (.bool b) := by rw [h]
end Go.Proofs.YtdkgehhlikaocaaGreat
namespace Go.Proofs.YtdkgehhlikaocaaGreat
open Go.RowKit

end Go.Proofs.YtdkgehhlikaocaaGreat
namespace Go.Proofs.YtdkgehhlikaocaaGreat
open Go.RowKit

end Go.Proofs.YtdkgehhlikaocaaGreat
namespace Go.Proofs.YtdkgehhlikaocaaGreat
open Go.RowKit

end Go.Proofs.YtdkgehhlikaocaaGreat
namespace Go.Proofs.YtdkgehhlikaocaaGreat
open Go Go.RowKit

end Go.Proofs.YtdkgehhlikaocaaGreat
namespace Go.Proofs.YtdkgehhlikaocaaGreat
open Go Go.RowKit

def TrueAdds (w : World) (e : Ending) (w' : World) : Prop := e = .returned (.bool true) ∧ Adds w w'
theorem OwnB.adds {w w' : World} {b : Nat} {v : Value} {l : List UInt8} (h : OwnB w b v l) (ha : Adds w w') : OwnB w' b v l := h.below ha fun g hg => (World.ownsRow.lt h g hg).2
end Go.Proofs.YtdkgehhlikaocaaGreat
namespace Go.Proofs.YtdkgehhlikaocaaGreat
open Go Go.RowKit

theorem adds_box8 (w : World) (o : Obj) : Adds w (w.alloc o) := (Below.refl _ _).alloc (Nat.le_refl _) _
theorem Adds.turn8 {w w1 w2 : World} {b : Nat} (h : Adds w w1) (hb : w.heap.size ≤ b) (g : w1.grownBy w2 (some b)) : Adds w w2 :=
  Below.grown h g h.size fun k hk => by cases hk; exact hb
/-- The functions that tell what a number may be. -/
def isF : Nat → FuncId
  | 0 => 135 | 1 => 139 | 2 => 136 | 3 => 137 | 4 => 138 | 5 => 140 | _ => 0
def fnV (f : FuncId) : Value := .func (.func f) #[] #[]
/-- One of the four values of a shape: 0 is none, n + 1 the function that tells what such a number may be. -/
def slotV : Nat → Value
  | 0 => .nilFunc
  | n + 1 => fnV (isF n)
/-- The values of a shape, by four numbers. -/
abbrev Sh := Nat × Nat × Nat × Nat
def shapeV (s : Sh) : Value := .agg #[slotV s.1, slotV s.2.1, slotV s.2.2.1, slotV s.2.2.2]
/-- How a function reads. -/
def fnN : Value → Option Nat
  | .func (.func f) first captured => if first.size = 0 ∧ captured.size = 0 then some (f + 1) else none
  | .nilFunc => some 0
  | _ => none
/-- How an element of the map reads: by the numbers of its functions. -/
def shElem : Value → Option (DataW Unit × List MemPlace)
  | .agg a => match a.toList with
    | [p, q, r, s] => match fnN p, fnN q, fnN r, fnN s with
      | some x, some y, some z, some u => some (.agg [.lit (.int .u64 x), .lit (.int .u64 y), .lit (.int .u64 z), .lit (.int .u64 u)], [])
      | _, _, _, _ => none
    | _ => none
  | _ => none
theorem fnN_inj {v u : Value} {n : Nat} (h : fnN v = some n) (k : fnN u = some n) : v = u := by
  unfold fnN at h k
  split at h
  · split at h
    · rename_i hc
      split at k
      · split at k
        · rename_i kc
          simp only [Option.some.injEq] at h k
          rw [Array.eq_empty_of_size_eq_zero hc.1, Array.eq_empty_of_size_eq_zero hc.2, Array.eq_empty_of_size_eq_zero kc.1, Array.eq_empty_of_size_eq_zero kc.2]
          have : _ = _ := Nat.succ.inj (h.trans k.symm)
          rw [this]
        · simp at k
      · simp only [Option.some.injEq] at h k; omega
      · simp at k
    · simp at h
  · split at k
    · split at k
      · simp only [Option.some.injEq] at h k; omega
      · simp at k
    · rfl
    · simp at k
  · simp at h
theorem shElem_inj {v u : Value} {d : DataW Unit} {ps qs : List MemPlace} (h : shElem v = some (d, ps)) (k : shElem u = some (d, qs)) : v = u := by
  unfold shElem at h k
  split at h
  · rename_i a
    split at h
    · rename_i p q r s ea
      split at h
      · rename_i x y z t e1 e2 e3 e4
        split at k
        · rename_i b
          split at k
          · rename_i p' q' r' s' eb
            split at k
            · rename_i x' y' z' t' f1 f2 f3 f4
              simp only [Option.some.injEq, Prod.mk.injEq] at h k
              obtain ⟨h, _⟩ := h
              obtain ⟨k, _⟩ := k
              rw [← h] at k
              simp only [DataW.agg.injEq, List.cons.injEq, DataW.lit.injEq, Lit.int.injEq, true_and, and_true] at k
              obtain ⟨k1, k2, k3, k4⟩ := k
              have k1 := Int.ofNat.inj k1; have k2 := Int.ofNat.inj k2; have k3 := Int.ofNat.inj k3; have k4 := Int.ofNat.inj k4
              subst k1 k2 k3 k4
              have g1 := fnN_inj e1 f1; have g2 := fnN_inj e2 f2; have g3 := fnN_inj e3 f3; have g4 := fnN_inj e4 f4
              subst g1 g2 g3 g4
              rw [← Array.toList_inj.1 (ea.trans eb.symm)]
            · simp at k
          · simp at k
        · simp at k
      · simp at h
    · simp at h
  · simp at h
/-- The shapes, by Ops. -/
def shOf : Nat → Sh
  | 1 => (1, 0, 0, 3)
  | 2 => (1, 1, 0, 0)
  | 3 => (1, 1, 1, 4)
  | 4 => (0, 0, 0, 5)
  | 5 => (1, 0, 0, 5)
  | 6 => (1, 1, 0, 0)
  | 7 => (1, 1, 0, 0)
  | 8 => (1, 1, 2, 6)
  | 9 => (1, 0, 0, 0)
  | 10 => (0, 1, 2, 6)
  | 11 => (1, 0, 0, 0)
  | 12 => (1, 0, 0, 0)
  | 13 => (1, 0, 0, 0)
  | 14 => (1, 0, 0, 0)
  | 15 => (1, 0, 0, 0)
  | 16 => (1, 0, 0, 0)
  | 17 => (1, 1, 0, 0)
  | 18 => (1, 0, 0, 0)
  | 19 => (0, 0, 0, 0)
  | _ => (0, 0, 0, 0)
def numD (n : Nat) : DataW Unit := .lit (.int .u64 (if n = 0 then 0 else ((isF (n - 1) + 1 : Nat) : Int)))
def shD (s : Sh) : DataW Unit := .agg [numD s.1, numD s.2.1, numD s.2.2.1, numD s.2.2.2]
def mapD : Nat → DataW Unit
  | 0 => .map []
  | n + 1 => (mapD n).put (.int .i64 (n + 1 : Nat)) (shD (shOf (n + 1)))
theorem kop : Maps.Keyed Tryz.prog 54 := Maps.int_keyed Tryz.underlying54
theorem zeroSh (w : World) : (zeroValue 165).run Tryz.prog w = .ok (shapeV (0, 0, 0, 0)) w := by kernel_rfl
abbrev MapS (w : World) (b n : Nat) : Prop := w.ownsMap Tryz.prog 54 shElem b n (mapD n)

theorem wpList_insert_own8 {P : Program} (w : World) {ops : Array Oper} {rest : List Oper} {o : Oper} {a : Act} {Q : Exit → Act → World → Prop}
    (hg : o.guard = none) (m x v : Operand) (t : TypeId) (hop : o.op = Op.insert t m x v)
    (k e : TypeId) (K : Maps.Keyed P k) (ht : P.underlying t = some (.map k e)) (R : Value → Option (DataW Unit × List MemPlace)) (b n : Nat) (D : DataW Unit)
    (hm : a.eval m = .map (some b)) (hown : w.ownsMap P k R b n D) (hn : n < maxLen) (key val : Value) (kl : Lit) (hx : a.eval x = key) (hv : a.eval v = val) (hkey : keyOf P k key = some kl)
    (d : DataW Unit) (ps : List MemPlace) (hval : R val = some (d, ps))
    (hK : ∀ w', w'.ownsMap P k R b (n + 1) (D.put kl d) → w.grownBy w' (some b) → wpList P ops Q rest (a.put o.dst undef) w') :
    wpList P ops Q (o :: rest) a w := by
  refine wpList_plain hg fun K' hK' => ?_
  obtain ⟨w', hrun, r1, r2⟩ := hown.update K ht hn hkey hval
  unfold Oper.wp
  simp [execOp, hop, hm, hx, hv, hrun, Result.andThen]
  exact hK' _ _ (hK w' r1 r2)

def MapPost8 (w : World) (e : Ending) (w' : World) : Prop := ∃ b, e = .returned (.map (some b)) ∧ w.heap.size ≤ b ∧ MapS w' b 19 ∧ Adds w w'
set_option maxRecDepth 100000 in
theorem shapes_any (w : World) : Calls Tryz.prog 117 #[] w (MapPost8 w) := by
  have hmm := @run_makeMap Tryz.prog
  have O0 := Lib.hid (show MapS (w.alloc (.map #[] 0)) w.heap.size 0 from World.ownsMap_made _ _ _ _)
  have G := Lib.hid (show Adds w (w.alloc (.map #[] 0)) from adds_box8 _ _)
  go_enter Tryz.func117, Tryz.ntmps117
  go_wp2_with (first
    | (refine wpList_insert_own8 _ rfl _ _ _ 167 rfl 54 165 kop Tryz.underlying167 shElem w.heap.size 0 (mapD 0) rfl O0.out (by decide) _ _ (.int .i64 1) rfl rfl (Maps.keyOf_int_mk Tryz.underlying54 (by decide)) (shD (shOf 1)) [] rfl ?_; intro w1 own1 g1; have O1 := Lib.hid (show MapS w1 w.heap.size 1 from own1); clear own1 O0; have G := Lib.hid (G.out.turn8 (Nat.le_refl _) g1); clear g1)
    | (refine wpList_insert_own8 _ rfl _ _ _ 167 rfl 54 165 kop Tryz.underlying167 shElem w.heap.size 1 (mapD 1) rfl O1.out (by decide) _ _ (.int .i64 2) rfl rfl (Maps.keyOf_int_mk Tryz.underlying54 (by decide)) (shD (shOf 2)) [] rfl ?_; intro w2 own2 g2; have O2 := Lib.hid (show MapS w2 w.heap.size 2 from own2); clear own2 O1; have G := Lib.hid (G.out.turn8 (Nat.le_refl _) g2); clear g2)
    | (refine wpList_insert_own8 _ rfl _ _ _ 167 rfl 54 165 kop Tryz.underlying167 shElem w.heap.size 2 (mapD 2) rfl O2.out (by decide) _ _ (.int .i64 3) rfl rfl (Maps.keyOf_int_mk Tryz.underlying54 (by decide)) (shD (shOf 3)) [] rfl ?_; intro w3 own3 g3; have O3 := Lib.hid (show MapS w3 w.heap.size 3 from own3); clear own3 O2; have G := Lib.hid (G.out.turn8 (Nat.le_refl _) g3); clear g3)
    | (refine wpList_insert_own8 _ rfl _ _ _ 167 rfl 54 165 kop Tryz.underlying167 shElem w.heap.size 3 (mapD 3) rfl O3.out (by decide) _ _ (.int .i64 4) rfl rfl (Maps.keyOf_int_mk Tryz.underlying54 (by decide)) (shD (shOf 4)) [] rfl ?_; intro w4 own4 g4; have O4 := Lib.hid (show MapS w4 w.heap.size 4 from own4); clear own4 O3; have G := Lib.hid (G.out.turn8 (Nat.le_refl _) g4); clear g4)
    | (refine wpList_insert_own8 _ rfl _ _ _ 167 rfl 54 165 kop Tryz.underlying167 shElem w.heap.size 4 (mapD 4) rfl O4.out (by decide) _ _ (.int .i64 5) rfl rfl (Maps.keyOf_int_mk Tryz.underlying54 (by decide)) (shD (shOf 5)) [] rfl ?_; intro w5 own5 g5; have O5 := Lib.hid (show MapS w5 w.heap.size 5 from own5); clear own5 O4; have G := Lib.hid (G.out.turn8 (Nat.le_refl _) g5); clear g5)
    | (refine wpList_insert_own8 _ rfl _ _ _ 167 rfl 54 165 kop Tryz.underlying167 shElem w.heap.size 5 (mapD 5) rfl O5.out (by decide) _ _ (.int .i64 6) rfl rfl (Maps.keyOf_int_mk Tryz.underlying54 (by decide)) (shD (shOf 6)) [] rfl ?_; intro w6 own6 g6; have O6 := Lib.hid (show MapS w6 w.heap.size 6 from own6); clear own6 O5; have G := Lib.hid (G.out.turn8 (Nat.le_refl _) g6); clear g6)
    | (refine wpList_insert_own8 _ rfl _ _ _ 167 rfl 54 165 kop Tryz.underlying167 shElem w.heap.size 6 (mapD 6) rfl O6.out (by decide) _ _ (.int .i64 7) rfl rfl (Maps.keyOf_int_mk Tryz.underlying54 (by decide)) (shD (shOf 7)) [] rfl ?_; intro w7 own7 g7; have O7 := Lib.hid (show MapS w7 w.heap.size 7 from own7); clear own7 O6; have G := Lib.hid (G.out.turn8 (Nat.le_refl _) g7); clear g7)
    | (refine wpList_insert_own8 _ rfl _ _ _ 167 rfl 54 165 kop Tryz.underlying167 shElem w.heap.size 7 (mapD 7) rfl O7.out (by decide) _ _ (.int .i64 8) rfl rfl (Maps.keyOf_int_mk Tryz.underlying54 (by decide)) (shD (shOf 8)) [] rfl ?_; intro w8 own8 g8; have O8 := Lib.hid (show MapS w8 w.heap.size 8 from own8); clear own8 O7; have G := Lib.hid (G.out.turn8 (Nat.le_refl _) g8); clear g8)
    | (refine wpList_insert_own8 _ rfl _ _ _ 167 rfl 54 165 kop Tryz.underlying167 shElem w.heap.size 8 (mapD 8) rfl O8.out (by decide) _ _ (.int .i64 9) rfl rfl (Maps.keyOf_int_mk Tryz.underlying54 (by decide)) (shD (shOf 9)) [] rfl ?_; intro w9 own9 g9; have O9 := Lib.hid (show MapS w9 w.heap.size 9 from own9); clear own9 O8; have G := Lib.hid (G.out.turn8 (Nat.le_refl _) g9); clear g9)
    | (refine wpList_insert_own8 _ rfl _ _ _ 167 rfl 54 165 kop Tryz.underlying167 shElem w.heap.size 9 (mapD 9) rfl O9.out (by decide) _ _ (.int .i64 10) rfl rfl (Maps.keyOf_int_mk Tryz.underlying54 (by decide)) (shD (shOf 10)) [] rfl ?_; intro w10 own10 g10; have O10 := Lib.hid (show MapS w10 w.heap.size 10 from own10); clear own10 O9; have G := Lib.hid (G.out.turn8 (Nat.le_refl _) g10); clear g10)
    | (refine wpList_insert_own8 _ rfl _ _ _ 167 rfl 54 165 kop Tryz.underlying167 shElem w.heap.size 10 (mapD 10) rfl O10.out (by decide) _ _ (.int .i64 11) rfl rfl (Maps.keyOf_int_mk Tryz.underlying54 (by decide)) (shD (shOf 11)) [] rfl ?_; intro w11 own11 g11; have O11 := Lib.hid (show MapS w11 w.heap.size 11 from own11); clear own11 O10; have G := Lib.hid (G.out.turn8 (Nat.le_refl _) g11); clear g11)
    | (refine wpList_insert_own8 _ rfl _ _ _ 167 rfl 54 165 kop Tryz.underlying167 shElem w.heap.size 11 (mapD 11) rfl O11.out (by decide) _ _ (.int .i64 12) rfl rfl (Maps.keyOf_int_mk Tryz.underlying54 (by decide)) (shD (shOf 12)) [] rfl ?_; intro w12 own12 g12; have O12 := Lib.hid (show MapS w12 w.heap.size 12 from own12); clear own12 O11; have G := Lib.hid (G.out.turn8 (Nat.le_refl _) g12); clear g12)
    | (refine wpList_insert_own8 _ rfl _ _ _ 167 rfl 54 165 kop Tryz.underlying167 shElem w.heap.size 12 (mapD 12) rfl O12.out (by decide) _ _ (.int .i64 13) rfl rfl (Maps.keyOf_int_mk Tryz.underlying54 (by decide)) (shD (shOf 13)) [] rfl ?_; intro w13 own13 g13; have O13 := Lib.hid (show MapS w13 w.heap.size 13 from own13); clear own13 O12; have G := Lib.hid (G.out.turn8 (Nat.le_refl _) g13); clear g13)
    | (refine wpList_insert_own8 _ rfl _ _ _ 167 rfl 54 165 kop Tryz.underlying167 shElem w.heap.size 13 (mapD 13) rfl O13.out (by decide) _ _ (.int .i64 14) rfl rfl (Maps.keyOf_int_mk Tryz.underlying54 (by decide)) (shD (shOf 14)) [] rfl ?_; intro w14 own14 g14; have O14 := Lib.hid (show MapS w14 w.heap.size 14 from own14); clear own14 O13; have G := Lib.hid (G.out.turn8 (Nat.le_refl _) g14); clear g14)
    | (refine wpList_insert_own8 _ rfl _ _ _ 167 rfl 54 165 kop Tryz.underlying167 shElem w.heap.size 14 (mapD 14) rfl O14.out (by decide) _ _ (.int .i64 15) rfl rfl (Maps.keyOf_int_mk Tryz.underlying54 (by decide)) (shD (shOf 15)) [] rfl ?_; intro w15 own15 g15; have O15 := Lib.hid (show MapS w15 w.heap.size 15 from own15); clear own15 O14; have G := Lib.hid (G.out.turn8 (Nat.le_refl _) g15); clear g15)
    | (refine wpList_insert_own8 _ rfl _ _ _ 167 rfl 54 165 kop Tryz.underlying167 shElem w.heap.size 15 (mapD 15) rfl O15.out (by decide) _ _ (.int .i64 16) rfl rfl (Maps.keyOf_int_mk Tryz.underlying54 (by decide)) (shD (shOf 16)) [] rfl ?_; intro w16 own16 g16; have O16 := Lib.hid (show MapS w16 w.heap.size 16 from own16); clear own16 O15; have G := Lib.hid (G.out.turn8 (Nat.le_refl _) g16); clear g16)
    | (refine wpList_insert_own8 _ rfl _ _ _ 167 rfl 54 165 kop Tryz.underlying167 shElem w.heap.size 16 (mapD 16) rfl O16.out (by decide) _ _ (.int .i64 17) rfl rfl (Maps.keyOf_int_mk Tryz.underlying54 (by decide)) (shD (shOf 17)) [] rfl ?_; intro w17 own17 g17; have O17 := Lib.hid (show MapS w17 w.heap.size 17 from own17); clear own17 O16; have G := Lib.hid (G.out.turn8 (Nat.le_refl _) g17); clear g17)
    | (refine wpList_insert_own8 _ rfl _ _ _ 167 rfl 54 165 kop Tryz.underlying167 shElem w.heap.size 17 (mapD 17) rfl O17.out (by decide) _ _ (.int .i64 18) rfl rfl (Maps.keyOf_int_mk Tryz.underlying54 (by decide)) (shD (shOf 18)) [] rfl ?_; intro w18 own18 g18; have O18 := Lib.hid (show MapS w18 w.heap.size 18 from own18); clear own18 O17; have G := Lib.hid (G.out.turn8 (Nat.le_refl _) g18); clear g18)
    | (refine wpList_insert_own8 _ rfl _ _ _ 167 rfl 54 165 kop Tryz.underlying167 shElem w.heap.size 18 (mapD 18) rfl O18.out (by decide) _ _ (.int .i64 19) rfl rfl (Maps.keyOf_int_mk Tryz.underlying54 (by decide)) (shD (shOf 19)) [] rfl ?_; intro w19 own19 g19; have O19 := Lib.hid (show MapS w19 w.heap.size 19 from own19); clear own19 O18; have G := Lib.hid (G.out.turn8 (Nat.le_refl _) g19); clear g19))
  go_ret
  exact ⟨_, rfl, Nat.le_refl _, O19.out, G.out⟩
theorem mapD_list : mapD 19 = .map ((List.range 19).map fun i => (.int .i64 (i + 1 : Nat), shD (shOf (i + 1)))) := by kernel_rfl
theorem wf_op (k : Nat) (h1 : 1 ≤ k) (h2 : k ≤ 19) : (Lit.int .i64 (k : Int)).wf = true := by
  match k, h1, h2 with
  | 1, _, _ => decide
  | 2, _, _ => decide
  | 3, _, _ => decide
  | 4, _, _ => decide
  | 5, _, _ => decide
  | 6, _, _ => decide
  | 7, _, _ => decide
  | 8, _, _ => decide
  | 9, _, _ => decide
  | 10, _, _ => decide
  | 11, _, _ => decide
  | 12, _, _ => decide
  | 13, _, _ => decide
  | 14, _, _ => decide
  | 15, _, _ => decide
  | 16, _, _ => decide
  | 17, _, _ => decide
  | 18, _, _ => decide
  | 19, _, _ => decide
  | k + 20, _, h => exact absurd h (by omega)
theorem has_op (k : Nat) (h1 : 1 ≤ k) (h2 : k ≤ 19) : Maps.has (mapD 19) (.int .i64 k) = true := by
  match k, h1, h2 with
  | 1, _, _ => show _ = _; kernel_rfl
  | 2, _, _ => show _ = _; kernel_rfl
  | 3, _, _ => show _ = _; kernel_rfl
  | 4, _, _ => show _ = _; kernel_rfl
  | 5, _, _ => show _ = _; kernel_rfl
  | 6, _, _ => show _ = _; kernel_rfl
  | 7, _, _ => show _ = _; kernel_rfl
  | 8, _, _ => show _ = _; kernel_rfl
  | 9, _, _ => show _ = _; kernel_rfl
  | 10, _, _ => show _ = _; kernel_rfl
  | 11, _, _ => show _ = _; kernel_rfl
  | 12, _, _ => show _ = _; kernel_rfl
  | 13, _, _ => show _ = _; kernel_rfl
  | 14, _, _ => show _ = _; kernel_rfl
  | 15, _, _ => show _ = _; kernel_rfl
  | 16, _, _ => show _ = _; kernel_rfl
  | 17, _, _ => show _ = _; kernel_rfl
  | 18, _, _ => show _ = _; kernel_rfl
  | 19, _, _ => show _ = _; kernel_rfl
  | k + 20, _, h => exact absurd h (by omega)
theorem at_op (k : Nat) (h1 : 1 ≤ k) (h2 : k ≤ 19) : (mapD 19).atKey (.int .i64 k) (shD (0, 0, 0, 0)) = shD (shOf k) := by
  match k, h1, h2 with
  | 1, _, _ => show _ = _; kernel_rfl
  | 2, _, _ => show _ = _; kernel_rfl
  | 3, _, _ => show _ = _; kernel_rfl
  | 4, _, _ => show _ = _; kernel_rfl
  | 5, _, _ => show _ = _; kernel_rfl
  | 6, _, _ => show _ = _; kernel_rfl
  | 7, _, _ => show _ = _; kernel_rfl
  | 8, _, _ => show _ = _; kernel_rfl
  | 9, _, _ => show _ = _; kernel_rfl
  | 10, _, _ => show _ = _; kernel_rfl
  | 11, _, _ => show _ = _; kernel_rfl
  | 12, _, _ => show _ = _; kernel_rfl
  | 13, _, _ => show _ = _; kernel_rfl
  | 14, _, _ => show _ = _; kernel_rfl
  | 15, _, _ => show _ = _; kernel_rfl
  | 16, _, _ => show _ = _; kernel_rfl
  | 17, _, _ => show _ = _; kernel_rfl
  | 18, _, _ => show _ = _; kernel_rfl
  | 19, _, _ => show _ = _; kernel_rfl
  | k + 20, _, h => exact absurd h (by omega)
theorem elem_op (k : Nat) (h1 : 1 ≤ k) (h2 : k ≤ 19) : shElem (shapeV (shOf k)) = some (shD (shOf k), []) := by
  match k, h1, h2 with
  | 1, _, _ => show _ = _; kernel_rfl
  | 2, _, _ => show _ = _; kernel_rfl
  | 3, _, _ => show _ = _; kernel_rfl
  | 4, _, _ => show _ = _; kernel_rfl
  | 5, _, _ => show _ = _; kernel_rfl
  | 6, _, _ => show _ = _; kernel_rfl
  | 7, _, _ => show _ = _; kernel_rfl
  | 8, _, _ => show _ = _; kernel_rfl
  | 9, _, _ => show _ = _; kernel_rfl
  | 10, _, _ => show _ = _; kernel_rfl
  | 11, _, _ => show _ = _; kernel_rfl
  | 12, _, _ => show _ = _; kernel_rfl
  | 13, _, _ => show _ = _; kernel_rfl
  | 14, _, _ => show _ = _; kernel_rfl
  | 15, _, _ => show _ = _; kernel_rfl
  | 16, _, _ => show _ = _; kernel_rfl
  | 17, _, _ => show _ = _; kernel_rfl
  | 18, _, _ => show _ = _; kernel_rfl
  | 19, _, _ => show _ = _; kernel_rfl
  | k + 20, _, h => exact absurd h (by omega)
theorem zero_elem : shElem (shapeV (0, 0, 0, 0)) = some (shD (0, 0, 0, 0), []) := by kernel_rfl
theorem look_op (k : Nat) (h1 : 1 ≤ k) (h2 : k ≤ 19) (b : Nat) (w : World) (h : MapS w b 19) :
    (Instr.lookup 167 (.map (some b)) (.int .i64 k) true).run Tryz.prog w = .ok (.tuple #[shapeV (shOf k), .bool true]) w := by
  obtain ⟨v, ps, hr, hv⟩ := h.look_ok kop Tryz.underlying167 (zeroSh w) (zd := shD (0, 0, 0, 0)) (zp := []) zero_elem (Maps.keyOf_int_mk Tryz.underlying54 (wf_op k h1 h2))
  rw [at_op k h1 h2] at hv
  rw [shElem_inj hv (elem_op k h1 h2), has_op k h1 h2] at hr
  exact hr
theorem none_op (x : Int) (hk : ¬ (1 ≤ x ∧ x ≤ 19)) : Maps.has (mapD 19) (.int .i64 x) = false := by
  have hne : ∀ i : Nat, i < 19 → ((Lit.int .i64 ((i + 1 : Nat) : Int)).sameKey (.int .i64 x)) = false := by
    intro i hi
    have : ¬ ((i : Int) + 1 = x) := by omega
    simp [Lit.sameKey, this]
  rw [mapD_list, Maps.has_eq, List.any_eq_false]
  intro p hp
  obtain ⟨i, hi, rfl⟩ := List.mem_map.1 hp
  rw [hne i (List.mem_range.1 hi)]; simp
theorem look_no (x : Int) (hx : (Lit.int .i64 x).wf = true) (hk : ¬ (1 ≤ x ∧ x ≤ 19)) (b : Nat) (w : World) (h : MapS w b 19) :
    (Instr.lookup 167 (.map (some b)) (.int .i64 x) true).run Tryz.prog w = .ok (.tuple #[shapeV (0, 0, 0, 0), .bool false]) w := by
  obtain ⟨v, ps, hr, hv⟩ := h.look_ok kop Tryz.underlying167 (zeroSh w) (zd := shD (0, 0, 0, 0)) (zp := []) zero_elem (Maps.keyOf_int_mk Tryz.underlying54 (a := x) hx)
  rw [Maps.atKey_of_not_has (none_op x hk)] at hv
  rw [shElem_inj hv zero_elem, none_op x hk] at hr
  exact hr
end Go.Proofs.YtdkgehhlikaocaaGreat
