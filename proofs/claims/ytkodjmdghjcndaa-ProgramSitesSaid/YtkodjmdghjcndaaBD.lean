/- Merged: AK1, AK2. -/
import Derived.Lib.LaidTab
import Derived.Test.YtkodjmdghjcndaaBC
import Derived.Test.YtkodjmdghjcndaaBA
namespace Go.Proofs.Ytkodjmdghjcndaa
open Go Go.RowKit Go.Shelf
attribute [local go_sem] Oper.semAt_some

def nmB : List (List UInt8) := [[97, 100, 100], [115, 117, 98], [109, 117, 108], [100, 105, 118], [109, 111, 100], [97, 110, 100], [111, 114], [120, 111, 114], [115, 104, 108], [115, 104, 114], [108, 101, 115, 115], [101, 113, 117, 97, 108]]
def nm (i : Nat) : ByteArray := str (nmB.getD i [])
def nmV (i : Nat) : Value := .string (nm i)
def nmA : Array Value := #[nmV 0, nmV 1, nmV 2, nmV 3, nmV 4, nmV 5, nmV 6, nmV 7, nmV 8, nmV 9, nmV 10, nmV 11]
abbrev kdV (x : Nat) : Array Value := #[.int .i64 ((x : Nat) : Int), nmV x]
abbrev kdV1 (x : Nat) : Array Value := #[.int .i64 (1 + ((x : Nat) : Int)), nmV x]

end Go.Proofs.Ytkodjmdghjcndaa
namespace Go.Proofs.Ytkodjmdghjcndaa
open Go Go.RowKit Go.Shelf
attribute [local go_sem] Oper.semAt_some

theorem beq_no {y s : ByteArray} (h : ¬ y = s) : (y.toList == s.toList) = false := by
  rw [beq_eq_false_iff_ne]
  intro e
  rw [ByteArray.toList_eq, ByteArray.toList_eq] at e
  apply h
  cases y; cases s
  simp only [ByteArray.mk.injEq]
  exact Array.toList_inj.1 e
/-- The kind of a name, among the first k. -/
def pN (s : ByteArray) : Nat → Nat
  | 0 => 0
  | k + 1 => if pN s k ≠ 0 then pN s k else if nm k = s then k + 1 else 0
theorem pN_no {s : ByteArray} {k : Nat} (h : pN s k = 0) (hn : nm k ≠ s) : pN s (k + 1) = 0 := by simp [pN, h, hn]
theorem pN_yes {s : ByteArray} {k : Nat} (h : pN s k = 0) (hn : nm k = s) : pN s (k + 1) = k + 1 := by simp [pN, h, hn]
theorem pN_stay {s : ByteArray} {k : Nat} (h : pN s k ≠ 0) : ∀ d, pN s (k + d) = pN s k
  | 0 => rfl
  | d + 1 => by
    have := pN_stay h d
    rw [← Nat.add_assoc, pN, if_pos (by rw [this]; exact h), this]
theorem pN_hit {s : ByteArray} {k : Nat} (hk : k < 12) (h : pN s k = 0) (hn : nm k = s) : pN s 12 = k + 1 := by
  have h1 := pN_yes h hn
  have h2 := pN_stay (k := k + 1) (by rw [h1]; omega) (12 - (k + 1))
  rw [show k + 1 + (12 - (k + 1)) = 12 by omega] at h2
  rw [h2, h1]
theorem results_two {fn : Func} {t u : Tmp} (h : fn.results = #[.tmp t, .tmp u]) (tmps : Array Value) (P : Program) (w : World) : (results fn tmps).run P w = .ok (.tuple #[tmps.getD t undef, tmps.getD u undef]) w := by
  simp [results, h]
def ParsePost (s : ByteArray) (w : World) (e : Ending) (w' : World) : Prop := e = .returned (.tuple #[.int .i64 (pN s 12 : Nat), .int .i64 (if pN s 12 = 0 then 5 else 0)]) ∧ Adds w w'

/-- The document's list of names, in a world. -/
def NamesAt (n : Nat) (w : World) (v : Value) : Prop := ∃ b, v = .slice (some ⟨b, 0, none⟩) 12 12 ∧ n ≤ b ∧ ∀ i, i < 12 → w.cell? ⟨b, i, none⟩ = some (nmV i)
theorem NamesAt.adds {n : Nat} {w w' : World} {v : Value} (h : NamesAt n w v) (ha : Adds w w') : NamesAt n w' v := by
  obtain ⟨b, rfl, hb, hc⟩ := h
  exact ⟨b, rfl, hb, fun i hi => ha.cellAt (hc i hi)⟩
end Go.Proofs.Ytkodjmdghjcndaa
