/- Contracts of the reader's small steps, and of the document's Fixed and ReadFixed. -/
import Derived.Deep.QuietTactic
import Derived.BigQuiet
import Derived.Test.YtoeoeeomnbggkaaGreatDoorW2
namespace Go.Proofs.YtoeoeeomnbggkaaGreatDoor
open Go.RowKit

theorem quiet_left {P : Program} {f : FuncId} {args : Array Value} {w : World} {n : Nat} {v : Value}
    (h : Calls P f args (w.drewN n) fun e w' => e = .returned v ∧ w.drewN n = w') : Calls P f args (w.drewN n) fun e w'' => e = .returned v ∧ ∃ m, w'' = w.drewN m :=
  h.mono fun _ _ ⟨he, hm⟩ => ⟨he, n, hm.symm⟩

/-- What a cut is, as a value. -/
def cutV (ao : Option Addr) (i many : Nat) : Value := .slice (if many = 0 then ao else ao.map (·.add i)) many many
theorem cutV_bytes {n : Nat} {w : World} {ao : Option Addr} {cap : Nat} {l : List UInt8} (hv : Bytes n w (.slice ao l.length cap) l) (i many : Nat) (h : i + many ≤ l.length) : Bytes n w (cutV ao i many) ((l.drop i).take many) := by
  have h1 : l.length ≤ cap := by
    obtain ⟨_, _, e, h1, _⟩ := hv
    simp only [Value.slice.injEq] at e
    omega
  have hs := hv.sliced i (i + many) (i + many) (by omega) h (by omega) (by omega)
  rw [show i + many - i = many by omega, Nat.mul_one] at hs
  unfold cutV
  by_cases h0 : many = 0
  · subst h0; simpa using hs
  · rw [if_neg (by omega)] at hs; rw [if_neg h0]; exact hs

theorem quiet_add_left {P : Program} {f : FuncId} {args : Array Value} {w : World} {a n : Nat} {v : Value}
    (h : Calls P f args (w.drewN (a + n)) fun e w' => e = .returned v ∧ w.drewN (a + n) = w') :
    Calls P f args (w.drewN (a + n)) fun e w'' => e = .returned v ∧ ∃ m, w'' = w.drewN (a + m) :=
  h.mono fun _ _ ⟨he, hm⟩ => ⟨he, n, hm.symm⟩

/-- The reader in its block: the bytes, the place, the width. -/
structure Rd (w : World) (br : Nat) (v : Value) (i : Nat) (wd : Int) : Prop where
  c0 : w.cell? ⟨br, 0, none⟩ = some v
  c1 : w.cell? ⟨br, 1, none⟩ = some (.int .i64 i)
  c2 : w.cell? ⟨br, 2, none⟩ = some (.int .i64 wd)
  f1 : w.frozen? ⟨br, 1, none⟩ = false

def TakeYes (n : Nat) (br : Nat) (v : Value) (wd : Int) (i : Nat) (l : List UInt8) (w : World) (e : Ending) (w' : World) : Prop :=
  ∃ v', e = .returned (.tuple #[v', .int .i64 0]) ∧ Bytes n w' v' l ∧ Rd w' br v i wd ∧ Below n w w'

theorem take_fin {n br : Nat} {v v' : Value} {wd : Int} {j : Int} {l : List UInt8} {w : World} {vi : Value} (hn : n ≤ br) (hv : Bytes n w v' l)
    (hr : w.cell? ⟨br, 0, none⟩ = some v ∧ w.cell? ⟨br, 1, none⟩ = some vi ∧ w.cell? ⟨br, 2, none⟩ = some (.int .i64 wd) ∧ w.frozen? ⟨br, 1, none⟩ = false) (k : Nat) {m : Nat} (hm : (m : Int) = j) :
    Bytes n ((w.drewN k).setCell ⟨br, 1, none⟩ (.int .i64 j)) v' l ∧ Rd ((w.drewN k).setCell ⟨br, 1, none⟩ (.int .i64 j)) br v m wd ∧ Below n w ((w.drewN k).setCell ⟨br, 1, none⟩ (.int .i64 j)) := by
  obtain ⟨c0, c1, c2, f1⟩ := hr
  subst hm
  have hb : Below n w (w.drewN k) := ⟨rfl, rfl, rfl, Nat.le_refl _, fun _ _ => rfl⟩
  have hb2 := hb.setCell (p := ⟨br, 1, none⟩) hn (.int .i64 m)
  refine ⟨hv.below hb2, ⟨?_, ?_, ?_, ?_⟩, hb2⟩
  · exact (World.cell?_setCell_other (w.drewN k) _ _ _ (by simp)).trans c0
  · exact World.cell?_setCell_same (w.drewN k) _ _ (u := vi) c1
  · exact (World.cell?_setCell_other (w.drewN k) _ _ _ (by simp)).trans c2
  · exact (World.frozen?_setCell (w.drewN k) _ _ _).trans f1

end Go.Proofs.YtoeoeeomnbggkaaGreatDoor
