/- bytes.Clone, and Each itself. -/
import Derived.Test.YtcimppggemdidaaDoorE3
import Derived.Test.YtcimppggemdidaaDoorApp2
import Derived.Test.YtcimppggemdidaaDoorW7
namespace Go.Proofs.YtcimppggemdidaaDoor
open Go Go.RowKit Go.Shelf

set_option maxRecDepth 100000 in
set_option maxHeartbeats 1000000 in
theorem clone_any (n : Nat) (v : Value) (l : List UInt8) (w : World) (hv : Bytes n w v l) (hl : l.length ≤ 140737488355328) : Calls Tryd.prog 51 #[v] w (GivesB l id w) := by
  have HV := Lib.hid hv
  obtain ⟨ao, cap, rfl, h1, h2, h3⟩ := hv
  cases ao with
  | none =>
    have hnil : l = [] := by
      apply Classical.byContradiction
      intro h
      obtain ⟨b, off, e, _⟩ := h3 h
      cases e
    clear h3
    have hq : ∀ W m, (binOp .eql 22 (.slice none m cap) (.slice none 0 0)).run Tryd.prog W = .ok (.bool true) W := fun W m => Lib.run_eql_slice_nil W _ 5 none _ _ _ _ (by kernel_rfl)
    go_enter Tryd.func51, Tryd.ntmps51
    go_wp2
    go_ret
    exact ⟨_, rfl, hnil ▸ OwnB.nil _ _, Adds.refl _⟩
  | some p =>
    clear h3
    go_enter Tryd.func51, Tryd.ntmps51
    have hq : ∀ W, (binOp .eql 22 (.slice (some p) l.length cap) (.slice none 0 0)).run Tryd.prog W = .ok (.bool false) W := fun W => Lib.run_eql_slice_nil W _ 5 (some p) _ _ _ _ (by kernel_rfl)
    have HE := Lib.hid (own_empty w)
    have BA := Lib.hid (below_alloc w (.cells #[] 5))
    go_wp2_with (first
      | (at_builtin; refine wp_append_bytes rfl (.tmp 5) (.tmp 6) rfl w.heap.size _ [] rfl (by exact HE.out) _ l _ rfl (by exact HV.out.here.below BA.out) (by simp; omega) (by simp) ?_; intro v5 w5 o5 b5; have O5 := Lib.hid o5; clear o5; have B5 := Lib.hid (BA.out.trans b5); clear b5))
    go_ret
    exact ⟨_, rfl, O5.out, B5.out⟩

def EachPost (k : Int) (l : List UInt8) (w : World) (e : Ending) (w' : World) : Prop :=
  Adds w w' ∧ ∃ Br ao cap, e = .returned (.func (.func 52) #[] #[.pointer (some ⟨Br, 0, none⟩), .pointer (some ⟨w.heap.size, 0, none⟩)]) ∧ w.heap.size < Br ∧ Br < w'.heap.size ∧
    w'.cell? ⟨Br, 0, none⟩ = some (.slice ao l.length cap) ∧ w'.cell? ⟨w.heap.size, 0, none⟩ = some (.int .i64 k) ∧ Bytes w'.heap.size w' (.slice ao l.length cap) l ∧ (∀ b o, ao = some ⟨b, o, none⟩ → w.heap.size < b ∧ b < w'.heap.size)

set_option maxRecDepth 100000 in
set_option maxHeartbeats 1000000 in
theorem each_any (n : Nat) (v : Value) (l : List UInt8) (k : Int) (w : World) (hv : Bytes n w v l) (hl : l.length ≤ 140737488355328) : Calls Tryd.prog 12 #[v, .int .i64 k] w (EachPost k l w) := by
  have HV := Lib.hid hv; clear hv
  go_enter Tryd.func12, Tryd.ntmps12
  have hA : Adds w (w.alloc (Obj.cells #[Value.int IntKind.i64 k] 3)) := Adds.new _ _
  have hck : (w.alloc (Obj.cells #[Value.int IntKind.i64 k] 3)).cell? ⟨w.heap.size, 0, none⟩ = some (.int .i64 k) := by simp
  have hsz : (w.alloc (Obj.cells #[Value.int IntKind.i64 k] 3)).heap.size = w.heap.size + 1 := by simp
  have HA := Lib.hid hA; clear hA
  have HCK := Lib.hid hck; clear hck
  have HSZ := Lib.hid hsz; clear hsz
  have HC := Lib.hid (clone_any _ v l _ (bytes_adds HV.out HA.out) hl)
  go_wp2_with (go_at_call 51; refine HC.out.mono ?_; rintro e w1 ⟨v1, rfl, o1, a1⟩; obtain ⟨ao1, cap1, rfl, hm1, hm2, hm3⟩ := o1.bytes; have HM3 := Lib.hid hm3; clear hm3; have O1 := Lib.hid o1; clear o1; have A1 := Lib.hid a1; clear a1; dsimp only [id])
  go_ret
  generalize hw2 : World.alloc w1 _ = w2
  have A2 : Adds w1 w2 := hw2 ▸ Adds.new _ _
  have hs1 := A1.out.size
  rw [HSZ.out] at hs1
  refine ⟨HA.out.trans (A1.out.trans A2), w1.heap.size, ao1, cap1, rfl, by omega, ?_, ?_, ?_, ?_, ?_⟩
  · rw [← hw2]; simp
  · rw [← hw2]; simp
  · exact A2.cellAt (A1.out.cellAt HCK.out)
  · exact bytes_adds O1.out.bytes A2
  · intro b o e
    have h2 := O1.out.2
    rw [HSZ.out] at h2
    rcases h2 with ⟨e1, _⟩ | ⟨g, c, cur, e1, hb, hg, _⟩
    · simp only [Value.slice.injEq] at e1
      rw [e1.1] at e
      cases e
    · simp only [Value.slice.injEq] at e1
      rw [e1.1] at e
      cases e
      have h3 := (Array.getElem?_eq_some_iff.1 hg).1
      have h4 := A2.size
      exact ⟨by omega, by omega⟩
end Go.Proofs.YtcimppggemdidaaDoor
