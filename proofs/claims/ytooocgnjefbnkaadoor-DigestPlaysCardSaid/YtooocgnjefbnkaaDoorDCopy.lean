/- Copy: its contract. -/
import Derived.Laws.Tables
import Derived.Deep.WholeRow
import Derived.Test.YtooocgnjefbnkaaDoorDWorks
namespace Go.Proofs.YtooocgnjefbnkaaDoor
open Go Go.RowKit

theorem digK_size (k bits many : Nat) : (digK k bits many).toArray.size = 258 := by simp [digK]
theorem digK_one (k bits many : Nat) : (digK k bits many).toArray.all (·.oneCell') = true := by
  rw [Array.all_eq_true_iff_forall_mem]
  intro u hu
  have hm : u ∈ digK k bits many := by simpa using hu
  obtain ⟨i, hi, rfl⟩ := List.getElem_of_mem hm
  obtain ⟨kd, z, hz⟩ := digK_int (List.getElem?_eq_getElem hi)
  rw [hz]
  rfl
theorem alloc_dig (w : World) : (Instr.alloc 56 true (.tuple #[])).run Tryd.prog w = .ok (.pointer (some ⟨w.heap.size, 0, none⟩)) (w.alloc (.cells (digK 0 0 0).toArray 56)) := by kernel_rfl
theorem info_dig : (Tryd.prog.info? 56).map (·.size) = some 258 := by kernel_rfl
theorem alloc_run {P : Program} {a : Act} {o : Oper} {w w' : World} {v : Value} {t : TypeId} (hop : o.op = .alloc t) (h : (Instr.alloc t true (.tuple #[])).run P w = .ok v w') :
    (execOp a.eval o).run P w = .ok (.value v) w' := by
  simp [execOp, hop, h, Result.andThen]

def CopyPost (l : List Value) (w : World) (e : Ending) (w' : World) : Prop := ∃ c, e = .returned (.pointer (some ⟨c, 0, none⟩)) ∧ w.heap.size ≤ c ∧ Blk w' c l ∧ Adds w w'

set_option maxRecDepth 100000 in
set_option maxHeartbeats 1000000 in
theorem copy_full (b bits many : Nat) (w : World) (hB : Blk w b (digK 256 bits many)) :
    Calls Tryd.prog 12 #[.pointer (some ⟨b, 0, none⟩)] w (CopyPost (digK 256 bits many) w) := by
  have HN := Lib.hid (isNone_full b bits many w hB)
  have HB := Lib.hid hB; clear hB
  have HI := Lib.hid (show (Tryd.prog.info? 56).map (·.size) = some (digK 256 bits many).toArray.size by rw [digK_size]; exact info_dig)
  have HO := Lib.hid (show (digK 0 0 0).toArray.size = (digK 256 bits many).toArray.size by rw [digK_size, digK_size])
  have H1 := Lib.hid (digK_one 256 bits many)
  go_enter Tryd.func12, Tryd.ntmps12
  go_wp2_with (first
    | (go_at_call 25; refine HN.out.mono ?_; rintro e w' ⟨rfl, rfl⟩)
    | ((with_reducible refine wpList_load_row rfl _ _ rfl b ?_ 56 (digK 256 bits many).toArray (0, 0) _ ?_ Tryd.underlying56 ?_ ?_ ?_); (· exact rfl); (· exact HB.out); (· exact rfl); (· exact HI.out))
    | ((with_reducible refine wpList_run (v := .pointer (some ⟨w.heap.size, 0, none⟩)) (w' := w.alloc (.cells (digK 0 0 0).toArray 56)) rfl ?_ ?_); (· exact alloc_run rfl (alloc_dig _)))
    | ((with_reducible refine wpList_store_row rfl _ _ _ rfl w.heap.size (digK 256 bits many).toArray ?_ ?_ 56 (digK 0 0 0).toArray ?_ ?_ ?_ ?_ ?_); (· exact rfl); (· exact rfl); (· exact heap_alloc_last w _); (· exact HI.out); (· exact HO.out); (· exact H1.out)))
  rw [World.setRow_alloc_new]
  go_ret
  exact ⟨_, rfl, Nat.le_refl _, Blk.new _ _, adds_new _ _⟩
end Go.Proofs.YtooocgnjefbnkaaDoor
