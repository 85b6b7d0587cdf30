/- Texts as bytes. -/
import Derived.Lib.ConvBytes
import Derived.Test.YtfclclckcjjnkaaGreatDoorBC
namespace Go.Proofs.YtfclclckcjjnkaaGreatDoor
open Go Go.RowKit Go.Shelf

theorem str_size8 (l : List UInt8) : (str l).size = l.length := by simp [str, ByteArray.size]
theorem str_bytes8 (w : World) (s : ByteArray) (hs : s.size ≤ 65536) : Bytes (Lib.bytesWorld w 5 s).heap.size (Lib.bytesWorld w 5 s) (.slice (some ⟨w.heap.size, 0, none⟩) s.size (grownCap w s.size 0 5)) s.data.toList := by
  have hb : w.heap.size < (Lib.bytesWorld w 5 s).heap.size := by rw [Lib.bytesWorld_size]; exact Nat.lt_succ_self _
  have hl : s.data.toList.length = s.size := by show s.data.toList.length = s.data.size; exact Array.length_toList
  refine ⟨some ⟨w.heap.size, 0, none⟩, grownCap w s.size 0 5, by rw [hl], by rw [hl]; exact grownCap_ge w s.size 0 5, grownCap_le_maxLen w s.size 0 5 (by unfold maxLen; omega), fun _ => ⟨w.heap.size, 0, rfl, hb, fun i hi => ?_⟩⟩
  rw [hl] at hi
  rw [Nat.zero_add]
  exact Lib.bytesWorld_cell w _ s i hi
theorem str_adds8 (w : World) (s : ByteArray) : Adds w (Lib.bytesWorld w 5 s) :=
  ⟨rfl, rfl, rfl, by rw [Lib.bytesWorld_size]; omega, fun k hk => Lib.bytesWorld_at_old w _ s k hk⟩
theorem run_str8 (s : ByteArray) (w : World) : (convert 9 27 (.string s)).run Tryz.prog w = .ok (.slice (some ⟨w.heap.size, 0, none⟩) s.size (grownCap w s.size 0 5)) (Lib.bytesWorld w 5 s) :=
  Lib.run_convert_string_bytes w _ _ _ s Tryz.underlying9 Tryz.underlying27 Tryz.underlying5
end Go.Proofs.YtfclclckcjjnkaaGreatDoor
