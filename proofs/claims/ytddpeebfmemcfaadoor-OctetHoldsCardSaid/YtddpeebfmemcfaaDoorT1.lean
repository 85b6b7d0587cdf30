/- Contracts of join and Text. -/
import Derived.Lib.ConvBytes
import Derived.Lib.AppendStr
import Derived.Test.YtddpeebfmemcfaaDoorApp2
import Derived.Test.YtddpeebfmemcfaaDoorW6
import Derived.Test.YtddpeebfmemcfaaDoorW7
namespace Go.Proofs.YtddpeebfmemcfaaDoor
open Go.RowKit

set_option maxRecDepth 100000 in
set_option maxHeartbeats 2000000 in
theorem join_two {n1 n2 : Nat} (b : Nat) (p q : Value) (l1 l2 : List UInt8) (w : World) (c0 : w.cell? ⟨b, 0, none⟩ = some p) (c1 : w.cell? ⟨b, 1, none⟩ = some q)
    (hp : Bytes n1 w p l1) (hq : Bytes n2 w q l2) (hlen : l1.length + l2.length ≤ 140737488355328) :
    Calls Tryd.prog 30 #[.slice (some ⟨b, 0, none⟩) 2 2] w (GivesB (l1 ++ l2) (fun v => v) w) := by
  have hbw : b < w.heap.size := World.block_lt_of_cell? w _ c0
  obtain ⟨ap, cp, rfl, _, _, _⟩ := id hp
  obtain ⟨aq, cq, rfl, _, _, _⟩ := id hq
  have HP := Lib.hid hp.here; clear hp
  have HQ := Lib.hid hq.here; clear hq
  have hcq := Lib.hid c1
  go_enter Tryd.func30, Tryd.ntmps30
  go_wp2
  refine wp_loop_rounds 3 ?_
  rw [rounds_succ]
  go_wp2_with (at_builtin; refine wp_append_bytes rfl (.tmp 12) (.tmp 13) rfl w.heap.size _ [] rfl (by exact OwnB.nil _ _) _ l1 _ rfl (by exact HP.out) (by simp; omega) (Nat.le_refl _) ?_; intro v5 w5 o5 b5; have O5 := Lib.hid o5; clear o5; have c1' : w5.cell? ⟨b, 1, none⟩ = some (.slice aq l2.length cq) := (b5.cell (p := ⟨b, 1, none⟩) hbw).trans hcq.out; have B5 := Lib.hid b5; clear b5)
  rw [rounds_succ]
  go_wp2_with (at_builtin; refine wp_append_bytes rfl (.tmp 12) (.tmp 13) rfl w.heap.size _ ([] ++ l1) rfl (by exact O5.out) _ l2 _ rfl (by exact HQ.out.below B5.out) (by simp; omega) (by exact B5.out.size) ?_; intro v6 w6 o6 b6; have O6 := Lib.hid o6; clear o6; have B6 := Lib.hid (B5.out.trans b6); clear b6)
  rw [rounds_succ]
  go_wp2
  go_ret
  exact ⟨v6, rfl, by simpa using O6.out, B6.out⟩

theorem str_len (s : ByteArray) : s.data.toList.length = s.size := by
  show s.data.toList.length = s.data.size
  exact Array.length_toList
theorem str_bytes (w : World) (s : ByteArray) (hs : s.size ≤ 65536) : Bytes (Lib.bytesWorld w 5 s).heap.size (Lib.bytesWorld w 5 s) (.slice (some ⟨w.heap.size, 0, none⟩) s.size (grownCap w s.size 0 5)) s.data.toList := by
  have hb : w.heap.size < (Lib.bytesWorld w 5 s).heap.size := by rw [Lib.bytesWorld_size]; exact Nat.lt_succ_self _
  refine ⟨some ⟨w.heap.size, 0, none⟩, grownCap w s.size 0 5, by rw [str_len], by rw [str_len]; exact grownCap_ge w s.size 0 5, grownCap_le_maxLen w s.size 0 5 (by unfold maxLen; omega), fun _ => ⟨w.heap.size, 0, rfl, hb, fun i hi => ?_⟩⟩
  rw [str_len] at hi
  rw [Nat.zero_add]
  exact Lib.bytesWorld_cell w _ s i hi
theorem str_adds (w : World) (s : ByteArray) : Adds w (Lib.bytesWorld w 5 s) :=
  ⟨rfl, rfl, rfl, by rw [Lib.bytesWorld_size]; omega, fun k hk => Lib.bytesWorld_at_old w _ s k hk⟩
theorem run_str (s : ByteArray) (w : World) : (convert 9 23 (.string s)).run Tryd.prog w = .ok (.slice (some ⟨w.heap.size, 0, none⟩) s.size (grownCap w s.size 0 5)) (Lib.bytesWorld w 5 s) :=
  Lib.run_convert_string_bytes w _ _ _ s Tryd.underlying9 Tryd.underlying23 Tryd.underlying5

theorem size_u64 (s : ByteArray) (hs : s.size ≤ 65536) : U64 s.size := by unfold U64; omega
set_option maxRecDepth 100000 in
set_option maxHeartbeats 2000000 in
theorem text_new (s : ByteArray) (hs : s.size ≤ 65536) (w : World) :
    Calls Tryd.prog 18 #[.string s] w (GivesB (txtB s.data.toList) (fun v => v) w) := by
  have hsz := numB_length10 (size_u64 s hs)
  go_enter Tryd.func18, Tryd.ntmps18
  go_wp2_with fail
  refine (number_new s.size (size_u64 s hs) _).mono ?_
  rintro e w1 ⟨v1, rfl, o1, a1⟩
  obtain ⟨g, cap1, rfl, _, _⟩ := o1.form (List.length_pos_iff.1 (numB_pos _))
  have O1 := Lib.hid o1.bytes; clear o1
  have A1 := Lib.hid a1; clear a1
  have hrs := run_str s w1
  go_wp2_with fail
  have A2 := Lib.hid (str_adds w1 s)
  have B2 := Lib.hid (str_bytes w1 s hs)
  obtain ⟨w2, hw2⟩ : ∃ w2, Lib.bytesWorld w1 5 s = w2 := ⟨_, rfl⟩
  rw [hw2] at A2 B2 ⊢
  clear hrs hw2
  have O2 := Lib.hid (O1.out.adds A2.out); clear O1
  have A3 := Lib.hid (adds_alloc w2 (.cells #[.slice (some ⟨g, 0, none⟩) (numB s.size).length cap1, .slice (some ⟨w1.heap.size, 0, none⟩) s.size (grownCap w1 s.size 0 5)] 23))
  refine (join_two _ _ _ (numB s.size) s.data.toList _ (World.cell?_alloc_at _ _ _ _ rfl) (World.cell?_alloc_at _ _ _ _ rfl) (O2.out.adds A3.out) (B2.out.adds A3.out) (by rw [str_len]; omega)).mono ?_
  rintro e w4 ⟨v4, rfl, o4, a4⟩
  have A4 := Lib.hid (((A1.out.trans A2.out).trans A3.out).trans a4)
  have O4 := Lib.hid (o4.lower (b := w.heap.size) (by have h1 := A1.out.size; have h2 := A2.out.size; have h3 := A3.out.size; omega))
  clear o4 a4
  go_wp2
  go_ret
  refine ⟨v4, rfl, ?_, A4.out⟩
  unfold txtB
  rw [str_len]
  exact O4.out
end Go.Proofs.YtddpeebfmemcfaaDoor
