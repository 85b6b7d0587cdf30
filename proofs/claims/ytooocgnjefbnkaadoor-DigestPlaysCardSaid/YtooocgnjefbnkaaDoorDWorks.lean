/- The contract of the law's 'works': the chapter's rows. -/
import Derived.Lib.SlBytesConst
import Derived.Test.YtooocgnjefbnkaaDoorDOf
import Derived.Test.YtooocgnjefbnkaaDoorApp2
namespace Go.Proofs.YtooocgnjefbnkaaDoor
open Go Go.RowKit

set_option maxHeartbeats 400000 in
theorem num2_any (x : Int) (w : World) :
    Calls Tryd.prog 8 #[.int .i64 x] w fun e w' => e = .returned (.int .i64 x) ∧ w = w' := by
  go_enter Tryd.func8, Tryd.ntmps8
  go_wp2
  go_ret
  exact ⟨rfl, rfl⟩

theorem adds_new (w : World) (o : Obj) : Adds w (w.alloc o) := (Below.refl _ _).alloc (Nat.le_refl _) _
theorem lit_mark (w : World) (l : List UInt8) (fr : Nat × Nat) (hl : l.length ≤ maxLen) : Bytes (w.heap.size + 1) (w.alloc (.cells (l.map byteV).toArray 5 fr)) (.slice (some ⟨w.heap.size, 0, none⟩) l.length l.length) l := by
  refine ⟨_, _, rfl, Nat.le_refl _, hl, fun _ => ⟨w.heap.size, 0, rfl, by omega, fun i hi => ?_⟩⟩
  rw [cell_of_row _ w.heap.size (0 + i) _ _ _ (heap_alloc_new w _)]
  simp [hi]
theorem lit7 (w : World) : Bytes (w.heap.size + 1) (w.alloc (.cells #[.int .u8 51, .int .u8 52, .int .u8 53, .int .u8 54, .int .u8 55, .int .u8 56, .int .u8 57] 5 (7, 8))) (.slice (some ⟨w.heap.size, 0, none⟩) 7 7) [51, 52, 53, 54, 55, 56, 57] := by
  have := lit_mark w [51, 52, 53, 54, 55, 56, 57] (7, 8) (by simp [maxLen])
  simpa [byteV] using this
theorem lit9 (w : World) : Bytes (w.heap.size + 1) (w.alloc (.cells #[.int .u8 49, .int .u8 50, .int .u8 51, .int .u8 52, .int .u8 53, .int .u8 54, .int .u8 55, .int .u8 56, .int .u8 57] 5 (9, 10))) (.slice (some ⟨w.heap.size, 0, none⟩) 9 9) [49, 50, 51, 52, 53, 54, 55, 56, 57] := by
  have := lit_mark w [49, 50, 51, 52, 53, 54, 55, 56, 57] (9, 10) (by simp [maxLen])
  simpa [byteV] using this
theorem list7 (w : World) : Lists (w.heap.size + 1) ((w.alloc (.cells #[.int .u8 51, .int .u8 52, .int .u8 53, .int .u8 54, .int .u8 55, .int .u8 56, .int .u8 57] 5 (7, 8))).alloc (.cells #[.slice (some ⟨w.heap.size, 0, none⟩) 7 7] 25))
    (.slice (some ⟨w.heap.size + 1, 0, none⟩) 1 1) [[51, 52, 53, 54, 55, 56, 57]] := by
  have := lists_1 _ _ _ (by simp) (lit7 w)
  simpa using this
theorem list9 (w : World) : Lists (w.heap.size + 1) ((w.alloc (.cells #[.int .u8 49, .int .u8 50, .int .u8 51, .int .u8 52, .int .u8 53, .int .u8 54, .int .u8 55, .int .u8 56, .int .u8 57] 5 (9, 10))).alloc (.cells #[.slice (some ⟨w.heap.size, 0, none⟩) 9 9] 25))
    (.slice (some ⟨w.heap.size + 1, 0, none⟩) 1 1) [[49, 50, 51, 52, 53, 54, 55, 56, 57]] := by
  have := lists_1 _ _ _ (by simp) (lit9 w)
  simpa using this
def rowN : Nat := 11051210869376104954
theorem of9 (w : World) : Calls Tryd.prog 24 #[.slice (some ⟨w.heap.size + 1, 0, none⟩) 1 1]
    ((w.alloc (.cells #[.int .u8 49, .int .u8 50, .int .u8 51, .int .u8 52, .int .u8 53, .int .u8 54, .int .u8 55, .int .u8 56, .int .u8 57] 5 (9, 10))).alloc (.cells #[.slice (some ⟨w.heap.size, 0, none⟩) 9 9] 25))
    fun e w' => e = .returned (.int .u64 11051210869376104954) ∧ Adds w w' :=
  (of_any _ _ _ (list9 w) (by simp) (by simp)).mono fun e w' ⟨h1, h2⟩ => ⟨h1.trans (ret_int (by rw [show ([[49, 50, 51, 52, 53, 54, 55, 56, 57]] : List (List UInt8)).flatten = [49, 50, 51, 52, 53, 54, 55, 56, 57] from rfl, sumS_row]; rfl)), (adds_new _ _).trans ((adds_new _ _).trans h2)⟩
theorem of0 (w : World) : Calls Tryd.prog 24 #[.slice none 0 0] w fun e w' => e = .returned (.int .u64 0) ∧ Adds w w' :=
  (of_any _ _ _ (lists_0 (n := 0) w) (by simp) (by simp)).mono fun e w' ⟨h1, h2⟩ => ⟨h1.trans (ret_int (by rw [List.flatten_nil, sumS_nil]; rfl)), h2⟩
theorem fix2 : fixB 12849 2 = [49, 50] ∧ fixE 12849 2 = 0 := by decide +kernel
theorem fix1 : fixB 256 1 = [] ∧ fixE 256 1 = 4 := by decide +kernel

theorem w_num2 (b : Nat) (w : World) (hw : Widths w) (hB : Blk w b (digK 256 all1 0)) :
    Calls Tryd.prog 11 #[.pointer (some ⟨b, 0, none⟩), .int .u64 12849, .int .i64 2] w fun e w' => e = .returned (.int .i64 0) ∧ Blk w' b (digK 256 (foldS all1 [49, 50]) 2) ∧ Turns b w w' := by
  have := numberD_any b all1 0 all1_lt 12849 2 w hw hB (by omega)
  rw [fix2.1, fix2.2] at this
  exact this
theorem w_num1 (b bits : Nat) (w : World) (hb : U64 bits) (hw : Widths w) (hB : Blk w b (digK 256 bits 9)) :
    Calls Tryd.prog 11 #[.pointer (some ⟨b, 0, none⟩), .int .u64 256, .int .i64 1] w fun e w' => e = .returned (.int .i64 4) ∧ Turns b w w' := by
  have := numberD_any b bits 9 hb 256 1 w hw hB (by omega)
  rw [fix1.1, fix1.2] at this
  exact this.mono fun e w' ⟨h1, _, h3⟩ => ⟨h1, h3⟩
theorem w_write (b : Nat) (w : World) (hB : Blk w b (digK 256 (foldS all1 [49, 50]) 2)) :
    Calls Tryd.prog 9 #[.pointer (some ⟨b, 0, none⟩), .slice (some ⟨w.heap.size + 1, 0, none⟩) 1 1]
      ((w.alloc (.cells #[.int .u8 51, .int .u8 52, .int .u8 53, .int .u8 54, .int .u8 55, .int .u8 56, .int .u8 57] 5 (7, 8))).alloc (.cells #[.slice (some ⟨w.heap.size, 0, none⟩) 7 7] 25))
      fun e w' => e = .returned (.int .i64 0) ∧ Blk w' b (digK 256 (foldS (foldS all1 [49, 50]) [51, 52, 53, 54, 55, 56, 57]) 9) ∧ Turns b w w' :=
  (write_any b _ 2 (foldS_lt _ all1_lt) _ _ _ (list7 w) ((hB.adds (adds_new _ _)).adds (adds_new _ _)) (by simp)).mono fun e w' ⟨h1, h2, h3⟩ => ⟨h1, h2, (Turns.alloc b _ _).trans ((Turns.alloc b _ _).trans h3)⟩

theorem conv7 (w : World) : (convert 25 25 (.slice (some ⟨w.heap.size, 0, none⟩) 7 7)).run Tryd.prog (w.alloc (.cells #[.int .u8 51, .int .u8 52, .int .u8 53, .int .u8 54, .int .u8 55, .int .u8 56, .int .u8 57] 5)) = .ok (.slice (some ⟨w.heap.size, 0, none⟩) 7 7) (w.alloc (.cells #[.int .u8 51, .int .u8 52, .int .u8 53, .int .u8 54, .int .u8 55, .int .u8 56, .int .u8 57] 5 (7, 8))) :=
  Lib.run_convert_bytes_const w 25 5 _ 7 7 Tryd.underlying25 Tryd.underlying5
theorem conv9 (w : World) : (convert 25 25 (.slice (some ⟨w.heap.size, 0, none⟩) 9 9)).run Tryd.prog (w.alloc (.cells #[.int .u8 49, .int .u8 50, .int .u8 51, .int .u8 52, .int .u8 53, .int .u8 54, .int .u8 55, .int .u8 56, .int .u8 57] 5)) = .ok (.slice (some ⟨w.heap.size, 0, none⟩) 9 9) (w.alloc (.cells #[.int .u8 49, .int .u8 50, .int .u8 51, .int .u8 52, .int .u8 53, .int .u8 54, .int .u8 55, .int .u8 56, .int .u8 57] 5 (9, 10))) :=
  Lib.run_convert_bytes_const w 25 5 _ 9 9 Tryd.underlying25 Tryd.underlying5

set_option maxRecDepth 100000 in
set_option maxHeartbeats 4000000 in
theorem works2_any (w : World) (hw : Widths w) : Calls Tryd.prog 7 #[] w (TrueAdds w) := by
  have HW := Lib.hid hw; clear hw
  have hc7 := conv7
  have hc9 := conv9
  go_enter Tryd.func7, Tryd.ntmps7
  go_wp2_with fail
  refine (new_any w).mono ?_
  rintro e w1 ⟨b, rfl, hbn, hB, ha⟩
  have HA := Lib.hid ha; clear ha
  have HBN := Lib.hid hbn; clear hbn
  have H1 := Lib.hid (w_num2 b w1 (HW.out.below HA.out) hB); clear hB
  go_wp2_with fail
  refine H1.out.mono ?_
  rintro e w2 ⟨rfl, hB2, ht2⟩
  have HT2 := Lib.hid ht2; clear ht2
  have H2 := Lib.hid (w_write b w2 hB2); clear hB2
  go_wp2_with fail
  refine H2.out.mono ?_
  rintro e w3 ⟨rfl, hB3, ht3⟩
  have HT3 := Lib.hid (HT2.out.trans ht3); clear ht3
  have HA3 := Lib.hid (Turns.own HA.out HBN.out HT3.out)
  have HB3 := Lib.hid hB3; clear hB3
  go_wp2_with fail
  refine (of9 w3).mono ?_
  rintro e w4 ⟨rfl, ha4⟩
  have HA4 := Lib.hid ha4; clear ha4
  go_wp2_with fail
  refine (of0 w4).mono ?_
  rintro e w5 ⟨rfl, ha5⟩
  have HA5 := Lib.hid (HA4.out.trans ha5); clear ha5
  have HB5 := Lib.hid (HB3.out.adds HA5.out)
  have HS := Lib.hid ((sum_full b _ _ (foldS_lt _ (foldS_lt _ all1_lt)) w5 HB5.out).mono (R' := fun e w' => e = .returned (.int .u64 11051210869376104954) ∧ w5 = w') fun e w' ⟨h1, h2⟩ => ⟨h1.trans (ret_int (by rw [sum_cut, sumS_row2]; rfl)), h2⟩)
  have HL := Lib.hid (len_full b _ _ w5 HB5.out)
  have HN := Lib.hid (w_num1 b _ w5 (foldS_lt _ (foldS_lt _ all1_lt)) (HW.out.below (HA3.out.trans HA5.out)) HB5.out)
  go_wp2_with (first
    | (go_at_call 8; refine (num2_any _ _).mono ?_; rintro e w' ⟨rfl, rfl⟩)
    | (go_at_call 13; refine HS.out.mono ?_; rintro e w' ⟨rfl, rfl⟩)
    | (go_at_call 15; refine HL.out.mono ?_; rintro e w' ⟨rfl, rfl⟩)
    | (go_at_call 11; refine HN.out.mono ?_; rintro e w6 ⟨rfl, ht6⟩; have HT6 := Lib.hid ht6; clear ht6))
  go_ret
  refine ⟨rfl, ?_⟩
  exact Turns.own HA.out HBN.out (HT3.out.trans ((Turns.of_adds b HA5.out).trans HT6.out))
end Go.Proofs.YtooocgnjefbnkaaDoor
