/- What is given up is told: the deferred functions, Check: contracts. (genF5.py wrote this.) -/
import Derived.WalkSmall
import Derived.Defers
import Derived.Recover
import Derived.Test.YtbinmgpfkjmijaaGreatDoorEvF4
namespace Go.Proofs.YtbinmgpfkjmijaaGreatDoor
open Go Go.RowKit Go.Shelf Go.Lib

set_option maxRecDepth 100000 in
theorem told16 (v : Int) (w : World) : Calls Tryz.prog 30 #[.iface 97 (.int .i64 v)] w fun e w' => e = .returned (.int .i64 v) ∧ w = w' := by
  have ht : ∀ w : World, (Instr.typeAssert (.iface 97 (.int .i64 v)) 20 97 false).run Tryz.prog w = .ok (.int .i64 v) w := fun _ => by kernel_rfl
  go_enter Tryz.func30, Tryz.ntmps30
  go_wp2
  go_ret
  exact ⟨rfl, rfl⟩
theorem iface_some (t : TypeId) (v : Value) (w : World) : (binOp .neq 20 (.iface t v) .nilIface).run Tryz.prog w = .ok (.bool true) w := by kernel_rfl
theorem iface_none (w : World) : (binOp .neq 20 .nilIface .nilIface).run Tryz.prog w = .ok (.bool false) w := by kernel_rfl
set_option maxRecDepth 100000 in
theorem catch_check (b : Nat) (x v : Int) (older : List PanicEntry) (w : World) (hB : BkS 30 w b [.int .i64 x]) :
    CallsD Tryz.prog 42 #[.pointer (some ⟨b, 0, none⟩)] (.panicking ({ v := .iface 97 (.int .i64 v), recovered := false } :: older)) w fun e u' w' =>
      e = .returned (.tuple #[]) ∧ u' = .panicking ({ v := .iface 97 (.int .i64 v), recovered := true } :: older) ∧ w' = w.setCell ⟨b, 0, none⟩ (.int .i64 v) := by
  have c0 : w.cell? ⟨b, 0, none⟩ = some (.int .i64 x) := hB.cell 0
  have f0 := hB.free 0
  have hn := iface_some 97 (.int .i64 v)
  have HT := Lib.hid (told16 v w)
  clear hB
  refine callsD_of_wpS Tryz.func42 rfl fun c₀ cs hu => ?_
  apply wpS_seq
  apply wpS_region
  simp [wpOpsS, go_sem, recoverD, hu, Tryz.ntmps42, Exit.thenS]
  refine wpS_of_wp ?_
  simp only [Array.replicate_succ, Array.replicate_zero, List.push_toArray, List.append_toArray, List.nil_append, List.cons_append, List.setIfInBounds_toArray, List.set_cons_zero, List.set_cons_succ]
  go_wp2_with (go_at_call 30; refine HT.out.mono ?_; rintro e w2 ⟨rfl, rfl⟩)
  simp [bodyPostS, results, Tryz.results42]
set_option maxRecDepth 100000 in
theorem idle_check (p : Value) (w : World) :
    CallsD Tryz.prog 42 #[p] .returning w fun e u' w' => e = .returned (.tuple #[]) ∧ u' = .returning ∧ w' = w := by
  have hn := iface_none
  refine callsD_of_wpS Tryz.func42 rfl fun c₀ cs hu => ?_
  apply wpS_seq
  apply wpS_region
  simp [wpOpsS, go_sem, recoverD, hu, Tryz.ntmps42, Exit.thenS]
  refine wpS_of_wp ?_
  simp only [Array.replicate_succ, Array.replicate_zero, List.push_toArray, List.append_toArray, List.nil_append, List.cons_append, List.setIfInBounds_toArray, List.set_cons_zero, List.set_cons_succ]
  go_wp2_with fail
  cases c₀
  simp_all [bodyPostS, results, Tryz.results42]
set_option maxRecDepth 100000 in
theorem catch_bytes (b : Nat) (x v : Int) (older : List PanicEntry) (w : World) (hB : BkS 30 w b [.int .i64 x]) :
    CallsD Tryz.prog 43 #[.pointer (some ⟨b, 0, none⟩)] (.panicking ({ v := .iface 97 (.int .i64 v), recovered := false } :: older)) w fun e u' w' =>
      e = .returned (.tuple #[]) ∧ u' = .panicking ({ v := .iface 97 (.int .i64 v), recovered := true } :: older) ∧ w' = w.setCell ⟨b, 0, none⟩ (.int .i64 v) := by
  have c0 : w.cell? ⟨b, 0, none⟩ = some (.int .i64 x) := hB.cell 0
  have f0 := hB.free 0
  have hn := iface_some 97 (.int .i64 v)
  have HT := Lib.hid (told16 v w)
  clear hB
  refine callsD_of_wpS Tryz.func43 rfl fun c₀ cs hu => ?_
  apply wpS_seq
  apply wpS_region
  simp [wpOpsS, go_sem, recoverD, hu, Tryz.ntmps43, Exit.thenS]
  refine wpS_of_wp ?_
  simp only [Array.replicate_succ, Array.replicate_zero, List.push_toArray, List.append_toArray, List.nil_append, List.cons_append, List.setIfInBounds_toArray, List.set_cons_zero, List.set_cons_succ]
  go_wp2_with (go_at_call 30; refine HT.out.mono ?_; rintro e w2 ⟨rfl, rfl⟩)
  simp [bodyPostS, results, Tryz.results43]
set_option maxRecDepth 100000 in
theorem idle_bytes (p : Value) (w : World) :
    CallsD Tryz.prog 43 #[p] .returning w fun e u' w' => e = .returned (.tuple #[]) ∧ u' = .returning ∧ w' = w := by
  have hn := iface_none
  refine callsD_of_wpS Tryz.func43 rfl fun c₀ cs hu => ?_
  apply wpS_seq
  apply wpS_region
  simp [wpOpsS, go_sem, recoverD, hu, Tryz.ntmps43, Exit.thenS]
  refine wpS_of_wp ?_
  simp only [Array.replicate_succ, Array.replicate_zero, List.push_toArray, List.append_toArray, List.nil_append, List.cons_append, List.setIfInBounds_toArray, List.set_cons_zero, List.set_cons_succ]
  go_wp2_with fail
  cases c₀
  simp_all [bodyPostS, results, Tryz.results43]
set_option maxRecDepth 100000 in
theorem catch_text (b : Nat) (x v : Int) (older : List PanicEntry) (w : World) (hB : BkS 30 w b [.int .i64 x]) :
    CallsD Tryz.prog 29 #[.pointer (some ⟨b, 0, none⟩)] (.panicking ({ v := .iface 97 (.int .i64 v), recovered := false } :: older)) w fun e u' w' =>
      e = .returned (.tuple #[]) ∧ u' = .panicking ({ v := .iface 97 (.int .i64 v), recovered := true } :: older) ∧ w' = w.setCell ⟨b, 0, none⟩ (.int .i64 v) := by
  have c0 : w.cell? ⟨b, 0, none⟩ = some (.int .i64 x) := hB.cell 0
  have f0 := hB.free 0
  have hn := iface_some 97 (.int .i64 v)
  have HT := Lib.hid (told16 v w)
  clear hB
  refine callsD_of_wpS Tryz.func29 rfl fun c₀ cs hu => ?_
  apply wpS_seq
  apply wpS_region
  simp [wpOpsS, go_sem, recoverD, hu, Tryz.ntmps29, Exit.thenS]
  refine wpS_of_wp ?_
  simp only [Array.replicate_succ, Array.replicate_zero, List.push_toArray, List.append_toArray, List.nil_append, List.cons_append, List.setIfInBounds_toArray, List.set_cons_zero, List.set_cons_succ]
  go_wp2_with (go_at_call 30; refine HT.out.mono ?_; rintro e w2 ⟨rfl, rfl⟩)
  simp [bodyPostS, results, Tryz.results29]
set_option maxRecDepth 100000 in
theorem idle_text (p : Value) (w : World) :
    CallsD Tryz.prog 29 #[p] .returning w fun e u' w' => e = .returned (.tuple #[]) ∧ u' = .returning ∧ w' = w := by
  have hn := iface_none
  refine callsD_of_wpS Tryz.func29 rfl fun c₀ cs hu => ?_
  apply wpS_seq
  apply wpS_region
  simp [wpOpsS, go_sem, recoverD, hu, Tryz.ntmps29, Exit.thenS]
  refine wpS_of_wp ?_
  simp only [Array.replicate_succ, Array.replicate_zero, List.push_toArray, List.append_toArray, List.nil_append, List.cons_append, List.setIfInBounds_toArray, List.set_cons_zero, List.set_cons_succ]
  go_wp2_with fail
  cases c₀
  simp_all [bodyPostS, results, Tryz.results29]
set_option maxRecDepth 100000 in
theorem catch_read (b : Nat) (x v : Int) (older : List PanicEntry) (w : World) (hB : BkS 30 w b [.int .i64 x]) :
    CallsD Tryz.prog 47 #[.pointer (some ⟨b, 0, none⟩)] (.panicking ({ v := .iface 97 (.int .i64 v), recovered := false } :: older)) w fun e u' w' =>
      e = .returned (.tuple #[]) ∧ u' = .panicking ({ v := .iface 97 (.int .i64 v), recovered := true } :: older) ∧ w' = w.setCell ⟨b, 0, none⟩ (.int .i64 v) := by
  have c0 : w.cell? ⟨b, 0, none⟩ = some (.int .i64 x) := hB.cell 0
  have f0 := hB.free 0
  have hn := iface_some 97 (.int .i64 v)
  have HT := Lib.hid (told16 v w)
  clear hB
  refine callsD_of_wpS Tryz.func47 rfl fun c₀ cs hu => ?_
  apply wpS_seq
  apply wpS_region
  simp [wpOpsS, go_sem, recoverD, hu, Tryz.ntmps47, Exit.thenS]
  refine wpS_of_wp ?_
  simp only [Array.replicate_succ, Array.replicate_zero, List.push_toArray, List.append_toArray, List.nil_append, List.cons_append, List.setIfInBounds_toArray, List.set_cons_zero, List.set_cons_succ]
  go_wp2_with (go_at_call 30; refine HT.out.mono ?_; rintro e w2 ⟨rfl, rfl⟩)
  simp [bodyPostS, results, Tryz.results47]
set_option maxRecDepth 100000 in
theorem idle_read (p : Value) (w : World) :
    CallsD Tryz.prog 47 #[p] .returning w fun e u' w' => e = .returned (.tuple #[]) ∧ u' = .returning ∧ w' = w := by
  have hn := iface_none
  refine callsD_of_wpS Tryz.func47 rfl fun c₀ cs hu => ?_
  apply wpS_seq
  apply wpS_region
  simp [wpOpsS, go_sem, recoverD, hu, Tryz.ntmps47, Exit.thenS]
  refine wpS_of_wp ?_
  simp only [Array.replicate_succ, Array.replicate_zero, List.push_toArray, List.append_toArray, List.nil_append, List.cons_append, List.setIfInBounds_toArray, List.set_cons_zero, List.set_cons_succ]
  go_wp2_with fail
  cases c₀
  simp_all [bodyPostS, results, Tryz.results47]
/-- The error of an event. -/
def errE (x : Ev) : Int := if mayE x then 0 else 2
theorem hold_no (x : Ev) (hx : OkE x) (hm : mayE x = false) (w : World) : Calls Tryz.prog 31 #[evV x] w fun e w' => e = .panicked [{ v := .iface 97 (.int .i64 2), recovered := false }] ∧ Adds w w' :=
  (hold_any x hx w).mono fun e w' h => by unfold HoldPost at h; rw [hm] at h; exact h
theorem hold_yes (x : Ev) (hx : OkE x) (hm : mayE x = true) (w : World) : Calls Tryz.prog 31 #[evV x] w fun e w' => (∃ v, e = .returned v ∧ PartsAt w' v (partsE x.k.toNat)) ∧ Adds w w' :=
  (hold_any x hx w).mono fun e w' h => by unfold HoldPost at h; rw [hm] at h; exact h
set_option maxRecDepth 100000 in
set_option maxHeartbeats 2000000 in
theorem check16 (x : Ev) (hx : OkE x) (w : World) : Calls Tryz.prog 12 #[evV x] w fun e w' => e = .returned (.int .i64 (errE x)) ∧ Adds w w' := by
  have hmf : ∀ (fn : Fn) (first cap : Array Value) (w : World), (Instr.makeFunc fn first cap).run Tryz.prog w = .ok (.func fn first cap) w := fun _ _ _ _ => rfl
  obtain ⟨w1, hw1⟩ : ∃ w1, (w.alloc (.cells (evC x).toArray 28)).alloc (.cells #[.int .i64 0] 30) = w1 := ⟨_, rfl⟩
  have HA1 := Lib.hid (show Adds w w1 by rw [← hw1]; exact ((Gr.new _ _).alloc _).adds)
  have HB1 := Lib.hid (show BkS 28 w1 w.heap.size (evC x) by rw [← hw1]; exact (BkS.new _ _ _).adds (Gr.new _ _).adds)
  have HB2 := Lib.hid (show BkS 30 w1 (w.heap.size + 1) [.int .i64 0] by rw [← hw1]; unfold BkS; exact heap_new1 _ _ _)
  unfold errE
  cases hm : mayE x
  · have HHc := Lib.hid (hold_no x hx hm w1)
    clear hm hx
    obtain ⟨g, k, f, p, a, c, o, n, t⟩ := x
    have i0 : w1.cell? ⟨w.heap.size, 0, none⟩ = some (.int .i64 g) := HB1.out.cell 0
    have i1 : w1.cell? ⟨w.heap.size, 1, none⟩ = some (.int .i64 k) := HB1.out.cell 1
    have i2 : w1.cell? ⟨w.heap.size, 2, none⟩ = some (.int .i64 f) := HB1.out.cell 2
    have i3 : w1.cell? ⟨w.heap.size, 3, none⟩ = some (.int .i64 p) := HB1.out.cell 3
    have i4 : w1.cell? ⟨w.heap.size, 4, none⟩ = some (.int .u32 a) := HB1.out.cell 4
    have i5 : w1.cell? ⟨w.heap.size, 5, none⟩ = some (.int .i64 c) := HB1.out.cell 5
    have i6 : w1.cell? ⟨w.heap.size, 6, none⟩ = some (.int .i64 o) := HB1.out.cell 6
    have i7 : w1.cell? ⟨w.heap.size, 7, none⟩ = some (.int .i64 n) := HB1.out.cell 7
    have i8 : w1.cell? ⟨w.heap.size, 8, none⟩ = some (.int .i64 t) := HB1.out.cell 8
    go_enter_defers Tryz.func12, Tryz.ntmps12
    go_wp2_with (go_at_call 31; refine HHc.out.mono ?_; rintro e w2 ⟨rfl, q⟩; have HA2 := Lib.hid q; clear q)
    have b2 := HB2.out.adds HA2.out
    have d0 : w2.cell? ⟨w.heap.size + 1, 0, none⟩ = some (.int .i64 0) := b2.cell 0
    refine leaves_cons (f := 42) (args := #[.pointer (some ⟨w.heap.size + 1, 0, none⟩)]) (by simp) (by simp [go_sem]) ?_
    refine (catch_check (w.heap.size + 1) 0 2 [] w2 b2).mono ?_
    rintro e u' w'' ⟨rfl, rfl, rfl⟩
    have hA := Adds.set (Adds.trans HA1.out HA2.out) (b := w.heap.size + 1) (by omega) 0 (.int .i64 2)
    simp [Leaves, settle, results, Tryz.results12, go_sem, d0]
    exact hA
  · have HHc := Lib.hid (hold_yes x hx hm w1)
    clear hm hx
    obtain ⟨g, k, f, p, a, c, o, n, t⟩ := x
    have i0 : w1.cell? ⟨w.heap.size, 0, none⟩ = some (.int .i64 g) := HB1.out.cell 0
    have i1 : w1.cell? ⟨w.heap.size, 1, none⟩ = some (.int .i64 k) := HB1.out.cell 1
    have i2 : w1.cell? ⟨w.heap.size, 2, none⟩ = some (.int .i64 f) := HB1.out.cell 2
    have i3 : w1.cell? ⟨w.heap.size, 3, none⟩ = some (.int .i64 p) := HB1.out.cell 3
    have i4 : w1.cell? ⟨w.heap.size, 4, none⟩ = some (.int .u32 a) := HB1.out.cell 4
    have i5 : w1.cell? ⟨w.heap.size, 5, none⟩ = some (.int .i64 c) := HB1.out.cell 5
    have i6 : w1.cell? ⟨w.heap.size, 6, none⟩ = some (.int .i64 o) := HB1.out.cell 6
    have i7 : w1.cell? ⟨w.heap.size, 7, none⟩ = some (.int .i64 n) := HB1.out.cell 7
    have i8 : w1.cell? ⟨w.heap.size, 8, none⟩ = some (.int .i64 t) := HB1.out.cell 8
    go_enter_defers Tryz.func12, Tryz.ntmps12
    go_wp2_with (go_at_call 31; refine HHc.out.mono ?_; rintro e w2 ⟨⟨v, rfl, _⟩, q⟩; have HA2 := Lib.hid q; have b2 := HB2.out.adds q; have d0 : w2.cell? ⟨w.heap.size + 1, 0, none⟩ = some (.int .i64 0) := b2.cell 0; have f0 := b2.free 0; clear q b2)
    refine leaves_cons (f := 42) (args := #[.pointer (some ⟨w.heap.size + 1, 0, none⟩)]) (by simp) (by simp [go_sem]) ?_
    refine (idle_check _ _).mono ?_
    rintro e u' w'' ⟨rfl, rfl, rfl⟩
    have hA := Adds.set (Adds.trans HA1.out HA2.out) (b := w.heap.size + 1) (by omega) 0 (.int .i64 0)
    simp [Leaves, settle, results, Tryz.results12, go_sem, d0]
    exact hA
end Go.Proofs.YtbinmgpfkjmijaaGreatDoor
