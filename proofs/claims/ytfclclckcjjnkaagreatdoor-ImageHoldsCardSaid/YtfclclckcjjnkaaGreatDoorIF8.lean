/- Check: what is given up is told: contract. -/
import Derived.Defers
import Derived.Recover
import Derived.Test.YtfclclckcjjnkaaGreatDoorIF7
namespace Go.Proofs.YtfclclckcjjnkaaGreatDoor
open Go Go.RowKit Go.Shelf Go.Lib

set_option maxRecDepth 100000 in
theorem told8 (v : Int) (w : World) : Calls Tryz.prog 178 #[.iface 278 (.int .i64 v)] w fun e w' => e = .returned (.int .i64 v) ∧ w = w' := by
  have ht : ∀ w : World, (Instr.typeAssert (.iface 278 (.int .i64 v)) 20 278 false).run Tryz.prog w = .ok (.int .i64 v) w := fun _ => by kernel_rfl
  go_enter Tryz.func178, Tryz.ntmps178
  go_wp2
  go_ret
  exact ⟨rfl, rfl⟩
theorem iface_some (t : TypeId) (v : Value) (w : World) : (binOp .neq 20 (.iface t v) .nilIface).run Tryz.prog w = .ok (.bool true) w := by kernel_rfl
theorem iface_none (w : World) : (binOp .neq 20 .nilIface .nilIface).run Tryz.prog w = .ok (.bool false) w := by kernel_rfl
set_option maxRecDepth 100000 in
theorem catch_check (b : Nat) (x v : Int) (older : List PanicEntry) (w : World) (hB : BkS 28 w b [.int .i64 x]) :
    CallsD Tryz.prog 184 #[.pointer (some ⟨b, 0, none⟩)] (.panicking ({ v := .iface 278 (.int .i64 v), recovered := false } :: older)) w fun e u' w' =>
      e = .returned (.tuple #[]) ∧ u' = .panicking ({ v := .iface 278 (.int .i64 v), recovered := true } :: older) ∧ w' = w.setCell ⟨b, 0, none⟩ (.int .i64 v) := by
  have c0 : w.cell? ⟨b, 0, none⟩ = some (.int .i64 x) := hB.cell 0
  have f0 := hB.free 0
  have hn := iface_some 278 (.int .i64 v)
  have HT := Lib.hid (told8 v w)
  clear hB
  refine callsD_of_wpS Tryz.func184 rfl fun c₀ cs hu => ?_
  apply wpS_seq
  apply wpS_region
  simp [wpOpsS, go_sem, recoverD, hu, Tryz.ntmps184, Exit.thenS]
  refine wpS_of_wp ?_
  simp only [Array.replicate_succ, Array.replicate_zero, List.push_toArray, List.append_toArray, List.nil_append, List.cons_append, List.setIfInBounds_toArray, List.set_cons_zero, List.set_cons_succ]
  go_wp2_with (go_at_call 178; refine HT.out.mono ?_; rintro e w2 ⟨rfl, rfl⟩)
  simp [bodyPostS, results, Tryz.results184]
set_option maxRecDepth 100000 in
theorem idle_check (p : Value) (w : World) :
    CallsD Tryz.prog 184 #[p] .returning w fun e u' w' => e = .returned (.tuple #[]) ∧ u' = .returning ∧ w' = w := by
  have hn := iface_none
  refine callsD_of_wpS Tryz.func184 rfl fun c₀ cs hu => ?_
  apply wpS_seq
  apply wpS_region
  simp [wpOpsS, go_sem, recoverD, hu, Tryz.ntmps184, Exit.thenS]
  refine wpS_of_wp ?_
  simp only [Array.replicate_succ, Array.replicate_zero, List.push_toArray, List.append_toArray, List.nil_append, List.cons_append, List.setIfInBounds_toArray, List.set_cons_zero, List.set_cons_succ]
  go_wp2_with fail
  cases c₀
  simp_all [bodyPostS, results, Tryz.results184]
/-- The error of an instruction. -/
def errI (x : In) : Int := if mayI x then 0 else 2
set_option maxRecDepth 100000 in
set_option maxHeartbeats 2000000 in
theorem check8 (x : In) (hx : OkIn x) (w : World) : Calls Tryz.prog 150 #[insV x] w fun e w' => e = .returned (.int .i64 (errI x)) ∧ Adds w w' := by
  have hmf : ∀ (fn : Fn) (first cap : Array Value) (w : World), (Instr.makeFunc fn first cap).run Tryz.prog w = .ok (.func fn first cap) w := fun _ _ _ _ => rfl
  obtain ⟨w1, hw1⟩ : ∃ w1, (w.alloc (.cells (insC x).toArray 82)).alloc (.cells #[.int .i64 0] 28) = w1 := ⟨_, rfl⟩
  have HA1 := Lib.hid (show Adds w w1 by rw [← hw1]; exact ((Gr.new _ _).alloc _).adds)
  have HB1 := Lib.hid (show BkS 82 w1 w.heap.size (insC x) by rw [← hw1]; exact (BkS.new _ _ _).adds (Gr.new _ _).adds)
  have HB2 := Lib.hid (show BkS 28 w1 (w.heap.size + 1) [.int .i64 0] by rw [← hw1]; unfold BkS; exact heap_new1 _ _ _)
  have HH := Lib.hid (hold8 x hx w1)
  unfold errI
  obtain ⟨xo, xa, xb, xc, xi⟩ := x
  have i0 : w1.cell? ⟨w.heap.size, 0, none⟩ = some (.int .i64 xo) := HB1.out.cell 0
  have i1 : w1.cell? ⟨w.heap.size, 1, none⟩ = some (.int .i64 xa) := HB1.out.cell 1
  have i2 : w1.cell? ⟨w.heap.size, 2, none⟩ = some (.int .i64 xb) := HB1.out.cell 2
  have i3 : w1.cell? ⟨w.heap.size, 3, none⟩ = some (.int .i64 xc) := HB1.out.cell 3
  have i4 : w1.cell? ⟨w.heap.size, 4, none⟩ = some (.int .u32 xi) := HB1.out.cell 4
  cases hm : mayI (xo, xa, xb, xc, xi)
  · rw [hm] at HH
    have HHc := Lib.hid (show Calls Tryz.prog 185 #[insV (xo, xa, xb, xc, xi)] w1 fun e w' => e = .panicked [{ v := .iface 278 (.int .i64 2), recovered := false }] ∧ Adds w1 w' from HH.out.mono fun e w' h => by simpa [HoldPost] using h)
    clear HH hm
    go_enter_defers Tryz.func150, Tryz.ntmps150
    go_wp2_with (go_at_call 185; refine HHc.out.mono ?_; rintro e w2 ⟨rfl, q⟩; have HA2 := Lib.hid q; clear q)
    have b2 := HB2.out.adds HA2.out
    have d0 : w2.cell? ⟨w.heap.size + 1, 0, none⟩ = some (.int .i64 0) := b2.cell 0
    refine leaves_cons (f := 184) (args := #[.pointer (some ⟨w.heap.size + 1, 0, none⟩)]) (by simp) (by simp [go_sem]) ?_
    refine (catch_check (w.heap.size + 1) 0 2 [] w2 b2).mono ?_
    rintro e u' w'' ⟨rfl, rfl, rfl⟩
    have hA := Adds.set (Adds.trans HA1.out HA2.out) (b := w.heap.size + 1) (by omega) 0 (.int .i64 2)
    simp [Leaves, settle, results, Tryz.results150, go_sem, d0]
    exact hA
  · rw [hm] at HH
    have HHc := Lib.hid (show Calls Tryz.prog 185 #[insV (xo, xa, xb, xc, xi)] w1 fun e w' => e = .returned (.tuple #[]) ∧ Adds w1 w' from HH.out.mono fun e w' h => by simpa [HoldPost] using h)
    clear HH hm
    go_enter_defers Tryz.func150, Tryz.ntmps150
    go_wp2_with (go_at_call 185; refine HHc.out.mono ?_; rintro e w2 ⟨rfl, q⟩; have HA2 := Lib.hid q; have b2 := HB2.out.adds q; have d0 : w2.cell? ⟨w.heap.size + 1, 0, none⟩ = some (.int .i64 0) := b2.cell 0; have f0 := b2.free 0; clear q b2)
    refine leaves_cons (f := 184) (args := #[.pointer (some ⟨w.heap.size + 1, 0, none⟩)]) (by simp) (by simp [go_sem]) ?_
    refine (idle_check _ _).mono ?_
    rintro e u' w'' ⟨rfl, rfl, rfl⟩
    have hA := Adds.set (Adds.trans HA1.out HA2.out) (b := w.heap.size + 1) (by omega) 0 (.int .i64 0)
    simp [Leaves, settle, results, Tryz.results150, go_sem, d0]
    exact hA
end Go.Proofs.YtfclclckcjjnkaaGreatDoor
