/- The law EpochEach, walked: all its ways. -/
import Derived.Test.YtlbloehhmpnkgaaDoorKELok
import Derived.Test.YtlbloehhmpnkgaaDoorKELneg
import Derived.Test.YtlbloehhmpnkgaaDoorKELlow
import Derived.Test.YtlbloehhmpnkgaaDoorKELhigh
namespace Go.Proofs.YtlbloehhmpnkgaaDoor
open Go Go.RowKit Go.Shelf
attribute [local go_sem] Oper.semAt_some

set_option maxRecDepth 100000 in
set_option maxHeartbeats 8000000 in
theorem law_each_out (e : Nat) (f : Int) (many : Int) (w : World) (hv : EpVars w) (h : f < -1 ∨ 300 < f) :
    Calls Tryd.prog 8 #[.int .u64 e, .int .i64 f, .int .i64 many] w (TrueAdds w) := by
  have HVV := Lib.hid hv; clear hv
  refine (callsIn_wide (n := 6)).1 ?_
  refine callsIn_of_wp_marks Tryd.func8 rfl trivial ?_ rfl
  simp only [Tryd.ntmps8, List.size_toArray, List.length_cons, List.length_nil, Nat.reduceAdd, Nat.reduceSub, Array.replicate_succ, Array.replicate_zero, List.push_toArray, List.append_toArray, List.nil_append, List.cons_append]
  generalize hw0 : ((w.alloc (.cells #[.int .u64 e] 48)).alloc (.cells #[.int .i64 many] 3)).alloc (.cells #[.bool false] 4) = w0
  have hbx : Boxes3 w w0 48 3 4 (.int .u64 e) (.int .i64 many) (.bool false) := hw0 ▸ Boxes3.new w _ _ _ _ _ _
  have A0 := Lib.hid (hw0 ▸ (Adds.new _ _).trans ((Adds.new _ _).trans (Adds.new _ _)) : Adds w w0)
  have HBX := Lib.hid hbx; clear hbx
  have HS0 := Lib.hid (show w0.heap.size = w.heap.size + 3 by rw [← hw0]; simp)
  have HK := Lib.hid (works3_any w0 (HVV.out.below A0.out))
  rcases Int.lt_or_le f (-1) with h1 | h1
  · clear h
    gi_wp2_with (refine ⟨trivial, ?_⟩; gi_at_call 29; refine (callsIn_wide.2 HK.out).mono ?_; rintro z w1 ⟨rfl, a1⟩; have c41 := (boxed_adds HBX.out.r a1).cell; have f41 := (boxed_adds HBX.out.r a1).frozen; have A1 := Lib.hid a1; clear a1)
    refine ⟨_, results_box rfl Tryd.underlying4 _ _ _ (.bool true) rfl (World.cell?_setCell_same _ _ _ c41), rfl, ?_⟩
    exact (A0.out.trans A1.out).setCell (by show w.heap.size ≤ w.heap.size + 1 + 1; omega) _
  · have h2 : 300 < f := by omega
    clear h
    gi_wp2_with (refine ⟨trivial, ?_⟩; gi_at_call 29; refine (callsIn_wide.2 HK.out).mono ?_; rintro z w1 ⟨rfl, a1⟩; have c41 := (boxed_adds HBX.out.r a1).cell; have f41 := (boxed_adds HBX.out.r a1).frozen; have A1 := Lib.hid a1; clear a1)
    refine ⟨_, results_box rfl Tryd.underlying4 _ _ _ (.bool true) rfl (World.cell?_setCell_same _ _ _ c41), rfl, ?_⟩
    exact (A0.out.trans A1.out).setCell (by show w.heap.size ≤ w.heap.size + 1 + 1; omega) _

theorem law_each3 (e : Nat) (he : e < 18446744073709551616) (f : Int) (many : Int) (w : World) (hv : EpVars w) :
    Calls Tryd.prog 8 #[.int .u64 e, .int .i64 f, .int .i64 many] w (TrueAdds w) := by
  by_cases h : f < -1 ∨ 300 < f
  · exact law_each_out e f many w hv h
  · by_cases h1 : f = -1
    · exact law_each_neg e he f many w hv h1
    · obtain ⟨m, hm⟩ : ∃ m : Nat, (m : Int) = ((eC e : Nat) : Int) + f := ⟨(((eC e : Nat) : Int) + f).toNat, by omega⟩
      by_cases h2 : m = 0
      · exact law_each_low e he f many w hv (by omega) (by omega)
      · by_cases h3 : m < 281474976710656
        · exact law_each_ok e he f many w hv m (by omega) (by omega) hm (by omega) h3
        · exact law_each_high e he f many w hv m (by omega) (by omega) hm (by omega)
end Go.Proofs.YtlbloehhmpnkgaaDoor
