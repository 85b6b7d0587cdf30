/- every, of what a list covers, and of what may be a clock: its contract. -/
import Derived.Test.YtcimppggemdidaaDoorVE1
import Derived.Test.YtcimppggemdidaaDoorTurn
namespace Go.Proofs.YtcimppggemdidaaDoor
open Go Go.RowKit Go.Shelf
attribute [local go_sem] Oper.semAt_some

set_option maxRecDepth 100000 in
set_option maxHeartbeats 4000000 in
theorem every_cov {nb : Nat} (v : Value) (l : List UInt64) (v2 : Value) (lb : List UInt64) (w : World) (hv2 : Words nb w v2 lb) (hv : Words nb w v l) (z : Bool) (hz : (List.range l.length).all (fun i => decide (gD l i ≤ gD lb i)) = z) (hzero : ∀ i, gD l i = 0 → gD l i ≤ gD lb i) :
    Calls Tryd.prog 62 #[v, .func (.func 66) #[v2] #[]] w fun e w' => e = .returned (.bool z) ∧ Adds w w' := by
  obtain ⟨ao, cap, rfl, h1, h2, _⟩ := id hv
  have HV := Lib.hid hv.here; clear hv
  have HV2 := Lib.hid hv2.here; clear hv2
  have HZ := Lib.hid hz; clear hz
  have HZ0 := Lib.hid hzero; clear hzero
  refine (callsIn_wide (n := 6)).1 ?_
  refine callsIn_of_wp_marks Tryd.func62 rfl trivial ?_ rfl
  simp only [Tryd.ntmps62, List.size_toArray, List.length_cons, List.length_nil, Nat.reduceAdd, Nat.reduceSub, Array.replicate_succ, Array.replicate_zero, List.push_toArray, List.append_toArray, List.nil_append, List.cons_append]
  generalize hw0 : (w.alloc (.cells #[.func (.func 66) #[v2] #[]] 88)).alloc (.cells #[.bool false] 4) = w0
  have A0 := Lib.hid (hw0 ▸ (Adds.new _ _).trans (Adds.new _ _) : Adds w w0)
  have HS0 := Lib.hid (show w0.heap.size = w.heap.size + 2 by rw [← hw0]; simp)
  have HBF := Lib.hid (show Boxed w0 w.heap.size 88 (.func (.func 66) #[v2] #[]) from hw0 ▸ (Boxed.new w _ _).alloc _)
  have HBR := Lib.hid (show Boxed w0 (w.heap.size + 1) 4 (.bool false) from hw0 ▸ (by simpa using Boxed.new (w.alloc (.cells #[.func (.func 66) #[v2] #[]] 88)) 4 (.bool false)))
  gi_wp2_with (refine ⟨trivial, ?_⟩; gi_at_call 80; refine (callsIn_wide.2 (clocks_vany _ _ _ _)).mono ?_; rintro e w' ⟨rfl, rfl⟩)
  generalize hWb : World.alloc w0 _ = Wb
  have AB := Lib.hid (hWb ▸ (Adds.new w0 _) : Adds w0 Wb)
  have HSB := Lib.hid (show Wb.heap.size = w0.heap.size + 1 by rw [← hWb]; simp)
  have cb0 : Wb.cell? ⟨w0.heap.size, 0, none⟩ = some (.slice ao l.length cap) := by rw [← hWb]; simp
  clear hWb hw0
  have HFB := Lib.hid (boxed_adds HBF.out AB.out)
  have HRB := Lib.hid (boxed_adds HBR.out AB.out)
  have hsz := HSB.out
  have hsz0 := HS0.out
  refine' rangeFunc_S rfl (by omega) (gf := 103) (lb := #[.pointer (some ⟨w0.heap.size, 0, none⟩)]) rfl trivial (enters_of Tryd.func103 (by kernel_rfl) rfl)
    (clocksV_seq 5 (by omega) w0.heap.size (fun q => q = w.heap.size + 1) ao cap l Wb w.heap.size ((HV.out.below A0.out).below (AB.out.mono (by omega))) (by omega) (by omega) cb0)
    KeepC.trans (fun W l o o' _ h hc _ => KeepC.put W l o o' h hc) (Below.refl _ _) (fun _ => rfl)
    (fun pre V => Below Wb.heap.size Wb V ∧ ∀ i ∈ pre, gD l i ≤ gD lb i)
    (fun c _ V => c = .ret ∧ Below w.heap.size Wb V ∧ Boxed V (w.heap.size + 1) 4 (.bool false) ∧ Wb.heap.size ≤ V.heap.size ∧ ∃ i, i < l.length ∧ ¬ (gD l i ≤ gD lb i))
    ?own ?ownx ?h0 _ ?assign ?body ?done ?stop
  case own => exact fun s A B hs hb => ⟨hs.1.trans hb, hs.2⟩
  case ownx => exact fun c s A B hs hb => ⟨hs.1, hs.2.1.trans (hb.mono (by omega)), boxed_below hs.2.2.1 hb (by omega), Nat.le_trans hs.2.2.2.1 hb.size, hs.2.2.2.2⟩
  case h0 => exact ⟨Below.refl _ _, fun i hi => (by cases hi)⟩
  case assign =>
    intro l2 x W2 K hK
    have HK := Lib.hid hK; clear hK
    gi_wp2
    exact HK.out
  case body =>
    rintro l2 pre x W2 ⟨hb2, hp2⟩ ⟨hx1, hx2, hx3⟩
    have cf := (boxed_adds HFB.out hb2).cell
    have cr := (boxed_adds HRB.out hb2).cell
    have fr := (boxed_adds HRB.out hb2).frozen
    have HR2 := Lib.hid (boxed_adds HRB.out hb2)
    have HB2 := Lib.hid hb2; clear hb2
    have HP2 := Lib.hid hp2; clear hp2
    have HX := Lib.hid hx3; clear hx3 hx2
    have HC := Lib.hid (covers_any _ lb x (gD l x).toNat _ rfl W2 (((HV2.out.below A0.out).below (AB.out.mono (by omega))).below (HB2.out.mono (by omega))))
    rw [gI_nat, show decide ((gD l x).toNat ≤ (gD lb x).toNat) = decide ((fun i => gD l i ≤ gD lb i) x) by rw [decide_eq_decide]; exact UInt64.le_iff_toNat_le.symm] at HC
    have hd : 1 ≤ 6 - 1 - 1 := by omega
    have hsb2 := HB2.out.size
    cases hzx : decide ((fun i => gD l i ≤ gD lb i) x) with
    | true =>
      rw [hzx] at HC
      gi_wp2_with (refine ⟨trivial, ?_⟩; gi_at_call 66; refine (CallsIn.inRound l2 (callsIn_wide.2 HC.out)).mono ?_; rintro e w' ⟨rfl, rfl⟩)
      refine ⟨KeepsFrom.refl _ _, KeepC.refl _ _, HB2.out, fun i hi => ?_⟩
      rcases List.mem_append.1 hi with h | h
      · exact HP2.out i h
      · obtain rfl := List.mem_singleton.1 h
        exact of_decide_eq_true hzx
    | false =>
      rw [hzx] at HC
      gi_wp2_with (refine ⟨trivial, ?_⟩; gi_at_call 66; refine (CallsIn.inRound l2 (callsIn_wide.2 HC.out)).mono ?_; rintro e w' ⟨rfl, rfl⟩)
      exact ⟨(KeepsOthers.setCell _ _ _).from _, rfl, (HB2.out.mono (by omega)).setCell (p := ⟨w.heap.size + 1, 0, none⟩) (by show w.heap.size ≤ w.heap.size + 1; omega) _, HR2.out.set _, by simpa using hsb2, x, hx1, of_decide_eq_false hzx⟩
  case done =>
    rintro D xs W2 hD rfl ⟨hb2, hp2⟩ hK
    have cr := (boxed_adds HRB.out hb2).cell
    have fr := (boxed_adds HRB.out hb2).frozen
    have HR2 := Lib.hid (boxed_adds HRB.out hb2)
    have HB2 := Lib.hid hb2; clear hb2
    have HP2 := Lib.hid hp2; clear hp2
    gi_wp2
    show LeavesInM _ _ _ _ _ _ _ _ _
    have hms : Marks Wb.heap.size W2.heap.size (W2.setCell ⟨w.heap.size + 1, 0, none⟩ (.bool true)) [{ target := .collected D, args := #[] }] :=
      marks_setT (show Marks Wb.heap.size W2.heap.size W2 [{ target := .collected D, args := #[] }] from ⟨D, rfl, hD, (Array.getElem?_eq_some_iff.1 hK).1, hK, trivial⟩) (by omega) _
    refine marks_leave _ _ _ hms fun W'' hb'' => ⟨.bool true, results_box rfl Tryd.underlying4 _ _ _ (.bool true) rfl (boxed_below (HR2.out.set (.bool true)) hb'' (by omega)).cell, ?_, ?_⟩
    · rw [← HZ.out]
      congr 2
      symm
      rw [List.all_eq_true]
      intro i hi
      refine decide_eq_true ?_
      by_cases h0 : gD l i = 0
      · exact HZ0.out i h0
      · exact HP2.out i (nzT_mem.2 ⟨List.mem_range.1 hi, h0⟩)
    · exact Below.trans A0.out ((show Below w.heap.size w0 Wb from AB.out.mono (by omega)).trans (((HB2.out.mono (by omega)).setCell (p := ⟨w.heap.size + 1, 0, none⟩) (by show w.heap.size ≤ w.heap.size + 1; omega) _).trans (hb''.mono (by omega))))
  case stop =>
    rintro D c pre W2 hD hpre ⟨rfl, hb2, hr2, hs2, hn2⟩ hK
    have HR2 := Lib.hid hr2; clear hr2
    have HB2 := Lib.hid hb2; clear hb2
    gi_wp2
    show LeavesInM _ _ _ _ _ _ _ _ _
    have hms : Marks Wb.heap.size W2.heap.size W2 [{ target := .collected D, args := #[] }] :=
      ⟨D, rfl, hD, (Array.getElem?_eq_some_iff.1 hK).1, hK, trivial⟩
    refine marks_leave _ _ _ hms fun W'' hb'' => ⟨.bool false, results_box rfl Tryd.underlying4 _ _ _ (.bool false) rfl (boxed_below HR2.out hb'' (by omega)).cell, ?_, ?_⟩
    · rw [← HZ.out]
      congr 2
      symm
      rw [List.all_eq_false]
      obtain ⟨i, hi, hn⟩ := hn2
      exact ⟨i, List.mem_range.2 hi, by simpa using hn⟩
    · exact Below.trans A0.out ((show Below w.heap.size w0 Wb from AB.out.mono (by omega)).trans (HB2.out.trans (hb''.mono (by omega))))

set_option maxRecDepth 100000 in
set_option maxHeartbeats 4000000 in
theorem every_clk {nb : Nat} (v : Value) (l : List UInt64)  (w : World) (hv : Words nb w v l) (z : Bool) (hz : (List.range l.length).all (fun i => decide ((gD l i).toNat ≤ 281474976710655)) = z) (hzero : ∀ i, gD l i = 0 → (gD l i).toNat ≤ 281474976710655) :
    Calls Tryd.prog 62 #[v, .func (.func 63) #[] #[]] w fun e w' => e = .returned (.bool z) ∧ Adds w w' := by
  obtain ⟨ao, cap, rfl, h1, h2, _⟩ := id hv
  have HV := Lib.hid hv.here; clear hv
  
  have HZ := Lib.hid hz; clear hz
  have HZ0 := Lib.hid hzero; clear hzero
  refine (callsIn_wide (n := 6)).1 ?_
  refine callsIn_of_wp_marks Tryd.func62 rfl trivial ?_ rfl
  simp only [Tryd.ntmps62, List.size_toArray, List.length_cons, List.length_nil, Nat.reduceAdd, Nat.reduceSub, Array.replicate_succ, Array.replicate_zero, List.push_toArray, List.append_toArray, List.nil_append, List.cons_append]
  generalize hw0 : (w.alloc (.cells #[.func (.func 63) #[] #[]] 88)).alloc (.cells #[.bool false] 4) = w0
  have A0 := Lib.hid (hw0 ▸ (Adds.new _ _).trans (Adds.new _ _) : Adds w w0)
  have HS0 := Lib.hid (show w0.heap.size = w.heap.size + 2 by rw [← hw0]; simp)
  have HBF := Lib.hid (show Boxed w0 w.heap.size 88 (.func (.func 63) #[] #[]) from hw0 ▸ (Boxed.new w _ _).alloc _)
  have HBR := Lib.hid (show Boxed w0 (w.heap.size + 1) 4 (.bool false) from hw0 ▸ (by simpa using Boxed.new (w.alloc (.cells #[.func (.func 63) #[] #[]] 88)) 4 (.bool false)))
  gi_wp2_with (refine ⟨trivial, ?_⟩; gi_at_call 80; refine (callsIn_wide.2 (clocks_vany _ _ _ _)).mono ?_; rintro e w' ⟨rfl, rfl⟩)
  generalize hWb : World.alloc w0 _ = Wb
  have AB := Lib.hid (hWb ▸ (Adds.new w0 _) : Adds w0 Wb)
  have HSB := Lib.hid (show Wb.heap.size = w0.heap.size + 1 by rw [← hWb]; simp)
  have cb0 : Wb.cell? ⟨w0.heap.size, 0, none⟩ = some (.slice ao l.length cap) := by rw [← hWb]; simp
  clear hWb hw0
  have HFB := Lib.hid (boxed_adds HBF.out AB.out)
  have HRB := Lib.hid (boxed_adds HBR.out AB.out)
  have hsz := HSB.out
  have hsz0 := HS0.out
  refine' rangeFunc_S rfl (by omega) (gf := 103) (lb := #[.pointer (some ⟨w0.heap.size, 0, none⟩)]) rfl trivial (enters_of Tryd.func103 (by kernel_rfl) rfl)
    (clocksV_seq 5 (by omega) w0.heap.size (fun q => q = w.heap.size + 1) ao cap l Wb w.heap.size ((HV.out.below A0.out).below (AB.out.mono (by omega))) (by omega) (by omega) cb0)
    KeepC.trans (fun W l o o' _ h hc _ => KeepC.put W l o o' h hc) (Below.refl _ _) (fun _ => rfl)
    (fun pre V => Below Wb.heap.size Wb V ∧ ∀ i ∈ pre, (gD l i).toNat ≤ 281474976710655)
    (fun c _ V => c = .ret ∧ Below w.heap.size Wb V ∧ Boxed V (w.heap.size + 1) 4 (.bool false) ∧ Wb.heap.size ≤ V.heap.size ∧ ∃ i, i < l.length ∧ ¬ ((gD l i).toNat ≤ 281474976710655))
    ?own ?ownx ?h0 _ ?assign ?body ?done ?stop
  case own => exact fun s A B hs hb => ⟨hs.1.trans hb, hs.2⟩
  case ownx => exact fun c s A B hs hb => ⟨hs.1, hs.2.1.trans (hb.mono (by omega)), boxed_below hs.2.2.1 hb (by omega), Nat.le_trans hs.2.2.2.1 hb.size, hs.2.2.2.2⟩
  case h0 => exact ⟨Below.refl _ _, fun i hi => (by cases hi)⟩
  case assign =>
    intro l2 x W2 K hK
    have HK := Lib.hid hK; clear hK
    gi_wp2
    exact HK.out
  case body =>
    rintro l2 pre x W2 ⟨hb2, hp2⟩ ⟨hx1, hx2, hx3⟩
    have cf := (boxed_adds HFB.out hb2).cell
    have cr := (boxed_adds HRB.out hb2).cell
    have fr := (boxed_adds HRB.out hb2).frozen
    have HR2 := Lib.hid (boxed_adds HRB.out hb2)
    have HB2 := Lib.hid hb2; clear hb2
    have HP2 := Lib.hid hp2; clear hp2
    have HX := Lib.hid hx3; clear hx3 hx2
    have HC := Lib.hid (isClock_any x (gD l x).toNat _ rfl W2)
    rw [show decide ((gD l x).toNat ≤ 281474976710655) = decide ((fun i => (gD l i).toNat ≤ 281474976710655) x) from rfl] at HC
    have hd : 1 ≤ 6 - 1 - 1 := by omega
    have hsb2 := HB2.out.size
    cases hzx : decide ((fun i => (gD l i).toNat ≤ 281474976710655) x) with
    | true =>
      rw [hzx] at HC
      gi_wp2_with (refine ⟨trivial, ?_⟩; gi_at_call 63; refine (CallsIn.inRound l2 (callsIn_wide.2 HC.out)).mono ?_; rintro e w' ⟨rfl, rfl⟩)
      refine ⟨KeepsFrom.refl _ _, KeepC.refl _ _, HB2.out, fun i hi => ?_⟩
      rcases List.mem_append.1 hi with h | h
      · exact HP2.out i h
      · obtain rfl := List.mem_singleton.1 h
        exact of_decide_eq_true hzx
    | false =>
      rw [hzx] at HC
      gi_wp2_with (refine ⟨trivial, ?_⟩; gi_at_call 63; refine (CallsIn.inRound l2 (callsIn_wide.2 HC.out)).mono ?_; rintro e w' ⟨rfl, rfl⟩)
      exact ⟨(KeepsOthers.setCell _ _ _).from _, rfl, (HB2.out.mono (by omega)).setCell (p := ⟨w.heap.size + 1, 0, none⟩) (by show w.heap.size ≤ w.heap.size + 1; omega) _, HR2.out.set _, by simpa using hsb2, x, hx1, of_decide_eq_false hzx⟩
  case done =>
    rintro D xs W2 hD rfl ⟨hb2, hp2⟩ hK
    have cr := (boxed_adds HRB.out hb2).cell
    have fr := (boxed_adds HRB.out hb2).frozen
    have HR2 := Lib.hid (boxed_adds HRB.out hb2)
    have HB2 := Lib.hid hb2; clear hb2
    have HP2 := Lib.hid hp2; clear hp2
    gi_wp2
    show LeavesInM _ _ _ _ _ _ _ _ _
    have hms : Marks Wb.heap.size W2.heap.size (W2.setCell ⟨w.heap.size + 1, 0, none⟩ (.bool true)) [{ target := .collected D, args := #[] }] :=
      marks_setT (show Marks Wb.heap.size W2.heap.size W2 [{ target := .collected D, args := #[] }] from ⟨D, rfl, hD, (Array.getElem?_eq_some_iff.1 hK).1, hK, trivial⟩) (by omega) _
    refine marks_leave _ _ _ hms fun W'' hb'' => ⟨.bool true, results_box rfl Tryd.underlying4 _ _ _ (.bool true) rfl (boxed_below (HR2.out.set (.bool true)) hb'' (by omega)).cell, ?_, ?_⟩
    · rw [← HZ.out]
      congr 2
      symm
      rw [List.all_eq_true]
      intro i hi
      refine decide_eq_true ?_
      by_cases h0 : gD l i = 0
      · exact HZ0.out i h0
      · exact HP2.out i (nzT_mem.2 ⟨List.mem_range.1 hi, h0⟩)
    · exact Below.trans A0.out ((show Below w.heap.size w0 Wb from AB.out.mono (by omega)).trans (((HB2.out.mono (by omega)).setCell (p := ⟨w.heap.size + 1, 0, none⟩) (by show w.heap.size ≤ w.heap.size + 1; omega) _).trans (hb''.mono (by omega))))
  case stop =>
    rintro D c pre W2 hD hpre ⟨rfl, hb2, hr2, hs2, hn2⟩ hK
    have HR2 := Lib.hid hr2; clear hr2
    have HB2 := Lib.hid hb2; clear hb2
    gi_wp2
    show LeavesInM _ _ _ _ _ _ _ _ _
    have hms : Marks Wb.heap.size W2.heap.size W2 [{ target := .collected D, args := #[] }] :=
      ⟨D, rfl, hD, (Array.getElem?_eq_some_iff.1 hK).1, hK, trivial⟩
    refine marks_leave _ _ _ hms fun W'' hb'' => ⟨.bool false, results_box rfl Tryd.underlying4 _ _ _ (.bool false) rfl (boxed_below HR2.out hb'' (by omega)).cell, ?_, ?_⟩
    · rw [← HZ.out]
      congr 2
      symm
      rw [List.all_eq_false]
      obtain ⟨i, hi, hn⟩ := hn2
      exact ⟨i, List.mem_range.2 hi, by simpa using hn⟩
    · exact Below.trans A0.out ((show Below w.heap.size w0 Wb from AB.out.mono (by omega)).trans (HB2.out.trans (hb''.mono (by omega))))
end Go.Proofs.YtcimppggemdidaaDoor
