/- A vector under way: take. -/
import Derived.Test.YtcimppggemdidaaDoorVE1
import Derived.Test.YtcimppggemdidaaDoorVG1
namespace Go.Proofs.YtcimppggemdidaaDoor
open Go Go.RowKit Go.Shelf
attribute [local go_sem] Oper.semAt_some

def TakePost (base bg : Nat) (s c : List UInt64) (w : World) (e : Ending) (w' : World) : Prop :=
  e = .returned (.pointer (some ⟨bg, 0, none⟩)) ∧ ∃ v', Boxed w' bg gT v' ∧ OwnW w' base v' (vTake s c) ∧ Below base w w'

set_option maxRecDepth 100000 in
set_option maxHeartbeats 4000000 in
theorem take_any (base bg : Nat) (v vc : Value) (s c : List UInt64) (w : World) (hx : Boxed w bg gT v) (ho : OwnW w base v s) (hb : base ≤ bg) (hvc : Words base w vc c) (hs : s.length ≤ 200000) (hc : c.length ≤ 200000) :
    Calls Tryd.prog 70 #[.pointer (some ⟨bg, 0, none⟩), vc] w (TakePost base bg s c w) := by
  obtain ⟨ao, cap, rfl, _, _, _⟩ := id hvc
  have htn := tN_le c
  have hbs := hx.lt
  have HX := Lib.hid hx; clear hx
  have HO := Lib.hid ho; clear ho
  have HV := Lib.hid hvc; clear hvc
  refine (callsIn_wide (n := 6)).1 ?_
  refine callsIn_of_wp_marks Tryd.func70 rfl trivial ?_ rfl
  simp only [Tryd.ntmps70, List.size_toArray, List.length_cons, List.length_nil, Nat.reduceAdd, Nat.reduceSub, Array.replicate_succ, Array.replicate_zero, List.push_toArray, List.append_toArray, List.nil_append, List.cons_append]
  generalize hw0 : (w.alloc (.cells #[.pointer (some ⟨bg, 0, none⟩)] 108)) = w0
  have A0 := Lib.hid (hw0 ▸ (Adds.new _ _) : Adds w w0)
  have HS0 := Lib.hid (show w0.heap.size = w.heap.size + 1 by rw [← hw0]; simp)
  have HBP := Lib.hid (show Boxed w0 w.heap.size 108 (.pointer (some ⟨bg, 0, none⟩)) from hw0 ▸ Boxed.new w _ _)
  have cg := HBP.out.cell
  have HX0 := Lib.hid (boxed_adds HX.out A0.out)
  have HO0 := Lib.hid (HO.out.adds A0.out)
  have HV0 := Lib.hid (show Words base w0 (.slice ao c.length cap) c from HV.out.below (A0.out.mono (by omega)))
  have HT := Lib.hid (fun W (h : Adds w0 W) => trimmed_any _ c W (HV0.out.below (h.mono (by have := HS0.out; omega))))
  have HR := Lib.hid (fun W (h : W = w0.drew) => reach_any base bg (tN c) v s W (h ▸ HX0.out) (h ▸ HO0.out) hb (by omega) (by omega))
  have cgd : w0.drew.cell? ⟨w.heap.size, 0, none⟩ = some (.pointer (some ⟨bg, 0, none⟩)) := cg
  have hmx : Tryd.prog.follows .mixedOrders = true := by kernel_rfl
  gi_wp2
  rename_i K1 hK1
  refine wpIn_mono (Q := fun e a' w' => match e with | .normal => (∃ u v1 : Value, a' = { tmps := #[Value.pointer (some { block := bg, off := 0 }), Value.slice ao c.length cap, Value.pointer (some { block := w.heap.size, off := 0 }), undef, Value.pointer none, undef, undef, Value.pointer (some { block := bg, off := 0 }), Value.slice ao c.length cap, Value.int IntKind.i64 (tN c : Nat), u, undef, undef, undef, undef, undef, undef, undef, undef, undef], defers := [] } ∧ Boxed w' bg gT v1 ∧ OwnW w' base v1 (vReach (tN c) s) ∧ Below base w0 w' ∧ Boxed w' w.heap.size 108 (.pointer (some ⟨bg, 0, none⟩))) | _ => False) ?_ ?_
  · gi_region_with_o (first
      | (refine ⟨trivial, ?_⟩; gi_at_call 102; refine (callsIn_wide.2 (HT.out _ (Adds.drew _))).mono ?_; rintro e w' ⟨rfl, rfl⟩)
      | (refine ⟨trivial, ?_⟩; gi_at_call 101; refine (callsIn_wide.2 (HR.out _ rfl)).mono ?_; rintro e w1 ⟨⟨u, rfl⟩, v1, x1, o1, b1, _, k1⟩; have X1 := Lib.hid x1; have O1 := Lib.hid o1; have K1 := Lib.hid k1; have B1 := Lib.hid (show Below base w0 w1 from (Below.refl base w0).drew.trans b1); clear x1 o1 b1 k1))
    all_goals exact ⟨_, _, rfl, X1.out, O1.out, B1.out, (K1.out w.heap.size (by have := HS0.out; show w.heap.size < w0.heap.size; omega) (by omega) (fun e => by have := (World.ownsRow.lt HO.out _ e.symm).2; omega)).trans HBP.out⟩
  · rintro e a' w1 hq
    cases e with
    | normal =>
      obtain ⟨u, v1, rfl, x1, o1, b1, p1⟩ := hq
      refine hK1 _ _ ?_
      clear hK1 K1
      have X1 := Lib.hid x1; have O1 := Lib.hid o1; have B1 := Lib.hid b1; have P1 := Lib.hid p1; clear x1 o1 b1 p1
      gi_wp2_with (refine ⟨trivial, ?_⟩; gi_at_call 80; refine (callsIn_wide.2 (clocks_vany _ _ _ _)).mono ?_; rintro e w' ⟨rfl, rfl⟩)
      generalize hWb : World.alloc w1 _ = Wb
      have AB := Lib.hid (hWb ▸ (Adds.new w1 _) : Adds w1 Wb)
      have HSB := Lib.hid (show Wb.heap.size = w1.heap.size + 1 by rw [← hWb]; simp)
      have cb0 : Wb.cell? ⟨w1.heap.size, 0, none⟩ = some (.slice ao c.length cap) := by rw [← hWb]; simp
      clear hWb hw0
      have XB := Lib.hid (boxed_adds X1.out AB.out)
      have OB := Lib.hid (O1.out.adds AB.out)
      have hsz := HSB.out
      have hsz0 := HS0.out
      have hsz1 := B1.out.size
      have hlo := World.ownsRow.lt O1.out
      have hbb : base ≤ w1.heap.size := by omega
      have PB := Lib.hid (boxed_adds P1.out AB.out)
      refine' rangeFunc_S rfl (by omega) (gf := 103) (lb := #[.pointer (some ⟨w1.heap.size, 0, none⟩)]) rfl trivial (enters_of Tryd.func103 (by kernel_rfl) rfl)
        (clocksV_seq 5 (by omega) w1.heap.size (fun q => some q = v1.ownBlock) ao cap c Wb base ((HV0.out.below B1.out).below (AB.out.mono hbb)) (fun b o hb' _ hm => by have := (hlo b hm.symm).1; omega) (fun hm => by have := (hlo _ hm.symm).2; omega) cb0)
        KeepC.trans (fun W l o o' _ h hc _ => KeepC.put W l o o' h hc) (Below.refl _ _) (fun _ => rfl)
        (fun pre V => Below base Wb V ∧ Boxed V w.heap.size 108 (.pointer (some ⟨bg, 0, none⟩)) ∧ Boxed V bg gT v1 ∧ OwnW V base v1 (rz c (vReach (tN c) s) pre) ∧ Wb.heap.size ≤ V.heap.size)
        (fun _ _ _ => False)
        ?own ?ownx ?h0 _ ?assign ?body ?done ?stop
      case own => exact fun s A B hs hb => ⟨hs.1.trans (hb.mono (by omega)), boxed_below hs.2.1 hb (by omega), boxed_below hs.2.2.1 hb (by omega), row_below hs.2.2.2.1 hb (fun g hg => by have := (hlo g hg).2; omega), Nat.le_trans hs.2.2.2.2 hb.size⟩
      case ownx => exact fun c s A B hs hb => hs.elim
      case h0 => exact ⟨Below.refl _ _, PB.out, XB.out, OB.out, Nat.le_refl _⟩
      case assign =>
        intro l2 x W2 K hK
        have HK := Lib.hid hK; clear hK
        gi_wp2
        exact HK.out
      case body =>
        rintro l2 pre x W2 ⟨hb2, hp2, hx2, ho2, hs2⟩ ⟨hy1, hy2, hy3⟩
        obtain ⟨hr1, _⟩ := rz_at c (vReach (tN c) s) (by rw [reach_length]; omega) x
        rw [← hy3] at hr1
        have hxl : x < (rz c (vReach (tN c) s) pre).length := by rw [hr1, reach_length]; have := nz_lt hy2; omega
        have HC := Lib.hid (raise_any base bg x v1 (rz c (vReach (tN c) s) pre) (gD c x) W2 hx2 ho2 hb (by omega) (by rw [hr1, reach_length]; omega))
        have cp := hp2.cell
        have hd : 1 ≤ 6 - 1 - 1 := by omega
        have HB2 := Lib.hid (And.intro hb2 (And.intro hp2 (And.intro hx2 hs2))); clear hb2 hp2 hx2 hs2
        have HXL := Lib.hid hxl; have HO2 := Lib.hid ho2; clear hxl hr1 hy1 hy2 hy3 ho2
        obtain ⟨y, hy⟩ : ∃ y : Int, (((gD c x).toNat : Nat) : Int) = y := ⟨_, rfl⟩
        rw [hy] at HC
        simp only [hy]
        clear hy
        gi_wp2_with (refine ⟨trivial, ?_⟩; gi_at_call 71; refine (CallsIn.inRound l2 (callsIn_wide.2 HC.out)).mono ?_; rintro e W3 ⟨rfl, v3, x3, o3, b3, s3⟩; obtain ⟨rfl, g3⟩ := s3 HXL.out)
        obtain ⟨hb2, hp2, hx2, hs2⟩ := HB2.out
        refine ⟨KeepsFrom.of_grownBy g3 (fun j e => ?_), fun k cc ee ff hk hcl => (g3.block k (Array.getElem?_eq_some_iff.1 hcl).1 (fun e => hk e)).trans hcl, hb2.trans b3, ?_, x3, by rw [rz_snoc]; exact o3, Nat.le_trans hs2 g3.size⟩
        · have := (hlo j e).2; omega
        · exact hp2.kept g3 (hp2.not_row (by decide) HO2.out)
      case done =>
        rintro D xs W2 hD rfl ⟨hb2, hp2, hx2, ho2, hs2⟩ hK
        have cp := hp2.cell
        gi_wp2
        show LeavesInM _ _ _ _ _ _ _ _ _
        have hms : Marks Wb.heap.size W2.heap.size W2 [{ target := .collected D, args := #[] }] := ⟨D, rfl, hD, (Array.getElem?_eq_some_iff.1 hK).1, hK, trivial⟩
        refine marks_leave _ _ _ hms fun W'' hb'' => ⟨_, results_tmp rfl _ _ _, rfl, v1, boxed_below hx2 hb'' (by omega), ?_, ?_⟩
        · rw [← rz_all]
          exact row_below ho2 hb'' (fun g hg => by have := (hlo g hg).2; omega)
        · exact (A0.out.mono (by omega)).trans (B1.out.trans ((AB.out.mono hbb).trans (hb2.trans (hb''.mono (by omega)))))
      case stop =>
        rintro D c pre W2 hD hpre hf hK
        exact hf.elim
    | _ => exact hq.elim
end Go.Proofs.YtcimppggemdidaaDoor
