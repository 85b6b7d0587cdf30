/- Merged: ML3, GRow2, MRw. -/
import Derived.Test.YthhegcngkpfcoaaGreatDoorF49
import Derived.Test.YthhegcngkpfcoaaGreatDoorF50
import Derived.Test.YthhegcngkpfcoaaGreatDoorRows
import Derived.WalkKit
import Derived.ProofKit
import Derived.OpenShut
import Derived.Deep.DeepHandedRow
import Derived.Deep.Slices
import Derived.Lib.LaidTab
import Derived.SizedLaws
import Derived.Test.YthhegcngkpfcoaaGreatDoorF8
import Derived.Test.YthhegcngkpfcoaaGreatDoorF1
import Derived.Test.YthhegcngkpfcoaaGreatDoorF44
import Derived.Stop.LaidErr
namespace Go.Proofs.YthhegcngkpfcoaaGreatDoor
open Go Go.RowKit Go.Shelf Go.Lib

theorem decI_okin (l : List UInt8) : ∀ f ∈ (decI l).1.1, ∀ x ∈ f.2, OkIn x := by
  by_cases h : (decI l).2 = 0
  · intro f hf x hx
    exact ((decI_in h).2.2 f hf x hx).2
  · rw [decI_emP h]
    intro f hf
    cases hf
set_option maxRecDepth 100000 in
set_option maxHeartbeats 8000000 in
theorem law_sealedM {n n2 : Nat} (v v2 : Value) (l m : List UInt8) (w : World) (hl : Bytes n w v l) (hm : Bytes n2 w v2 m) (hv : MVars w) :
    Calls Tryz.prog 4 #[v, v2] w (TrueAdds w) := by
  have HW := Lib.hid (fun (W : World) (h : Adds w W) => worksM W (hv.adds h))
  have HV := Lib.hid hv
  have HL := Lib.hid hl.here
  have HM := Lib.hid hm.here
  obtain ⟨ao, cap, rfl, h1, h2, _⟩ := hl
  obtain ⟨ao2, cap2, rfl, h3, h4, _⟩ := hm
  have hn := num10_any
  obtain ⟨ln, hln⟩ : ∃ ln, l.length = ln := ⟨_, rfl⟩
  obtain ⟨ml, hml⟩ : ∃ ml, m.length = ml := ⟨_, rfl⟩
  have HLn := Lib.hid hln
  have HMl := Lib.hid hml
  rw [hln] at HL ⊢
  rw [hml] at HM ⊢
  clear hln hml h1 h2 h3 h4 hv
  by_cases hb : 4000 < ln
  · have hbI : (4000 : Int) < (ln : Int) := by omega
    clear hb
    go_enter Tryz.func4, Tryz.ntmps4
    go_wp2_with (go_at_call 7; refine (HW.out _ (Adds.refl _)).mono ?_; rintro e w3 ⟨rfl, a3⟩; have A3 := Lib.hid a3; clear a3)
    go_ret
    exact ⟨rfl, A3.out⟩
  · have hbI : ¬ (4000 : Int) < (ln : Int) := by omega
    by_cases hc : 50 < ml
    · have hcI : (50 : Int) < (ml : Int) := by omega
      clear hb hc
      go_enter Tryz.func4, Tryz.ntmps4
      go_wp2_with (go_at_call 7; refine (HW.out _ (Adds.refl _)).mono ?_; rintro e w3 ⟨rfl, a3⟩; have A3 := Lib.hid a3; clear a3)
      go_ret
      exact ⟨rfl, A3.out⟩
    · have hcI : ¬ (50 : Int) < (ml : Int) := by omega
      have HLe := Lib.hid (show l.length ≤ 4000 by rw [HLn.out]; omega)
      have HMe := Lib.hid (show m.length ≤ 50 by rw [HMl.out]; omega)
      have HSe := Lib.hid (show (sealB l).length ≤ 4010 by
        unfold sealB
        have h1 : (fixB (sumS l) 8).length ≤ 8 := fixB_le8 _ 8
        have := HLe.out
        simp only [List.length_append]
        omega)
      have HSl := Lib.hid (refSealed_any _ l w HL.out (by have := HLe.out; omega))
      clear hb hc
      obtain ⟨sl, hsl⟩ : ∃ sl, sealB l = sl := ⟨_, rfl⟩
      rw [hsl] at HSl HSe
      clear hsl
      have HCl := Lib.hid (show (sl ++ m).length ≤ 5000 by have := HSe.out; have := HMe.out; simp only [List.length_append]; omega)
      obtain ⟨c, hc⟩ : ∃ c, sl ++ m = c := ⟨_, rfl⟩
      have HC := Lib.hid hc
      rw [hc] at HCl
      clear hc
      have HOk := Lib.hid (decI_okin c)
      have HD := Lib.hid (fun (v : Value) (W : World) (hb : Bytes W.heap.size W v c) (ha : Adds w W) => And.intro (mdecode v c W hb (HV.out.adds ha)) (refDecodeM_any v c W hb (by have := HCl.out; omega)))
      obtain ⟨⟨⟨fs, y1, y2, y3⟩, er⟩, hd⟩ : ∃ d, decI c = d := ⟨_, rfl⟩
      rw [hd] at HD HOk
      unfold DecPost at HD
      simp only at HD HOk
      obtain ⟨fl, hfl⟩ : ∃ fl, fs.length = fl := ⟨_, rfl⟩
      have HFl := Lib.hid hfl
      have HS := Lib.hid (fun (W : World) (x y : Value) (hx : FuncsW W.heap.size W x fs) (hy : FuncsW W.heap.size W y fs) => show Calls Tryz.prog 13 #[pgV x (fs, y1, y2, y3), pgV y (fs, y1, y2, y3)] W fun e w' => e = .returned (.bool true) ∧ Adds W w' from by
        have h1 := refSame_any x y (fs, y1, y2, y3) (fs, y1, y2, y3) W hx hy
        rwa [samePg_self] at h1)
      clear hfl hd
      go_enter Tryz.func4, Tryz.ntmps4
      go_wp2_with (first
        | (go_at_call 15; refine HSl.out.mono ?_; rintro e w1 ⟨v1, rfl, o1, a1⟩; have A1 := Lib.hid a1; have O1 := Lib.hid o1; clear a1 o1 HSl)
        | (at_builtin; refine wp_append_bytes rfl (.tmp 20) (.tmp 21) rfl w.heap.size _ sl rfl (by exact O1.out) _ m _ rfl (by exact HM.out.adds A1.out) (by have := HSe.out; have := HMe.out; omega) (by exact A1.out.size) ?_; intro v3 w3 o3 b3; rw [HC.out] at o3; have A3 := Lib.hid (show Adds w w3 from Below.trans A1.out b3); obtain ⟨ao3, cap3, e3, _⟩ := id o3.bytes; obtain ⟨cl, hcl⟩ : ∃ cl, c.length = cl := ⟨_, rfl⟩; rw [hcl] at e3; subst e3; have O3 := Lib.hid o3; have HJ := Lib.hid (HD.out _ w3 o3.bytes A3.out).1; clear o3 b3 hcl)
        | (go_at_call 12; refine HJ.out.mono ?_; rintro e w4 ⟨cv, rfl, o4, a4⟩; obtain ⟨ap, cp, ep⟩ := o4.form; rw [HFl.out] at ep; subst ep; obtain ⟨w5, hw5⟩ : ∃ w5, w4.alloc (.cells #[.slice ap fl cp, .int .i64 y1, .int .i64 y2, .int .i64 y3] 24) = w5 := ⟨_, rfl⟩; have A45 := Lib.hid (show Adds w4 w5 by rw [← hw5]; exact Adds.new _ _); have A35 := Lib.hid (Adds.trans a4 A45.out); have A5 := Lib.hid (A3.out.trans A35.out); have C5 := Lib.hid (o4.adds A45.out); have B5 := Lib.hid (show BkS 24 w5 w4.heap.size [.slice ap fl cp, .int .i64 y1, .int .i64 y2, .int .i64 y3] by rw [← hw5]; exact BkS.new _ _ _); have HJ2 := Lib.hid (HD.out _ w5 (O3.out.adds A35.out).bytes A5.out).2; clear o4 a4 HJ)
        | (go_at_call 16; refine HJ2.out.mono ?_; rintro e w6 ⟨cv, rfl, o6, a6⟩; obtain ⟨aq, cq, eq⟩ := o6.form; rw [HFl.out] at eq; subst eq; obtain ⟨w7, hw7⟩ : ∃ w7, w6.alloc (.cells #[.slice aq fl cq, .int .i64 y1, .int .i64 y2, .int .i64 y3] 24) = w7 := ⟨_, rfl⟩; have A67 := Lib.hid (show Adds w6 w7 by rw [← hw7]; exact Adds.new _ _); have A57 := Lib.hid (Adds.trans a6 A67.out); have A7 := Lib.hid (A5.out.trans A57.out); have C7 := Lib.hid (o6.adds A67.out); have C57 := Lib.hid (C5.out.adds A57.out); have B7 := Lib.hid (show BkS 24 w7 w6.heap.size [.slice aq fl cq, .int .i64 y1, .int .i64 y2, .int .i64 y3] by rw [← hw7]; exact BkS.new _ _ _); have B57 := Lib.hid (B5.out.adds A57.out); have p0 := B57.out.cell 0; have p1 := B57.out.cell 1; have p2 := B57.out.cell 2; have p3 := B57.out.cell 3; have q0 := B7.out.cell 0; have q1 := B7.out.cell 1; have q2 := B7.out.cell 2; have q3 := B7.out.cell 3; clear o6 a6 HJ2)
        | (go_at_call 13; refine (HS.out _ _ _ (C57.out.funcs HOk.out).here (C7.out.funcs HOk.out).here).mono ?_; rintro e w8 ⟨rfl, a8⟩; have A8 := Lib.hid (A7.out.trans a8); clear a8)
        | (go_at_call 11; refine (hn _ _).mono ?_; rintro e w9 ⟨rfl, rfl⟩)
        | (go_at_call 7; refine (HW.out _ A8.out).mono ?_; rintro e wc ⟨rfl, ac⟩; have A9 := Lib.hid (A8.out.trans ac); clear ac))
      go_ret
      exact ⟨rfl, A9.out⟩
end Go.Proofs.YthhegcngkpfcoaaGreatDoor
namespace Go.Proofs.YthhegcngkpfcoaaGreatDoor
open Go Go.ChangeShapes Go.WideShapes Go.ChangeAt Go.RowKit

/-- What was read is of a size that a machine bears. -/
def Wok {H : Type} (t : TypeId) (d : DataW H) : Prop := ∀ n ∈ d.weights Tryz.prog t, n ≤ reachBytes
theorem bI40 : Tryz.prog.bytesOf 59 = 40 := by kernel_rfl
theorem weights_all {H : Type} {P : Program} {e : TypeId} {d : DataW H} {l : List (DataW H)} (h : d ∈ l) {n : Nat} (hn : n ∈ d.weights P e) : n ∈ DataW.weightsAll P e l := by
  induction l with
  | nil => cases h
  | cons x r ih =>
    rw [DataW.weightsAll]
    rcases List.mem_cons.1 h with rfl | h
    · exact List.mem_append_left _ hn
    · exact List.mem_append_right _ (ih h)
theorem Wok.code {H : Type} {len : Nat} {D : Nat → DataW H} {sp : List (DataW H)} (h : Wok 53 (.slice ((List.range len).map D) sp)) : len ≤ 4398046511104 := by
  have h1 := h ((((List.range len).map D).length + sp.length) * Tryz.prog.bytesOf 59) (by rw [DataW.weights, Tryz.underlying53]; exact List.mem_cons_self ..)
  rw [bI40, List.length_map, List.length_range] at h1
  unfold reachBytes at h1
  omega
theorem Wok.func {H : Type} {len : Nat} {D : Nat → DataW H} {sp : List (DataW H)} (h : Wok 22 (.slice ((List.range len).map D) sp)) {k : Nat} (hk : k < len) : Wok 55 (D k) := fun n hn => h n (by
  rw [DataW.weights, Tryz.underlying22]
  exact List.mem_cons_of_mem _ (List.mem_append_left _ (weights_all (List.mem_map_of_mem (f := D) (List.mem_range.2 hk)) hn)))
theorem Wok.funcs {H : Type} {d0 d1 d2 d3 : DataW H} (h : Wok 24 (.agg [d0, d1, d2, d3])) : Wok 22 d0 := fun n hn => h n (by
  rw [DataW.weights, Tryz.underlying24]
  simp only [List.map_cons, List.map_nil, DataW.weightsEach]
  simp [hn])
section
variable {H : Type} {enc : TypeId × Value → H}
end
end Go.Proofs.YthhegcngkpfcoaaGreatDoor
namespace Go.Proofs.YthhegcngkpfcoaaGreatDoor
open Go Go.ChangeShapes Go.WideShapes Go.ChangeAt Go.RowKit

theorem gBg : Tryz.prog.globalNamed "linesman/image.beginning" = some 0 := by kernel_rfl
theorem gBgType : (Tryz.prog.globals[0]?).map (·.type) = some 85 := by kernel_rfl
/-- What the list gives: the widths, the beginning. -/
theorem mVars_of {W : World} (h : laidMetH Tryz.prog [("linesman/octet.widths", Rows.laid_linesman_octet_widths), ("linesman/image.beginning", Rows.laid_linesman_image_beginning)] W) : MVars W := by
  have h' : laidMet Tryz.prog [("linesman/octet.widths", Rows.laid_linesman_octet_widths), ("linesman/image.beginning", Rows.laid_linesman_image_beginning)] W := h
  have t : Lib.TabIs Tryz.prog W "linesman/octet.widths" .i64 [1, 2, 4, 8] := Lib.tabIs_of_head gW gWType Tryz.underlying172 Tryz.underlying3 (by kernel_rfl) (by kernel_rfl) h'
  have b : Lib.TabIs Tryz.prog W "linesman/image.beginning" .u8 [108, 105, 110, 101] := Lib.tabIs_of_head gBg gBgType Tryz.underlying85 Tryz.underlying5 (by kernel_rfl) (by kernel_rfl) h'.tail
  exact ⟨⟨t.cell gW 0 (by decide), t.cell gW 1 (by decide), t.cell gW 2 (by decide), t.cell gW 3 (by decide)⟩, ⟨b.cell gBg 0 (by decide), b.cell gBg 1 (by decide), b.cell gBg 2 (by decide), b.cell gBg 3 (by decide)⟩⟩
end Go.Proofs.YthhegcngkpfcoaaGreatDoor
