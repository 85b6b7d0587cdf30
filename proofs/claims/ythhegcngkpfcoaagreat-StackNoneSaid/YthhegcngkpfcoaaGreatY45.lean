/- Merged: Z17. -/
import Derived.Test.YthhegcngkpfcoaaGreatY44
import Derived.Test.YthhegcngkpfcoaaGreatY19
namespace Go.Proofs.YthhegcngkpfcoaaGreat
open Go Go.RowKit Go.Shelf

section
variable {w : World}
set_option maxRecDepth 100000 in
theorem equalFr_nil (fv : Value) (ao bo : Option Addr) (c d : Nat) : Calls Tryz.prog 63 #[.slice ao 0 c, .slice bo 0 d, fv] w fun e w' => e = .returned (.bool true) ∧ Adds w w' := by
  go_enter Tryz.func63, Tryz.ntmps63
  go_wp2_with fail
  go_loopw [7, 8, 9, 17] (fun _ _ _ i wr => i = .int .i64 0 ∧ wr = w) (fun _ _ _ _ _ => 0)
  case atStart => exact ⟨rfl, rfl⟩
  case round =>
    obtain ⟨rfl, rfl⟩ := hrel
    go_wp2
    go_ret
    exact ⟨rfl, Adds.refl _⟩
variable {t t' : TypeId} {n m b c : Nat} {p q : Pg} {fv fv' lv lv' : Value} {R R' : List (Fr × Value)} {res : UInt32}
set_option maxRecDepth 100000 in
set_option maxHeartbeats 4000000 in
theorem sameS_any (h : PileO t n w b p fv lv R res) (h' : PileO t' m w c q fv' lv' R' res) (hok : ∀ f ∈ p.1, ∀ i ∈ f.2, OkIn i) (hok' : ∀ f ∈ q.1, ∀ i ∈ f.2, OkIn i) (z : Bool) (hz : samePg p q = z) (hR : z = true → R = [] ∧ R' = []) :
    Calls Tryz.prog 43 #[.pointer (some ⟨b, 0, none⟩), .pointer (some ⟨c, 0, none⟩)] w fun e w' => e = .returned (.bool z) ∧ Adds w w' := by
  have HS := Lib.hid (fun (W : World) (ha : Adds w W) => same_any fv fv' p q W ((h.fo.adds ha).funcs hok) ((h'.fo.adds ha).funcs hok'))
  rw [hz] at HS
  obtain ⟨ao, cp, rfl, _, _⟩ := h.fo.form12
  obtain ⟨ao', cp', rfl, _, _⟩ := h'.fo.form12
  obtain ⟨u, hu⟩ : ∃ u, res.toNat = u := ⟨_, rfl⟩
  have HX := Lib.hid (fun (W : World) (ha : Adds w W) => And.intro ((h.bx.adds ha).cell 0) (And.intro ((h.bx.adds ha).cell 1) (And.intro ((h.bx.adds ha).cell 2) (And.intro ((h.bx.adds ha).cell 3) (And.intro ((h.bx.adds ha).cell 4) ((h.bx.adds ha).cell 5))))))
  have HY := Lib.hid (fun (W : World) (ha : Adds w W) => And.intro ((h'.bx.adds ha).cell 0) (And.intro ((h'.bx.adds ha).cell 1) (And.intro ((h'.bx.adds ha).cell 2) (And.intro ((h'.bx.adds ha).cell 3) (And.intro ((h'.bx.adds ha).cell 4) ((h'.bx.adds ha).cell 5))))))
  obtain ⟨fs, x1, x2, x3⟩ := p
  obtain ⟨gs, y1, y2, y3⟩ := q
  obtain ⟨fl, hfl⟩ : ∃ fl, fs.length = fl := ⟨_, rfl⟩
  obtain ⟨gl, hgl⟩ : ∃ gl, gs.length = gl := ⟨_, rfl⟩
  simp only [hu, hfl, hgl] at HX HY HS
  have HLo := Lib.hid h.lo
  have HLo' := Lib.hid h'.lo
  have HR := Lib.hid hR
  clear h h' hok hok' hz hu hfl hgl hR
  go_enter Tryz.func43, Tryz.ntmps43
  go_wp2_with fail
  refine wp_region_loose [] (fun _ _ _ => True) Adds (by kernel_rfl) (by kernel_rfl) (by simp) Adds.refl (fun _ _ _ h k => Adds.trans h k) (fun _ _ _ _ _ _ => trivial) ?_
  repeat (refine wpL_step (fun K hK => ?_); first
    | (refine stepL_ex rfl rfl rfl Adds.refl (fun w' hw' => rfl) ?_; go_simp; refine hK _ ?_; clear hK K)
    | (refine stepL_ex (v := .int .u32 (u : Int)) rfl rfl rfl Adds.refl ?_ ?_; (· (intro w' hw'; clear hK; obtain ⟨a0, a1, a2, a3, a4, a5⟩ := HX.out _ (Adds.trans (Adds.drew _) hw'); obtain ⟨b0, b1, b2, b3, b4, b5⟩ := HY.out _ (Adds.trans (Adds.drew _) hw'); go_simp)); go_simp; refine hK _ ?_; clear hK K)
    | (refine stepL_ex (v := .bool false) rfl rfl rfl Adds.refl ?_ ?_; (· (intro w' hw'; clear hK; go_simp)); go_simp; refine hK _ ?_; clear hK K)
    | (refine stepL_ex (v := pgV (.slice ao fl cp) (fs, x1, x2, x3)) rfl rfl rfl Adds.refl ?_ ?_; (· (intro w' hw'; clear hK; obtain ⟨a0, a1, a2, a3, a4, a5⟩ := HX.out _ (Adds.trans (Adds.drew _) hw'); go_simp)); go_simp; refine hK _ ?_; clear hK K)
    | (refine stepL_ex (v := pgV (.slice ao' gl cp') (gs, y1, y2, y3)) rfl rfl rfl Adds.refl ?_ ?_; (· (intro w' hw'; clear hK; obtain ⟨b0, b1, b2, b3, b4, b5⟩ := HY.out _ (Adds.trans (Adds.drew _) hw'); go_simp)); go_simp; refine hK _ ?_; clear hK K)
    | (refine stepL_call (v := .bool z) (f := 62) (args := #[pgV (.slice ao fl cp) (fs, x1, x2, x3), pgV (.slice ao' gl cp') (gs, y1, y2, y3)]) rfl rfl rfl ?_ (fun w' hw' => HS.out w' (Adds.trans (Adds.drew _) hw')) ?_; (· (intro w'; clear hK; go_simp)); go_simp; refine hK _ ?_; clear hK K)
    | (refine stepL_ex (v := .bool (!z)) rfl rfl rfl Adds.refl ?_ ?_; (· (intro w' hw'; clear hK; go_simp)); go_simp; refine hK _ ?_; clear hK K))
  refine wpL_nil ?_
  intro w3 a3
  simp only [forL]
  have A3 := Lib.hid (Adds.trans (Adds.drew _) a3)
  clear a3
  cases z
  · go_wp2
    go_ret
    exact ⟨rfl, A3.out⟩
  · obtain ⟨rfl, rfl⟩ := HR.out rfl
    obtain ⟨ro, rc, hr1, _, _⟩ := HLo.out.form
    obtain ⟨ro', rc', hr2, _, _⟩ := HLo'.out.form
    simp only [List.length_nil] at hr1 hr2
    subst hr1 hr2
    have HE := Lib.hid (fun (V : Value) (W : World) => @equalFr_nil W V ro ro' rc rc')
    go_wp2
    refine wp_region_loose [] (fun _ _ _ => True) Adds (by kernel_rfl) (by kernel_rfl) (by simp) Adds.refl (fun _ _ _ h k => Adds.trans h k) (fun _ _ _ _ _ _ => trivial) ?_
    repeat (refine wpL_step (fun K hK => ?_); first
      | (refine stepL_ex rfl rfl rfl Adds.refl (fun w' hw' => rfl) ?_; go_simp; refine hK _ ?_; clear hK K)
      | (refine stepL_ex (v := .slice ro 0 rc) rfl rfl rfl Adds.refl ?_ ?_; (· (intro w' hw'; clear hK; obtain ⟨a0, a1, a2, a3, a4, a5⟩ := HX.out _ (Adds.trans A3.out (Adds.trans (Adds.drew _) hw')); go_simp)); go_simp; refine hK _ ?_; clear hK K)
      | (refine stepL_ex (v := .slice ro' 0 rc') rfl rfl rfl Adds.refl ?_ ?_; (· (intro w' hw'; clear hK; obtain ⟨b0, b1, b2, b3, b4, b5⟩ := HY.out _ (Adds.trans A3.out (Adds.trans (Adds.drew _) hw')); go_simp)); go_simp; refine hK _ ?_; clear hK K)
      | (refine stepL_call (v := .bool true) (f := 63) (args := #[.slice ro 0 rc, .slice ro' 0 rc', .func (.func 64) #[] #[]]) rfl rfl rfl ?_ (fun w' hw' => HE.out _ w') ?_; (· (intro w'; clear hK; go_simp)); go_simp; refine hK _ ?_; clear hK K))
    refine wpL_nil ?_
    intro w4 a4
    simp only [forL]
    have A4 := Lib.hid (Adds.trans A3.out (Adds.trans (Adds.drew _) a4))
    clear a4
    go_wp2
    go_ret
    exact ⟨rfl, A4.out⟩
set_option maxRecDepth 100000 in
theorem SameS_any {v v' : Value} {L L' : List Fr} (h : StkO n w v p L res) (h' : StkO m w v' q L' res) (hn : n ≤ w.heap.size) (hm : m ≤ w.heap.size) (hok : ∀ f ∈ p.1, ∀ i ∈ f.2, OkIn i) (hok' : ∀ f ∈ q.1, ∀ i ∈ f.2, OkIn i) (z : Bool) (hz : samePg p q = z) (hL : z = true → L = [] ∧ L' = []) :
    Calls Tryz.prog 17 #[v, v'] w fun e w' => e = .returned (.bool z) ∧ Adds w w' := by
  have HI := Lib.hid (inside_any h hn)
  have HI' := Lib.hid (fun (W : World) (ha : Adds w W) => inside_any (h'.adds ha) (Nat.le_trans hm ha.size))
  have HS := Lib.hid (fun (W : World) (t t' : TypeId) (b c : Nat) (hp : PileP t n W b p L res) (hq : PileP t' m W c q L' res) => show Calls Tryz.prog 43 #[.pointer (some ⟨b, 0, none⟩), .pointer (some ⟨c, 0, none⟩)] W fun e w' => e = .returned (.bool z) ∧ Adds W w' from by
    obtain ⟨_, _, _, hp, rfl⟩ := hp
    obtain ⟨_, _, _, hq, rfl⟩ := hq
    exact sameS_any hp hq hok hok' z hz (fun e => by simpa using hL e))
  clear h h' hn hm hok hok' hz hL
  go_enter Tryz.func17, Tryz.ntmps17
  have HI2 := HI
  go_wp2_with (first
    | (go_at_call 24; refine HI2.out.mono ?_; rintro e w2 ⟨t, b, rfl, hp, a2⟩; have A2 := Lib.hid a2; have HP := Lib.hid hp; clear hp a2 HI2)
    | (go_at_call 24; refine (HI'.out _ A2.out).mono ?_; rintro e w3 ⟨t', c, rfl, hq, a3⟩; have A3 := Lib.hid (Adds.trans A2.out a3); have HP3 := Lib.hid (HP.out.adds a3); have HQ := Lib.hid hq; clear hq a3)
    | (go_at_call 43; refine (HS.out _ _ _ _ _ HP3.out HQ.out).mono ?_; rintro e w4 ⟨rfl, a4⟩; have A4 := Lib.hid (Adds.trans A3.out a4); clear a4))
  go_ret
  exact ⟨rfl, A4.out⟩
end
end Go.Proofs.YthhegcngkpfcoaaGreat
