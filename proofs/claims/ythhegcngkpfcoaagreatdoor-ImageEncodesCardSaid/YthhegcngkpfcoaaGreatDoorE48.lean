/- Merged: MR6, MW, GFew, MF. -/
import Derived.Test.YthhegcngkpfcoaaGreatDoorE47
import Derived.Lib.SlBytesConst
import Derived.Test.YthhegcngkpfcoaaGreatDoorE46
import Derived.Test.YthhegcngkpfcoaaGreatDoorE19
import Derived.Test.YthhegcngkpfcoaaGreatDoorE10
import Derived.Test.YthhegcngkpfcoaaGreatDoorE9
namespace Go.Proofs.YthhegcngkpfcoaaGreatDoor
open Go Go.RowKit Go.Shelf Go.Lib

set_option maxRecDepth 100000 in
set_option maxHeartbeats 4000000 in
theorem refEncode_any {m : Nat} (u : Value) (p : Pg) (w : World) (hf : FuncsW m w u p.1) : Calls Tryz.prog 10 #[pgV u p] w (EncPost p w) := by
  have HRi := Lib.hid (fun (W : World) (h : Adds w W) => refRightP_any u p W (hf.adds h))
  have HBa := Lib.hid (fun (h0 : checkP p = 0) (W : World) (h : Adds w W) => refBare_any u p W (hf.adds h) (fine_of h0))
  have HLe := Lib.hid (fun (h0 : checkP p = 0) => show (bareB p).length ≤ 700000 from by rw [← bareT_all]; exact bareT_le (fine_of h0) _)
  obtain ⟨en, hen⟩ : ∃ en, encI p = en := ⟨_, rfl⟩
  unfold EncPost
  rw [hen]
  by_cases hc : checkP p = 0
  · obtain rfl : en = (sealB (bareB p), 0) := by rw [← hen]; unfold encI; rw [if_pos hc]; rfl
    have hr : rightP p = true := by unfold rightP; exact decide_eq_true hc
    rw [hr] at HRi
    have HB := Lib.hid (HBa.out hc)
    have HL := Lib.hid (HLe.out hc)
    clear HBa HLe hen hr hc
    obtain ⟨l, hl⟩ : ∃ l, bareB p = l := ⟨_, rfl⟩
    rw [hl] at HB HL ⊢
    clear hl
    obtain ⟨fs, x1, x2, x3⟩ := p
    obtain ⟨ao, cap, rfl, _, _, _⟩ := hf
    simp only at HRi HB ⊢
    generalize fs.length = fl at HRi HB ⊢
    obtain ⟨w0, hw0⟩ : ∃ w0, w.alloc (.cells #[.slice ao fl cap, .int .i64 x1, .int .i64 x2, .int .i64 x3] 24) = w0 := ⟨_, rfl⟩
    have A0 := Lib.hid (show Adds w w0 by rw [← hw0]; exact Adds.new _ _)
    have HB1 := Lib.hid (show BkS 24 w0 w.heap.size [.slice ao fl cap, .int .i64 x1, .int .i64 x2, .int .i64 x3] by rw [← hw0]; exact BkS.new _ _ _)
    have b0 : w0.cell? ⟨w.heap.size, 0, none⟩ = some (.slice ao fl cap) := HB1.out.cell 0
    have b1 : w0.cell? ⟨w.heap.size, 1, none⟩ = some (.int .i64 x1) := HB1.out.cell 1
    have b2 : w0.cell? ⟨w.heap.size, 2, none⟩ = some (.int .i64 x2) := HB1.out.cell 2
    have b3 : w0.cell? ⟨w.heap.size, 3, none⟩ = some (.int .i64 x3) := HB1.out.cell 3
    go_enter Tryz.func10, Tryz.ntmps10
    go_wp2_with (first
      | (go_at_call 22; refine (HRi.out _ A0.out).mono ?_; rintro e w1 ⟨rfl, q⟩; have HA1 := Lib.hid (Adds.trans A0.out q); have qq := HB1.out.adds q; have c0 : w1.cell? ⟨w.heap.size, 0, none⟩ = some (.slice ao fl cap) := qq.cell 0; have c1 : w1.cell? ⟨w.heap.size, 1, none⟩ = some (.int .i64 x1) := qq.cell 1; have c2 : w1.cell? ⟨w.heap.size, 2, none⟩ = some (.int .i64 x2) := qq.cell 2; have c3 : w1.cell? ⟨w.heap.size, 3, none⟩ = some (.int .i64 x3) := qq.cell 3; clear q qq)
      | (go_at_call 23; refine (HB.out _ HA1.out).mono ?_; rintro e w2 ⟨v2, rfl, o2, q⟩; have HA2 := Lib.hid (Adds.trans HA1.out q); have O2 := Lib.hid o2.bytes; clear o2 q)
      | (go_at_call 15; refine (refSealed_any _ l _ O2.out (by have := HL.out; omega)).mono ?_; rintro e w3 ⟨v3, rfl, o3, q⟩; have HA3 := Lib.hid (Adds.trans HA2.out q); have O3 := Lib.hid (OwnB.lower o3 HA2.out.size); clear o3 q))
    refine bodyPost_ret (results_two rfl _ _ _) rfl ?_
    exact ⟨_, rfl, O3.out, HA3.out⟩
  · obtain rfl : en = ([], 2) := by rw [← hen]; unfold encI; rw [if_neg hc]
    have hr : rightP p = false := by unfold rightP; exact decide_eq_false hc
    rw [hr] at HRi
    clear HBa HLe hen hr hc
    obtain ⟨fs, x1, x2, x3⟩ := p
    obtain ⟨ao, cap, rfl, _, _, _⟩ := hf
    simp only at HRi ⊢
    generalize fs.length = fl at HRi ⊢
    obtain ⟨w0, hw0⟩ : ∃ w0, w.alloc (.cells #[.slice ao fl cap, .int .i64 x1, .int .i64 x2, .int .i64 x3] 24) = w0 := ⟨_, rfl⟩
    have A0 := Lib.hid (show Adds w w0 by rw [← hw0]; exact Adds.new _ _)
    have HB1 := Lib.hid (show BkS 24 w0 w.heap.size [.slice ao fl cap, .int .i64 x1, .int .i64 x2, .int .i64 x3] by rw [← hw0]; exact BkS.new _ _ _)
    have b0 : w0.cell? ⟨w.heap.size, 0, none⟩ = some (.slice ao fl cap) := HB1.out.cell 0
    have b1 : w0.cell? ⟨w.heap.size, 1, none⟩ = some (.int .i64 x1) := HB1.out.cell 1
    have b2 : w0.cell? ⟨w.heap.size, 2, none⟩ = some (.int .i64 x2) := HB1.out.cell 2
    have b3 : w0.cell? ⟨w.heap.size, 3, none⟩ = some (.int .i64 x3) := HB1.out.cell 3
    go_enter Tryz.func10, Tryz.ntmps10
    go_wp2_with (go_at_call 22; refine (HRi.out _ A0.out).mono ?_; rintro e w1 ⟨rfl, q⟩; have HA1 := Lib.hid (Adds.trans A0.out q); clear q)
    refine bodyPost_ret (results_two rfl _ _ _) rfl ?_
    exact ⟨_, rfl, OwnB.nil _ _, HA1.out⟩
end Go.Proofs.YthhegcngkpfcoaaGreatDoor
namespace Go.Proofs.YthhegcngkpfcoaaGreatDoor
open Go Go.RowKit Go.Shelf Go.Lib

theorem num10_any (x : Int) (W : World) : Calls Tryz.prog 11 #[.int .i64 x] W fun e w' => e = .returned (.int .i64 x) ∧ W = w' := by
  go_enter Tryz.func11, Tryz.ntmps11
  go_wp2
  go_ret
  exact ⟨rfl, rfl⟩
def pgW : Pg := ([(1, [(9, 0, 0, 0, 0)])], 1, 0, 0)
def bareW : List UInt8 := [108, 105, 110, 101, 1, 0, 0, 1, 1, 1, 0, 9, 0]
theorem encW2 : (encI pgW).2 = 0 := by decide +kernel
theorem encW1 : (encI pgW).1.length = 21 := by decide +kernel
theorem encWt : (encI pgW).1.take 13 = bareW := by decide +kernel
theorem decW1 : (decI bareW).2 = 110 := by decide +kernel
theorem decW2 : (decI (bareW ++ [0, 0, 0, 0, 0, 0, 0, 0])).2 = 200 := by decide +kernel
theorem decW3 : (decI [108, 105, 110, 102]).2 = 200 := by decide +kernel
theorem decI_emP {l : List UInt8} (h : (decI l).2 ≠ 0) : (decI l).1 = emP := by
  unfold decI at h ⊢
  split
  · rfl
  · rename_i p k hx
    rw [hx] at h
    simp only at h ⊢
    split
    · rfl
    · rename_i hk; rw [if_neg hk] at h; exact absurd rfl h
/-- Decode of what is no image. -/
theorem mdec_bad {n : Nat} (v : Value) (l : List UInt8) (er : Int) (w : World) (hv : Bytes n w v l) (hw : MVars w) (he : (decI l).2 = er) (h0 : er ≠ 0) : Calls Tryz.prog 12 #[v] w fun e w' => (∃ ao cap, e = .returned (.tuple #[.agg #[.slice ao 0 cap, .int .i64 0, .int .i64 0, .int .i64 0], .int .i64 er])) ∧ Adds w w' := by
  refine (mdecode v l w hv hw).mono ?_
  rintro e w' ⟨cv, h1, h2, h3⟩
  rw [he, decI_emP (by rw [he]; exact h0)] at h1
  rw [decI_emP (by rw [he]; exact h0)] at h2
  obtain ⟨ao, cap, rfl⟩ := h2.form
  exact ⟨⟨ao, cap, h1⟩, h3⟩
theorem conv13 (w : World) : (convert 9 27 (.string ⟨#[108, 105, 110, 101, 1, 0, 0, 1, 1, 1, 0, 9, 0]⟩)).run Tryz.prog w = .ok (.slice (some ⟨w.heap.size, 0, none⟩) 13 (grownCap w 13 0 5)) (Lib.bytesWorld w 5 ⟨#[108, 105, 110, 101, 1, 0, 0, 1, 1, 1, 0, 9, 0]⟩) := run_str8 _ w
theorem conv21 (w : World) : (convert 9 27 (.string ⟨#[108, 105, 110, 101, 1, 0, 0, 1, 1, 1, 0, 9, 0, 0, 0, 0, 0, 0, 0, 0, 0]⟩)).run Tryz.prog w = .ok (.slice (some ⟨w.heap.size, 0, none⟩) 21 (grownCap w 21 0 5)) (Lib.bytesWorld w 5 ⟨#[108, 105, 110, 101, 1, 0, 0, 1, 1, 1, 0, 9, 0, 0, 0, 0, 0, 0, 0, 0, 0]⟩) := run_str8 _ w
theorem catW : (⟨#[108, 105, 110, 101, 1, 0, 0, 1, 1, 1, 0, 9, 0]⟩ : ByteArray) ++ ⟨#[0, 0, 0, 0, 0, 0, 0, 0]⟩ = ⟨#[108, 105, 110, 101, 1, 0, 0, 1, 1, 1, 0, 9, 0, 0, 0, 0, 0, 0, 0, 0, 0]⟩ := by
  apply ByteArray.ext; simp
theorem conv21c (w : World) : (convert 9 27 (.string (⟨#[108, 105, 110, 101, 1, 0, 0, 1, 1, 1, 0, 9, 0]⟩ ++ ⟨#[0, 0, 0, 0, 0, 0, 0, 0]⟩))).run Tryz.prog w = .ok (.slice (some ⟨w.heap.size, 0, none⟩) 21 (grownCap w 21 0 5)) (Lib.bytesWorld w 5 ⟨#[108, 105, 110, 101, 1, 0, 0, 1, 1, 1, 0, 9, 0, 0, 0, 0, 0, 0, 0, 0, 0]⟩) := by
  rw [catW]; exact conv21 w
theorem dec13 (w : World) (hw : MVars w) : Calls Tryz.prog 12 #[.slice (some ⟨w.heap.size, 0, none⟩) 13 (grownCap w 13 0 5)] (Lib.bytesWorld w 5 ⟨#[108, 105, 110, 101, 1, 0, 0, 1, 1, 1, 0, 9, 0]⟩) fun e w' => (∃ ao cap, e = .returned (.tuple #[.agg #[.slice ao 0 cap, .int .i64 0, .int .i64 0, .int .i64 0], .int .i64 110])) ∧ Adds w w' := by
  have hb := str_bytes8 w ⟨#[108, 105, 110, 101, 1, 0, 0, 1, 1, 1, 0, 9, 0]⟩ (by decide)
  have ha := str_adds8 w ⟨#[108, 105, 110, 101, 1, 0, 0, 1, 1, 1, 0, 9, 0]⟩
  exact (mdec_bad _ bareW 110 _ hb (hw.adds ha) decW1 (by decide)).mono fun e w' ⟨h1, h2⟩ => ⟨h1, ha.trans h2⟩
theorem dec21 (w : World) (hw : MVars w) : Calls Tryz.prog 12 #[.slice (some ⟨w.heap.size, 0, none⟩) 21 (grownCap w 21 0 5)] (Lib.bytesWorld w 5 ⟨#[108, 105, 110, 101, 1, 0, 0, 1, 1, 1, 0, 9, 0, 0, 0, 0, 0, 0, 0, 0, 0]⟩) fun e w' => (∃ ao cap, e = .returned (.tuple #[.agg #[.slice ao 0 cap, .int .i64 0, .int .i64 0, .int .i64 0], .int .i64 200])) ∧ Adds w w' := by
  have hb := str_bytes8 w ⟨#[108, 105, 110, 101, 1, 0, 0, 1, 1, 1, 0, 9, 0, 0, 0, 0, 0, 0, 0, 0, 0]⟩ (by decide)
  have ha := str_adds8 w ⟨#[108, 105, 110, 101, 1, 0, 0, 1, 1, 1, 0, 9, 0, 0, 0, 0, 0, 0, 0, 0, 0]⟩
  exact (mdec_bad _ (bareW ++ [0, 0, 0, 0, 0, 0, 0, 0]) 200 _ hb (hw.adds ha) decW2 (by decide)).mono fun e w' ⟨h1, h2⟩ => ⟨h1, ha.trans h2⟩
theorem lit_mark4 (w : World) (l : List UInt8) (fr : Nat × Nat) (hl : l.length ≤ maxLen) : Bytes (w.heap.size + 1) (w.alloc (.cells (l.map byteV).toArray 5 fr)) (.slice (some ⟨w.heap.size, 0, none⟩) l.length l.length) l := by
  refine ⟨_, _, rfl, Nat.le_refl _, hl, fun _ => ⟨w.heap.size, 0, rfl, by omega, fun i hi => ?_⟩⟩
  rw [cell_of_row _ w.heap.size (0 + i) _ _ _ (heap_alloc_new w _)]
  simp [hi]
theorem conv4 (w : World) : (convert 27 27 (.slice (some ⟨w.heap.size, 0, none⟩) 4 4)).run Tryz.prog (w.alloc (.cells #[.int .u8 108, .int .u8 105, .int .u8 110, .int .u8 102] 5)) = .ok (.slice (some ⟨w.heap.size, 0, none⟩) 4 4) (w.alloc (.cells #[.int .u8 108, .int .u8 105, .int .u8 110, .int .u8 102] 5 (4, 5))) :=
  Lib.run_convert_bytes_const w 27 5 _ 4 4 Tryz.underlying27 Tryz.underlying5
theorem dec4 (w : World) (hw : MVars w) : Calls Tryz.prog 12 #[.slice (some ⟨w.heap.size, 0, none⟩) 4 4] (w.alloc (.cells #[.int .u8 108, .int .u8 105, .int .u8 110, .int .u8 102] 5 (4, 5))) fun e w' => (∃ ao cap, e = .returned (.tuple #[.agg #[.slice ao 0 cap, .int .i64 0, .int .i64 0, .int .i64 0], .int .i64 200])) ∧ Adds w w' := by
  have hb := lit_mark4 w [108, 105, 110, 102] (4, 5) (by simp [maxLen])
  have ha := adds_alloc w (.cells #[.int .u8 108, .int .u8 105, .int .u8 110, .int .u8 102] 5 (4, 5))
  exact (mdec_bad _ [108, 105, 110, 102] 200 _ hb (hw.adds ha) decW3 (by decide)).mono fun e w' ⟨h1, h2⟩ => ⟨h1, ha.trans h2⟩
theorem okW : OkIn (9, 0, 0, 0, 0) := ⟨by decide, by decide⟩
theorem funcsW (w : World) : FuncsW (w.heap.size + 1 + 1) ((w.alloc (.cells #[.int .i64 9, .int .i64 0, .int .i64 0, .int .i64 0, .int .u32 0] 59)).alloc (.cells #[.int .i64 1, .slice (some ⟨w.heap.size, 0, none⟩) 1 1] 55)) (.slice (some ⟨w.heap.size + 1, 0, none⟩) 1 1) [(1, [(9, 0, 0, 0, 0)])] := by
  have h1 := (BkS.new 59 w (insC (9, 0, 0, 0, 0))).adds (adds_alloc _ (.cells #[.int .i64 1, .slice (some ⟨w.heap.size, 0, none⟩) 1 1] 55))
  have h2 := BkS.new 55 (w.alloc (.cells #[.int .i64 9, .int .i64 0, .int .i64 0, .int .i64 0, .int .u32 0] 59)) [.int .i64 1, .slice (some ⟨w.heap.size, 0, none⟩) 1 1]
  rw [World.size_alloc] at h2
  refine ⟨_, 1, rfl, Nat.le_refl _, by show 1 ≤ maxLen; unfold maxLen; omega, fun _ => ⟨_, 0, rfl, by omega, fun i hi => ?_⟩⟩
  have hi1 : i = 0 := by simp at hi; exact hi
  subst hi1
  refine ⟨h2.cell 0, _, h2.cell 1, ⟨_, 1, rfl, Nat.le_refl _, by show 1 ≤ maxLen; unfold maxLen; omega, fun _ => ⟨_, 0, rfl, by omega, fun i hi => ?_⟩⟩, fun x hx => ?_⟩
  · have hi1 : i = 0 := by simp at hi; exact hi
    subst hi1
    exact ⟨h1.cell 0, h1.cell 1, h1.cell 2, h1.cell 3, h1.cell 4⟩
  · simp at hx; subst hx; exact okW
def EncW (w : World) (e : Ending) (w' : World) : Prop := ∃ ao cap, e = .returned (.tuple #[.slice ao 21 cap, .int .i64 0]) ∧ (∃ l : List UInt8, l.length = 21 ∧ l.take 13 = bareW ∧ Bytes w'.heap.size w' (.slice ao 21 cap) l) ∧ Adds w w'
theorem encW (w : World) (hv : MVars w) : Calls Tryz.prog 8 #[.agg #[.slice (some ⟨w.heap.size + 1, 0, none⟩) 1 1, .int .i64 1, .int .i64 0, .int .i64 0]]
    (((w.alloc (.cells #[.int .i64 9, .int .i64 0, .int .i64 0, .int .i64 0, .int .u32 0] 59)).alloc (.cells #[.int .i64 1, .slice (some ⟨w.heap.size, 0, none⟩) 1 1] 55)).alloc (.cells #[.slice (some ⟨w.heap.size + 1, 0, none⟩) 1 1, .int .i64 1, .int .i64 0, .int .i64 0] 24)) (EncW w) := by
  have A : Adds w (((w.alloc (.cells #[.int .i64 9, .int .i64 0, .int .i64 0, .int .i64 0, .int .u32 0] 59)).alloc (.cells #[.int .i64 1, .slice (some ⟨w.heap.size, 0, none⟩) 1 1] 55)).alloc (.cells #[.slice (some ⟨w.heap.size + 1, 0, none⟩) 1 1, .int .i64 1, .int .i64 0, .int .i64 0] 24)) := (((Gr.new _ _).alloc _).alloc _).adds
  refine (mencode _ pgW _ (hv.adds A) ((funcsW w).adds (adds_alloc _ _))).mono ?_
  rintro e w' ⟨v, h1, h2, h3⟩
  obtain ⟨ao, cap, hv, _⟩ := id h2.bytes
  rw [encW1] at hv
  subst hv
  rw [encW2] at h1
  exact ⟨ao, cap, h1, ⟨_, encW1, encWt, h2.bytes⟩, A.trans h3⟩
set_option maxRecDepth 100000 in
set_option maxHeartbeats 4000000 in
theorem worksM (w : World) (hv : MVars w) : Calls Tryz.prog 7 #[] w (TrueAdds w) := by
  have HV := Lib.hid hv; clear hv
  have hn := num10_any
  have hc13 := conv13
  go_enter Tryz.func7, Tryz.ntmps7
  go_wp2_with (first
    | (go_at_call 8; refine (encW w HV.out).mono ?_; rintro e w1 ⟨ao, cap, rfl, ⟨l, hl1, hl2, hb⟩, a1⟩; have A1 := Lib.hid a1; have HB1 := Lib.hid hb; have HD1 := Lib.hid (dec13 w1 (HV.out.adds A1.out)); have HL := Lib.hid (And.intro hl1 hl2); have hcap : 21 ≤ cap := (by obtain ⟨_, _, e, e1, _⟩ := hb; simp only [Value.slice.injEq] at e; omega); clear a1 hb hl1 hl2)
    | (go_at_call 12; refine HD1.out.mono ?_; rintro e w2 ⟨⟨ao2, cap2, rfl⟩, a2⟩; have ay := adds_alloc w2 (.cells #[.slice ao2 0 cap2, .int .i64 0, .int .i64 0, .int .i64 0] 24); have A2 := Lib.hid ((A1.out.trans a2).trans ay); have HB2 := Lib.hid ((HB1.out.adds a2).adds ay); obtain ⟨sB, hsB⟩ : ∃ s : ByteArray, s = ⟨#[108, 105, 110, 101, 1, 0, 0, 1, 1, 1, 0, 9, 0]⟩ := ⟨_, rfl⟩; rw [← hsB]; have HSB := Lib.hid hsB; have hszB : sB.size = 13 := (by rw [hsB]; rfl); have hc21 := conv21c (w2.alloc (.cells #[.slice ao2 0 cap2, .int .i64 0, .int .i64 0, .int .i64 0] 24)); rw [← hsB] at hc21; have hd := dec21 (w2.alloc (.cells #[.slice ao2 0 cap2, .int .i64 0, .int .i64 0, .int .i64 0] 24)) (HV.out.adds A2.out); obtain ⟨wz, hwz⟩ : ∃ wz, Lib.bytesWorld (w2.alloc (.cells #[.slice ao2 0 cap2, .int .i64 0, .int .i64 0, .int .i64 0] 24)) 5 ⟨#[108, 105, 110, 101, 1, 0, 0, 1, 1, 1, 0, 9, 0, 0, 0, 0, 0, 0, 0, 0, 0]⟩ = wz := ⟨_, rfl⟩; obtain ⟨gz, hgz⟩ : ∃ gz, grownCap (w2.alloc (.cells #[.slice ao2 0 cap2, .int .i64 0, .int .i64 0, .int .i64 0] 24)) 21 0 5 = gz := ⟨_, rfl⟩; rw [hwz, hgz, World.size_alloc] at hc21 hd; have HD := Lib.hid hd; clear hc13 hsB hwz hgz hd HD1; clear a2 ay)
    | (go_at_call 12; refine HD.out.mono ?_; rintro e w3 ⟨⟨ao3, cap3, rfl⟩, a3⟩; have ay := adds_alloc w3 (.cells #[.slice ao3 0 cap3, .int .i64 0, .int .i64 0, .int .i64 0] 24); have A3 := Lib.hid ((A2.out.trans a3).trans ay); have HB3 := Lib.hid ((HB2.out.adds a3).adds ay); have hc4 := conv4 (w3.alloc (.cells #[.slice ao3 0 cap3, .int .i64 0, .int .i64 0, .int .i64 0] 24)); have hd := dec4 (w3.alloc (.cells #[.slice ao3 0 cap3, .int .i64 0, .int .i64 0, .int .i64 0] 24)) (HV.out.adds A3.out); rw [World.size_alloc] at hc4 hd; have HD4 := Lib.hid hd; clear hc21 hd HD; clear a3 ay)
    | (go_at_call 12; refine HD4.out.mono ?_; rintro e w4 ⟨⟨ao4, cap4, rfl⟩, a4⟩; have ay := adds_alloc w4 (.cells #[.slice ao4 0 cap4, .int .i64 0, .int .i64 0, .int .i64 0] 24); have A4 := Lib.hid ((A3.out.trans a4).trans ay); have HB4 := Lib.hid ((HB3.out.adds a4).adds ay); have hcv : (convert 27 9 (.slice ao 13 cap)).run Tryz.prog (w4.alloc (.cells #[.slice ao4 0 cap4, .int .i64 0, .int .i64 0, .int .i64 0] 24)) = .ok (.string sB) (w4.alloc (.cells #[.slice ao4 0 cap4, .int .i64 0, .int .i64 0, .int .i64 0] 24)) := (by have h := bytes_pre (x := 13) (by rw [HL.out.1]; exact HB4.out) (by rw [HL.out.1]; decide); rw [HL.out.2] at h; rw [HSB.out]; exact strAt h); clear hc4 HD4; clear a4 ay)
    | (go_at_call 11; refine (hn _ _).mono ?_; rintro e w9 ⟨rfl, rfl⟩))
  go_ret
  exact ⟨rfl, A4.out⟩
end Go.Proofs.YthhegcngkpfcoaaGreatDoor
namespace Go.Proofs.YthhegcngkpfcoaaGreatDoor
open Go Go.RowKit Go.Shelf

end Go.Proofs.YthhegcngkpfcoaaGreatDoor
namespace Go.Proofs.YthhegcngkpfcoaaGreatDoor
open Go Go.RowKit Go.Shelf

def SomeB (e : Ending) : Prop := ∃ b, e = .returned (.bool b)
set_option maxRecDepth 100000 in
set_option maxHeartbeats 8000000 in
theorem few10_any {m : Nat} (u : Value) (p : Pg) (w : World) (hf : FuncsW m w u p.1) : Calls Tryz.prog 6 #[pgV u p] w fun e w' => SomeB e ∧ Adds w w' := by
  obtain ⟨fs, x1, x2, x3⟩ := p
  have HF := Lib.hid hf.here
  obtain ⟨ao, cap, rfl, h1, h2, _⟩ := hf
  unfold maxLen at h2
  obtain ⟨fl, hfl⟩ : ∃ fl, fs.length = fl := ⟨_, rfl⟩
  have HFl := Lib.hid hfl
  simp only [hfl] at HF h1 ⊢
  have hfI : (fl : Int) ≤ 9223372036854775807 := by omega
  clear hfl h1 h2
  obtain ⟨w1, hw1⟩ : ∃ w1, w.alloc (.cells #[.slice ao fl cap, .int .i64 x1, .int .i64 x2, .int .i64 x3] 24) = w1 := ⟨_, rfl⟩
  have A1 := Lib.hid (show Adds w w1 by rw [← hw1]; exact (Gr.new _ _).adds)
  have B1 := Lib.hid (show BkS 24 w1 w.heap.size [.slice ao fl cap, .int .i64 x1, .int .i64 x2, .int .i64 x3] by rw [← hw1]; exact BkS.new _ _ _)
  have b0 : w1.cell? ⟨w.heap.size, 0, none⟩ = some (.slice ao fl cap) := B1.out.cell 0
  go_enter Tryz.func6, Tryz.ntmps6
  go_wp2
  go_loop [3, 4] (fun n i => ∃ (z : Int) (k : Nat), n = .int .i64 z ∧ i = .int .i64 k ∧ k ≤ 40 ∧ k ≤ fl) (fun _ i => 41 - (intOf i).toNat)
  case atStart => exact ⟨0, 0, rfl, rfl, by omega, by omega⟩
  case round =>
    obtain ⟨z, k, rfl, rfl, hk40, hkl⟩ := hrel
    by_cases hlt : k < fl
    · have hltI : (k : Int) < (fl : Int) := by omega
      by_cases h40 : k < 40
      · have h40I : (k : Int) < 40 := by omega
        obtain ⟨g, off, rfl, hg, hat⟩ := (show FuncsW w.heap.size w (.slice ao fs.length cap) fs by have h := HF.out; rw [← HFl.out] at h; exact h).at (i := k) (by rw [HFl.out]; exact hlt)
        obtain ⟨k0, c, k1, hc, _⟩ := hat
        obtain ⟨ac, cc, rfl, _, _⟩ := hc.form
        generalize (fs.getD k zF).2.length = cl at *
        have k2 : w1.cell? ⟨g, off + k * 2 + 1, none⟩ = some (.slice ac cl cc) := A1.out.cellAt k1
        clear hc k0 k1
        go_wp2
        go_round
        case rel => exact ⟨_, k + 1, rfl, by go_num, by omega, by omega⟩
        case measure => simp [intOf]; omega
      · have h40I : ¬ (k : Int) < 40 := by omega
        have hfmI : ¬ (fl : Int) ≤ 40 := by omega
        go_wp2
        go_ret
        exact ⟨⟨_, rfl⟩, A1.out⟩
    · have hltI : ¬ (k : Int) < (fl : Int) := by omega
      by_cases hfm : fl ≤ 40
      · have hfmI : (fl : Int) ≤ 40 := by omega
        go_wp2
        go_ret
        exact ⟨⟨_, rfl⟩, A1.out⟩
      · exfalso; omega
end Go.Proofs.YthhegcngkpfcoaaGreatDoor
