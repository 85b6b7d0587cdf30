/- The law ProgramSame: walked. (genS3.py wrote this.) -/
import Derived.Test.YtkodjmdghjcndaaGS1
import Derived.Test.YtkodjmdghjcndaaGS2
import Derived.Test.YtkodjmdghjcndaaGFew
import Derived.Test.YtkodjmdghjcndaaG11
namespace Go.Proofs.Ytkodjmdghjcndaa
open Go Go.RowKit Go.Shelf

set_option maxRecDepth 100000 in
set_option maxHeartbeats 8000000 in
theorem law_same {m n : Nat} (u v : Value) (p q : Pg) (w : World) (hf : FuncsW m w u p.1) (hg : FuncsW n w v q.1) (hsp : ∀ f ∈ p.1, f.2.length ≤ 4398046511104) (hsq : ∀ f ∈ q.1, f.2.length ≤ 4398046511104) : Calls Try.prog 4 #[pgV u p, pgV v q] w fun e w' => e = .returned (.bool true) ∧ Adds w w' := by
  have HF := Lib.hid hf
  have HG := Lib.hid hg
  have HOk := Lib.hid hf.ok
  have HFw0 := fun W (h : Adds w W) => few_ex u p W (HF.out.adds h) hsp
  have HGw0 := fun W (h : Adds w W) => few_ex v q W (HG.out.adds h) hsq
  have HRab0 := fun W (h : Adds w W) => refSame_any u v p q W (HF.out.adds h) (HG.out.adds h)
  have HSab0 := fun W (h : Adds w W) => same_any u v p q W (HF.out.adds h) (HG.out.adds h)
  have HSba0 := fun W (h : Adds w W) => same_any v u q p W (HG.out.adds h) (HF.out.adds h)
  have HSaa0 := fun W (h : Adds w W) => same_any u u p p W (HF.out.adds h) (HF.out.adds h)
  have HCo0 := fun W (h : Adds w W) => copy_any u p W (HF.out.adds h) h.size
  have HRax0 := fun W x (h : Adds w W) (hx : CopyO W.heap.size W x p.1 ∨ ∃ B, CopyO B W x p.1) => refSame_any u x p p W (HF.out.adds h) (show FuncsW W.heap.size W x p.1 by rcases hx with hx | ⟨B, hx⟩ <;> exact hx.funcs HOk.out)
  have HSax0 := fun W x (h : Adds w W) (hx : CopyO W.heap.size W x p.1 ∨ ∃ B, CopyO B W x p.1) => same_any u x p p W (HF.out.adds h) (show FuncsW W.heap.size W x p.1 by rcases hx with hx | ⟨B, hx⟩ <;> exact hx.funcs HOk.out)
  rw [samePg_comm p q] at HSba0
  rw [samePg_self] at HSaa0 HRax0 HSax0
  generalize samePg p q = s at HRab0 HSab0 HSba0
  have NS : ∀ W, (binOp .neq 4 (.bool s) (.bool s)).run Try.prog W = .ok (.bool false) W := fun W => by cases s <;> rfl
  obtain ⟨fs, x1, x2, x3⟩ := p
  obtain ⟨gs, y1, y2, y3⟩ := q
  obtain ⟨ao, ca, rfl, hca0, hca, _⟩ := hf
  obtain ⟨bo, cb, rfl, _, _, _⟩ := hg
  unfold maxLen at hca
  simp only at hca0 HFw0 HGw0 HRab0 HSab0 HSba0 HSaa0 HCo0 HRax0 HSax0 HF HG HOk ⊢
  obtain ⟨fl, hfl⟩ : ∃ l, fs.length = l := ⟨_, rfl⟩
  obtain ⟨gl, hgl⟩ : ∃ l, gs.length = l := ⟨_, rfl⟩
  have HFl := Lib.hid hfl
  have HGl := Lib.hid hgl
  simp only [hfl] at HFw0 HRab0 HSab0 HSba0 HSaa0 HCo0 HRax0 HSax0 HF ⊢
  simp only [hgl] at HGw0 HRab0 HSab0 HSba0 HG ⊢
  have hflI : (fl : Int) ≤ 9223372036854775807 := by rw [hfl] at hca0; omega
  clear hfl hgl hca hca0 hsp hsq
  obtain ⟨w1, hw1⟩ : ∃ w1, w.alloc (.cells #[.slice ao fl ca, .int .i64 x1, .int .i64 x2, .int .i64 x3] 24) = w1 := ⟨_, rfl⟩
  have A1 := Lib.hid (show Adds w w1 by rw [← hw1]; exact (Gr.new _ _).adds)
  have B1 := Lib.hid (show BkS 24 w1 w.heap.size [.slice ao fl ca, .int .i64 x1, .int .i64 x2, .int .i64 x3] by rw [← hw1]; exact BkS.new _ _ _)
  obtain ⟨w2, hw2⟩ : ∃ w2, w1.alloc (.cells #[.slice bo gl cb, .int .i64 y1, .int .i64 y2, .int .i64 y3] 24) = w2 := ⟨_, rfl⟩
  have A2 := Lib.hid (show Adds w1 w2 by rw [← hw2]; exact (Gr.new _ _).adds)
  have B2 := Lib.hid (show BkS 24 w2 w1.heap.size [.slice bo gl cb, .int .i64 y1, .int .i64 y2, .int .i64 y3] by rw [← hw2]; exact BkS.new _ _ _)
  have A12 := Lib.hid (Adds.trans A1.out A2.out)
  have C1 := Lib.hid (B1.out.adds A2.out)
  have HFw := Lib.hid (fun W (h : Adds w2 W) => HFw0 W (Adds.trans A12.out h))
  have HGw := Lib.hid (fun W (h : Adds w2 W) => HGw0 W (Adds.trans A12.out h))
  have HRab := Lib.hid (fun W (h : Adds w2 W) => HRab0 W (Adds.trans A12.out h))
  have HSab := Lib.hid (fun W (h : Adds w2 W) => HSab0 W (Adds.trans A12.out h))
  have HSba := Lib.hid (fun W (h : Adds w2 W) => HSba0 W (Adds.trans A12.out h))
  have HSaa := Lib.hid (fun W (h : Adds w2 W) => HSaa0 W (Adds.trans A12.out h))
  have HCo := Lib.hid (fun W (h : Adds w2 W) => HCo0 W (Adds.trans A12.out h))
  have HRax := Lib.hid (fun W x (h : Adds w2 W) => HRax0 W x (Adds.trans A12.out h))
  have HSax := Lib.hid (fun W x (h : Adds w2 W) => HSax0 W x (Adds.trans A12.out h))
  clear HFw0 HGw0 HRab0 HSab0 HSba0 HSaa0 HCo0 HRax0 HSax0
  have a0 : w2.cell? ⟨w.heap.size, 0, none⟩ = some (.slice ao fl ca) := (C1.out.adds (Adds.refl w2)).cell 0; have a1 : w2.cell? ⟨w.heap.size, 1, none⟩ = some (.int .i64 x1) := (C1.out.adds (Adds.refl w2)).cell 1; have a2 : w2.cell? ⟨w.heap.size, 2, none⟩ = some (.int .i64 x2) := (C1.out.adds (Adds.refl w2)).cell 2; have a3 : w2.cell? ⟨w.heap.size, 3, none⟩ = some (.int .i64 x3) := (C1.out.adds (Adds.refl w2)).cell 3; have b0 : w2.cell? ⟨w1.heap.size, 0, none⟩ = some (.slice bo gl cb) := (B2.out.adds (Adds.refl w2)).cell 0; have b1 : w2.cell? ⟨w1.heap.size, 1, none⟩ = some (.int .i64 y1) := (B2.out.adds (Adds.refl w2)).cell 1; have b2 : w2.cell? ⟨w1.heap.size, 2, none⟩ = some (.int .i64 y2) := (B2.out.adds (Adds.refl w2)).cell 2; have b3 : w2.cell? ⟨w1.heap.size, 3, none⟩ = some (.int .i64 y3) := (B2.out.adds (Adds.refl w2)).cell 3
  go_enter Try.func4, Try.ntmps4
  go_wp2_with (first
    | (go_at_call 5; refine (HFw.out _ (Adds.refl w2)).mono ?_; clear HFw; rintro e w3 ⟨⟨b, rfl, hb⟩, q⟩; have HBa := Lib.hid hb; have A3 := Lib.hid q; clear a0 a1 a2 a3 b0 b1 b2 b3; have a0 : w3.cell? ⟨w.heap.size, 0, none⟩ = some (.slice ao fl ca) := (C1.out.adds q).cell 0; have a1 : w3.cell? ⟨w.heap.size, 1, none⟩ = some (.int .i64 x1) := (C1.out.adds q).cell 1; have a2 : w3.cell? ⟨w.heap.size, 2, none⟩ = some (.int .i64 x2) := (C1.out.adds q).cell 2; have a3 : w3.cell? ⟨w.heap.size, 3, none⟩ = some (.int .i64 x3) := (C1.out.adds q).cell 3; have b0 : w3.cell? ⟨w1.heap.size, 0, none⟩ = some (.slice bo gl cb) := (B2.out.adds q).cell 0; have b1 : w3.cell? ⟨w1.heap.size, 1, none⟩ = some (.int .i64 y1) := (B2.out.adds q).cell 1; have b2 : w3.cell? ⟨w1.heap.size, 2, none⟩ = some (.int .i64 y2) := (B2.out.adds q).cell 2; have b3 : w3.cell? ⟨w1.heap.size, 3, none⟩ = some (.int .i64 y3) := (B2.out.adds q).cell 3; clear q hb; cases b)
    | (go_at_call 5; refine (HGw.out _ A3.out).mono ?_; clear HGw; rintro e w4 ⟨⟨b', rfl, hb⟩, q⟩; have A4 := Lib.hid (Adds.trans A3.out q); clear a0 a1 a2 a3 b0 b1 b2 b3; have a0 : w4.cell? ⟨w.heap.size, 0, none⟩ = some (.slice ao fl ca) := (C1.out.adds A4.out).cell 0; have a1 : w4.cell? ⟨w.heap.size, 1, none⟩ = some (.int .i64 x1) := (C1.out.adds A4.out).cell 1; have a2 : w4.cell? ⟨w.heap.size, 2, none⟩ = some (.int .i64 x2) := (C1.out.adds A4.out).cell 2; have a3 : w4.cell? ⟨w.heap.size, 3, none⟩ = some (.int .i64 x3) := (C1.out.adds A4.out).cell 3; have b0 : w4.cell? ⟨w1.heap.size, 0, none⟩ = some (.slice bo gl cb) := (B2.out.adds A4.out).cell 0; have b1 : w4.cell? ⟨w1.heap.size, 1, none⟩ = some (.int .i64 y1) := (B2.out.adds A4.out).cell 1; have b2 : w4.cell? ⟨w1.heap.size, 2, none⟩ = some (.int .i64 y2) := (B2.out.adds A4.out).cell 2; have b3 : w4.cell? ⟨w1.heap.size, 3, none⟩ = some (.int .i64 y3) := (B2.out.adds A4.out).cell 3; clear q hb; cases b')
    | (go_at_call 11; refine (HRab.out _ A4.out).mono ?_; clear HRab; rintro e w5 ⟨rfl, q⟩; have A5 := Lib.hid (Adds.trans A4.out q); clear a0 a1 a2 a3 b0 b1 b2 b3; have a0 : w5.cell? ⟨w.heap.size, 0, none⟩ = some (.slice ao fl ca) := (C1.out.adds A5.out).cell 0; have a1 : w5.cell? ⟨w.heap.size, 1, none⟩ = some (.int .i64 x1) := (C1.out.adds A5.out).cell 1; have a2 : w5.cell? ⟨w.heap.size, 2, none⟩ = some (.int .i64 x2) := (C1.out.adds A5.out).cell 2; have a3 : w5.cell? ⟨w.heap.size, 3, none⟩ = some (.int .i64 x3) := (C1.out.adds A5.out).cell 3; have b0 : w5.cell? ⟨w1.heap.size, 0, none⟩ = some (.slice bo gl cb) := (B2.out.adds A5.out).cell 0; have b1 : w5.cell? ⟨w1.heap.size, 1, none⟩ = some (.int .i64 y1) := (B2.out.adds A5.out).cell 1; have b2 : w5.cell? ⟨w1.heap.size, 2, none⟩ = some (.int .i64 y2) := (B2.out.adds A5.out).cell 2; have b3 : w5.cell? ⟨w1.heap.size, 3, none⟩ = some (.int .i64 y3) := (B2.out.adds A5.out).cell 3; clear q)
    | (go_at_call 12; go_must (refine (HCo.out _ A5.out (by have h := (HBa.out trivial).1; rw [HFl.out] at h; exact h) (HBa.out trivial).2).mono ?_; rintro e w6 ⟨cv', rfl, hco, q⟩; have hcs := hco.shape; obtain ⟨cv, cp, rfl, hcm, hcg⟩ := hcs.form; rw [HFl.out] at hcg; have HCg := Lib.hid hcg; have HCO := Lib.hid hco; have A6 := Lib.hid (Adds.trans A5.out q); simp only [HFl.out] at HCO ⊢; have E6 := Lib.hid (show Adds w6 (w6.alloc (.cells #[.slice cv fl cp, .int .i64 x1, .int .i64 x2, .int .i64 x3] 24)) from (Gr.new _ _).adds); have D7 := Lib.hid (BkS.new 24 w6 [.slice cv fl cp, .int .i64 x1, .int .i64 x2, .int .i64 x3]); have A7 := Lib.hid (Adds.trans A6.out E6.out); clear a0 a1 a2 a3 b0 b1 b2 b3; have a0 : (w6.alloc (.cells #[.slice cv fl cp, .int .i64 x1, .int .i64 x2, .int .i64 x3] 24)).cell? ⟨w.heap.size, 0, none⟩ = some (.slice ao fl ca) := (C1.out.adds A7.out).cell 0; have a1 : (w6.alloc (.cells #[.slice cv fl cp, .int .i64 x1, .int .i64 x2, .int .i64 x3] 24)).cell? ⟨w.heap.size, 1, none⟩ = some (.int .i64 x1) := (C1.out.adds A7.out).cell 1; have a2 : (w6.alloc (.cells #[.slice cv fl cp, .int .i64 x1, .int .i64 x2, .int .i64 x3] 24)).cell? ⟨w.heap.size, 2, none⟩ = some (.int .i64 x2) := (C1.out.adds A7.out).cell 2; have a3 : (w6.alloc (.cells #[.slice cv fl cp, .int .i64 x1, .int .i64 x2, .int .i64 x3] 24)).cell? ⟨w.heap.size, 3, none⟩ = some (.int .i64 x3) := (C1.out.adds A7.out).cell 3; have b0 : (w6.alloc (.cells #[.slice cv fl cp, .int .i64 x1, .int .i64 x2, .int .i64 x3] 24)).cell? ⟨w1.heap.size, 0, none⟩ = some (.slice bo gl cb) := (B2.out.adds A7.out).cell 0; have b1 : (w6.alloc (.cells #[.slice cv fl cp, .int .i64 x1, .int .i64 x2, .int .i64 x3] 24)).cell? ⟨w1.heap.size, 1, none⟩ = some (.int .i64 y1) := (B2.out.adds A7.out).cell 1; have b2 : (w6.alloc (.cells #[.slice cv fl cp, .int .i64 x1, .int .i64 x2, .int .i64 x3] 24)).cell? ⟨w1.heap.size, 2, none⟩ = some (.int .i64 y2) := (B2.out.adds A7.out).cell 2; have b3 : (w6.alloc (.cells #[.slice cv fl cp, .int .i64 x1, .int .i64 x2, .int .i64 x3] 24)).cell? ⟨w1.heap.size, 3, none⟩ = some (.int .i64 y3) := (B2.out.adds A7.out).cell 3; have c0 : (w6.alloc (.cells #[.slice cv fl cp, .int .i64 x1, .int .i64 x2, .int .i64 x3] 24)).cell? ⟨w6.heap.size, 0, none⟩ = some (.slice cv fl cp) := (D7.out).cell 0; have c1 : (w6.alloc (.cells #[.slice cv fl cp, .int .i64 x1, .int .i64 x2, .int .i64 x3] 24)).cell? ⟨w6.heap.size, 1, none⟩ = some (.int .i64 x1) := (D7.out).cell 1; have c2 : (w6.alloc (.cells #[.slice cv fl cp, .int .i64 x1, .int .i64 x2, .int .i64 x3] 24)).cell? ⟨w6.heap.size, 2, none⟩ = some (.int .i64 x2) := (D7.out).cell 2; have c3 : (w6.alloc (.cells #[.slice cv fl cp, .int .i64 x1, .int .i64 x2, .int .i64 x3] 24)).cell? ⟨w6.heap.size, 3, none⟩ = some (.int .i64 x3) := (D7.out).cell 3; clear q hco hcs hcm hcg))
    | (go_at_call 13; refine (HSab.out _ A7.out).mono ?_; clear HSab; rintro e w8 ⟨rfl, q⟩; have E8 := Lib.hid (Adds.trans E6.out q); have A8 := Lib.hid (Adds.trans A7.out q); have D8 := Lib.hid (D7.out.adds q); clear a0 a1 a2 a3 b0 b1 b2 b3 c0 c1 c2 c3; have a0 : w8.cell? ⟨w.heap.size, 0, none⟩ = some (.slice ao fl ca) := (C1.out.adds A8.out).cell 0; have a1 : w8.cell? ⟨w.heap.size, 1, none⟩ = some (.int .i64 x1) := (C1.out.adds A8.out).cell 1; have a2 : w8.cell? ⟨w.heap.size, 2, none⟩ = some (.int .i64 x2) := (C1.out.adds A8.out).cell 2; have a3 : w8.cell? ⟨w.heap.size, 3, none⟩ = some (.int .i64 x3) := (C1.out.adds A8.out).cell 3; have b0 : w8.cell? ⟨w1.heap.size, 0, none⟩ = some (.slice bo gl cb) := (B2.out.adds A8.out).cell 0; have b1 : w8.cell? ⟨w1.heap.size, 1, none⟩ = some (.int .i64 y1) := (B2.out.adds A8.out).cell 1; have b2 : w8.cell? ⟨w1.heap.size, 2, none⟩ = some (.int .i64 y2) := (B2.out.adds A8.out).cell 2; have b3 : w8.cell? ⟨w1.heap.size, 3, none⟩ = some (.int .i64 y3) := (B2.out.adds A8.out).cell 3; have c0 : w8.cell? ⟨w6.heap.size, 0, none⟩ = some (.slice cv fl cp) := (D8.out).cell 0; have c1 : w8.cell? ⟨w6.heap.size, 1, none⟩ = some (.int .i64 x1) := (D8.out).cell 1; have c2 : w8.cell? ⟨w6.heap.size, 2, none⟩ = some (.int .i64 x2) := (D8.out).cell 2; have c3 : w8.cell? ⟨w6.heap.size, 3, none⟩ = some (.int .i64 x3) := (D8.out).cell 3; clear q)
    | (go_at_call 13; refine (HSba.out _ A8.out).mono ?_; clear HSba; rintro e w9 ⟨rfl, q⟩; have E9 := Lib.hid (Adds.trans E8.out q); have A9 := Lib.hid (Adds.trans A8.out q); have D9 := Lib.hid (D8.out.adds q); clear a0 a1 a2 a3 b0 b1 b2 b3 c0 c1 c2 c3; have a0 : w9.cell? ⟨w.heap.size, 0, none⟩ = some (.slice ao fl ca) := (C1.out.adds A9.out).cell 0; have a1 : w9.cell? ⟨w.heap.size, 1, none⟩ = some (.int .i64 x1) := (C1.out.adds A9.out).cell 1; have a2 : w9.cell? ⟨w.heap.size, 2, none⟩ = some (.int .i64 x2) := (C1.out.adds A9.out).cell 2; have a3 : w9.cell? ⟨w.heap.size, 3, none⟩ = some (.int .i64 x3) := (C1.out.adds A9.out).cell 3; have b0 : w9.cell? ⟨w1.heap.size, 0, none⟩ = some (.slice bo gl cb) := (B2.out.adds A9.out).cell 0; have b1 : w9.cell? ⟨w1.heap.size, 1, none⟩ = some (.int .i64 y1) := (B2.out.adds A9.out).cell 1; have b2 : w9.cell? ⟨w1.heap.size, 2, none⟩ = some (.int .i64 y2) := (B2.out.adds A9.out).cell 2; have b3 : w9.cell? ⟨w1.heap.size, 3, none⟩ = some (.int .i64 y3) := (B2.out.adds A9.out).cell 3; have c0 : w9.cell? ⟨w6.heap.size, 0, none⟩ = some (.slice cv fl cp) := (D9.out).cell 0; have c1 : w9.cell? ⟨w6.heap.size, 1, none⟩ = some (.int .i64 x1) := (D9.out).cell 1; have c2 : w9.cell? ⟨w6.heap.size, 2, none⟩ = some (.int .i64 x2) := (D9.out).cell 2; have c3 : w9.cell? ⟨w6.heap.size, 3, none⟩ = some (.int .i64 x3) := (D9.out).cell 3; clear q)
    | (go_at_call 13; refine (HSaa.out _ A9.out).mono ?_; clear HSaa; rintro e wa ⟨rfl, q⟩; have Ea := Lib.hid (Adds.trans E9.out q); have Aa := Lib.hid (Adds.trans A9.out q); have Da := Lib.hid (D9.out.adds q); clear a0 a1 a2 a3 b0 b1 b2 b3 c0 c1 c2 c3; have a0 : wa.cell? ⟨w.heap.size, 0, none⟩ = some (.slice ao fl ca) := (C1.out.adds Aa.out).cell 0; have a1 : wa.cell? ⟨w.heap.size, 1, none⟩ = some (.int .i64 x1) := (C1.out.adds Aa.out).cell 1; have a2 : wa.cell? ⟨w.heap.size, 2, none⟩ = some (.int .i64 x2) := (C1.out.adds Aa.out).cell 2; have a3 : wa.cell? ⟨w.heap.size, 3, none⟩ = some (.int .i64 x3) := (C1.out.adds Aa.out).cell 3; have b0 : wa.cell? ⟨w1.heap.size, 0, none⟩ = some (.slice bo gl cb) := (B2.out.adds Aa.out).cell 0; have b1 : wa.cell? ⟨w1.heap.size, 1, none⟩ = some (.int .i64 y1) := (B2.out.adds Aa.out).cell 1; have b2 : wa.cell? ⟨w1.heap.size, 2, none⟩ = some (.int .i64 y2) := (B2.out.adds Aa.out).cell 2; have b3 : wa.cell? ⟨w1.heap.size, 3, none⟩ = some (.int .i64 y3) := (B2.out.adds Aa.out).cell 3; have c0 : wa.cell? ⟨w6.heap.size, 0, none⟩ = some (.slice cv fl cp) := (Da.out).cell 0; have c1 : wa.cell? ⟨w6.heap.size, 1, none⟩ = some (.int .i64 x1) := (Da.out).cell 1; have c2 : wa.cell? ⟨w6.heap.size, 2, none⟩ = some (.int .i64 x2) := (Da.out).cell 2; have c3 : wa.cell? ⟨w6.heap.size, 3, none⟩ = some (.int .i64 x3) := (Da.out).cell 3; clear q)
    | (go_at_call 11; refine (HRax.out _ _ Aa.out (Or.inr ⟨_, HCO.out.adds Ea.out⟩)).mono ?_; rintro e wb ⟨rfl, q⟩; have Eb := Lib.hid (Adds.trans Ea.out q); have Ab := Lib.hid (Adds.trans Aa.out q); have Db := Lib.hid (Da.out.adds q); clear a0 a1 a2 a3 b0 b1 b2 b3 c0 c1 c2 c3; clear q)
    | (go_at_call 6; refine (worksP _).mono ?_; rintro e wk ⟨rfl, q⟩; have AK := Lib.hid q; clear q))
  · go_ret
    exact ⟨rfl, Adds.trans A12.out (Adds.trans A3.out AK.out)⟩
  · go_ret
    exact ⟨rfl, Adds.trans A12.out (Adds.trans A4.out AK.out)⟩
  · have HSh := Lib.hid (HCO.out.shape.adds Eb.out)
    have H25 := Lib.hid A5.out.size
    clear HCO
    go_loopw [7] (fun i wr => ∃ k : Nat, i = .int .i64 k ∧ k ≤ fl ∧ Hid (Adds w2 wr) ∧ Hid (BkS 24 wr w6.heap.size [.slice cv fl cp, .int .i64 x1, .int .i64 x2, .int .i64 x3]) ∧ Hid (ShapeW w5.heap.size wr (.slice cv fs.length cp) fs)) (fun i _ => fl + 1 - (intOf i).toNat)
    case atStart => exact ⟨0, rfl, Nat.zero_le _, Ab, Db, Lib.hid (by rw [HFl.out]; exact HSh.out)⟩
    case round =>
      obtain ⟨k, rfl, hk, HA, HD, HS⟩ := hrel
      have c0 : wr.cell? ⟨w6.heap.size, 0, none⟩ = some (.slice cv fl cp) := HD.out.cell 0
      by_cases hlt : k < fl
      · have hltI : (k : Int) < (fl : Int) := by omega
        have HLt := Lib.hid hlt
        obtain ⟨g, rfl⟩ := HCg.out (Nat.lt_of_le_of_lt (Nat.zero_le _) hlt)
        obtain ⟨x, ah, ch, k0, kf, _⟩ := HS.out.at (i := k) (by rw [HFl.out]; exact hlt)
        clear hlt hk
        go_wp2
        have HA2 := Lib.hid (show Adds w2 (wr.setCell ⟨g, k * 2, none⟩ (.int .i64 77)) from Adds.set HA.out (Nat.le_trans H25.out HS.out.block.1) _ _)
        have HD2 := Lib.hid (HD.out.other (c := g) (i := k * 2) (by obtain ⟨_, cur, hc⟩ := HS.out.block; exact bks_ne HD.out hc (by decide)) (.int .i64 77))
        have HS2 := Lib.hid (HS.out.regs k 77)
        clear k0 kf c0 HA HD HS
        generalize wr.setCell ⟨g, k * 2, none⟩ (.int .i64 77) = W1 at *
        go_loopw [8] (fun j wr => ∃ q : Nat, j = .int .i64 q ∧ q ≤ (fs.getD k zF).2.length ∧ Hid (Adds w2 wr) ∧ Hid (BkS 24 wr w6.heap.size [.slice (some ⟨g, 0, none⟩) fl cp, .int .i64 x1, .int .i64 x2, .int .i64 x3]) ∧ Hid (ShapeW w5.heap.size wr (.slice (some ⟨g, 0, none⟩) fs.length cp) fs)) (fun j _ => (fs.getD k zF).2.length + 1 - (intOf j).toNat)
        case atStart => exact ⟨0, rfl, Nat.zero_le _, HA2, HD2, HS2⟩
        case round =>
          obtain ⟨q, rfl, hq, HA, HD, HS⟩ := hrel
          have c0 : wr.cell? ⟨w6.heap.size, 0, none⟩ = some (.slice (some ⟨g, 0, none⟩) fl cp) := HD.out.cell 0
          obtain ⟨x, ah, ch, _, _, k1, hcode⟩ := HS.out.at (i := k) (by rw [HFl.out]; exact HLt.out)
          obtain ⟨cl, hcl⟩ : ∃ l, (fs.getD k zF).2.length = l := ⟨_, rfl⟩
          have HCl := Lib.hid hcl
          have hclN : cl ≤ 1600 := by
            have hk : k < fs.length := by rw [HFl.out]; exact HLt.out
            rw [← hcl, List.getD_eq_getElem?_getD, List.getElem?_eq_getElem hk]
            exact (HBa.out trivial).2 _ (List.getElem_mem hk)
          have hclI : (cl : Int) ≤ 1600 := by omega
          rw [hcl] at k1 hq hcode
          clear hcl hclN
          by_cases hqt : q < cl
          · obtain ⟨b, z, rfl, hbB, ⟨cur, hcur⟩, j0, jf⟩ := hcode q hqt
            have HQt := Lib.hid hqt
            have hqI : (q : Int) < (cl : Int) := by omega
            have HN := Lib.hid hcur
            have HB := Lib.hid hbB
            clear hcode hqt hq hcur hbB
            go_wp2
            go_roundw
            case rel => exact ⟨q + 1, by go_num, by rw [HCl.out]; exact HQt.out, Lib.hid (Adds.set HA.out (Nat.le_trans H25.out HB.out) _ _), Lib.hid (HD.out.other (bks_ne HD.out HN.out (by decide)) _), Lib.hid (HS.out.code HN.out _ _)⟩
            case measure => rw [HCl.out]; simp [intOf]; have := HQt.out; omega
          · have hqI : ¬ (q : Int) < (cl : Int) := by omega
            clear hcode hqt hq
            go_wp2
            go_roundw
            case rel => exact ⟨k + 1, by go_num, HLt.out, HA, HD, HS⟩
            case measure => simp [intOf]; have := HLt.out; omega
      · have hltI : ¬ (k : Int) < (fl : Int) := by omega
        clear hlt hk
        have a0 : wr.cell? ⟨w.heap.size, 0, none⟩ = some (.slice ao fl ca) := (C1.out.adds HA.out).cell 0; have a1 : wr.cell? ⟨w.heap.size, 1, none⟩ = some (.int .i64 x1) := (C1.out.adds HA.out).cell 1; have a2 : wr.cell? ⟨w.heap.size, 2, none⟩ = some (.int .i64 x2) := (C1.out.adds HA.out).cell 2; have a3 : wr.cell? ⟨w.heap.size, 3, none⟩ = some (.int .i64 x3) := (C1.out.adds HA.out).cell 3; have b0 : wr.cell? ⟨w1.heap.size, 0, none⟩ = some (.slice bo gl cb) := (B2.out.adds HA.out).cell 0; have b1 : wr.cell? ⟨w1.heap.size, 1, none⟩ = some (.int .i64 y1) := (B2.out.adds HA.out).cell 1; have b2 : wr.cell? ⟨w1.heap.size, 2, none⟩ = some (.int .i64 y2) := (B2.out.adds HA.out).cell 2; have b3 : wr.cell? ⟨w1.heap.size, 3, none⟩ = some (.int .i64 y3) := (B2.out.adds HA.out).cell 3
        go_wp2_with (first
          | (go_at_call 12; go_must (refine (HCo.out _ HA.out (by have h := (HBa.out trivial).1; rw [HFl.out] at h; exact h) (HBa.out trivial).2).mono ?_; clear HCo; rintro e x6 ⟨dv', rfl, hdo, q⟩; obtain ⟨dv, dp, rfl, _, _⟩ := hdo.shape.form; have HDO := Lib.hid hdo; have X6 := Lib.hid (Adds.trans HA.out q); simp only [HFl.out] at HDO ⊢; have Y6 := Lib.hid (show Adds x6 (x6.alloc (.cells #[.slice dv fl dp, .int .i64 x1, .int .i64 x2, .int .i64 x3] 24)) from (Gr.new _ _).adds); have Z6 := Lib.hid (BkS.new 24 x6 [.slice dv fl dp, .int .i64 x1, .int .i64 x2, .int .i64 x3]); have X7 := Lib.hid (Adds.trans X6.out Y6.out); clear a0 a1 a2 a3 b0 b1 b2 b3; have a0 : (x6.alloc (.cells #[.slice dv fl dp, .int .i64 x1, .int .i64 x2, .int .i64 x3] 24)).cell? ⟨w.heap.size, 0, none⟩ = some (.slice ao fl ca) := (C1.out.adds X7.out).cell 0; have a1 : (x6.alloc (.cells #[.slice dv fl dp, .int .i64 x1, .int .i64 x2, .int .i64 x3] 24)).cell? ⟨w.heap.size, 1, none⟩ = some (.int .i64 x1) := (C1.out.adds X7.out).cell 1; have a2 : (x6.alloc (.cells #[.slice dv fl dp, .int .i64 x1, .int .i64 x2, .int .i64 x3] 24)).cell? ⟨w.heap.size, 2, none⟩ = some (.int .i64 x2) := (C1.out.adds X7.out).cell 2; have a3 : (x6.alloc (.cells #[.slice dv fl dp, .int .i64 x1, .int .i64 x2, .int .i64 x3] 24)).cell? ⟨w.heap.size, 3, none⟩ = some (.int .i64 x3) := (C1.out.adds X7.out).cell 3; have d0 : (x6.alloc (.cells #[.slice dv fl dp, .int .i64 x1, .int .i64 x2, .int .i64 x3] 24)).cell? ⟨x6.heap.size, 0, none⟩ = some (.slice dv fl dp) := (Z6.out).cell 0; have d1 : (x6.alloc (.cells #[.slice dv fl dp, .int .i64 x1, .int .i64 x2, .int .i64 x3] 24)).cell? ⟨x6.heap.size, 1, none⟩ = some (.int .i64 x1) := (Z6.out).cell 1; have d2 : (x6.alloc (.cells #[.slice dv fl dp, .int .i64 x1, .int .i64 x2, .int .i64 x3] 24)).cell? ⟨x6.heap.size, 2, none⟩ = some (.int .i64 x2) := (Z6.out).cell 2; have d3 : (x6.alloc (.cells #[.slice dv fl dp, .int .i64 x1, .int .i64 x2, .int .i64 x3] 24)).cell? ⟨x6.heap.size, 3, none⟩ = some (.int .i64 x3) := (Z6.out).cell 3; clear q hdo))
          | (go_at_call 11; refine (HRax.out _ _ X7.out (Or.inr ⟨_, HDO.out.adds Y6.out⟩)).mono ?_; clear HRax; rintro e x8 ⟨rfl, q⟩; have Y8 := Lib.hid (Adds.trans Y6.out q); have X8 := Lib.hid (Adds.trans X7.out q); clear a0 a1 a2 a3 d0 d1 d2 d3; have a0 : x8.cell? ⟨w.heap.size, 0, none⟩ = some (.slice ao fl ca) := (C1.out.adds X8.out).cell 0; have a1 : x8.cell? ⟨w.heap.size, 1, none⟩ = some (.int .i64 x1) := (C1.out.adds X8.out).cell 1; have a2 : x8.cell? ⟨w.heap.size, 2, none⟩ = some (.int .i64 x2) := (C1.out.adds X8.out).cell 2; have a3 : x8.cell? ⟨w.heap.size, 3, none⟩ = some (.int .i64 x3) := (C1.out.adds X8.out).cell 3; have d0 : x8.cell? ⟨x6.heap.size, 0, none⟩ = some (.slice dv fl dp) := (Z6.out.adds q).cell 0; have d1 : x8.cell? ⟨x6.heap.size, 1, none⟩ = some (.int .i64 x1) := (Z6.out.adds q).cell 1; have d2 : x8.cell? ⟨x6.heap.size, 2, none⟩ = some (.int .i64 x2) := (Z6.out.adds q).cell 2; have d3 : x8.cell? ⟨x6.heap.size, 3, none⟩ = some (.int .i64 x3) := (Z6.out.adds q).cell 3; clear q)
          | (go_at_call 13; refine (HSax.out _ _ X8.out (Or.inr ⟨_, HDO.out.adds Y8.out⟩)).mono ?_; clear HSax; rintro e x9 ⟨rfl, q⟩; have X9 := Lib.hid (Adds.trans X8.out q); clear q)
          | (go_at_call 6; refine (worksP _).mono ?_; rintro e wk ⟨rfl, q⟩; have AK := Lib.hid q; clear q))
        go_ret
        exact ⟨rfl, Adds.trans A12.out (Adds.trans X9.out AK.out)⟩
end Go.Proofs.Ytkodjmdghjcndaa
