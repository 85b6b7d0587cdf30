/- The law ProgramAt: walked. (genG15.py wrote this.) -/
import Derived.Test.YtdbbilabhlnhmaaG13
import Derived.Test.YtdbbilabhlnhmaaG14
namespace Go.Proofs.Ytdbbilabhlnhmaa
open Go Go.RowKit Go.Shelf

set_option maxRecDepth 100000 in
set_option maxHeartbeats 8000000 in
theorem law_at {m : Nat} (u : Value) (p : Pg) (f pc : Int) (w : World) (hf : FuncsW m w u p.1) : Calls Try.prog 4 #[pgV u p, .agg #[.int .i64 f, .int .i64 pc]] w fun e w' => e = .returned (.bool true) ∧ Adds w w' := by
  have HF := Lib.hid hf
  obtain ⟨y, hy⟩ : ∃ y, atP p.1 f pc = y := ⟨_, rfl⟩
  have HAt0 := fun W (h : Adds w W) => at_any u p f pc W (HF.out.adds h)
  have HRf0 := fun W (h : Adds w W) => refAt_any u p f pc W (HF.out.adds h)
  have HFw0 := fun W (h : Adds w W) => few_any u p W (HF.out.adds h)
  rw [hy] at HAt0 HRf0
  clear hy
  obtain ⟨fs, x1, x2, x3⟩ := p
  obtain ⟨⟨ox, oa, ob, oc, oi⟩, er⟩ := y
  have EQ : ∀ W, (binOp .eql 39 (.agg #[.int .i64 ox, .int .i64 oa, .int .i64 ob, .int .i64 oc, .int .u32 oi]) (.agg #[.int .i64 ox, .int .i64 oa, .int .i64 ob, .int .i64 oc, .int .u32 oi])).run Try.prog W = .ok (.bool true) W := fun W => by
    have h := ins_eql (ox, oa, ob, oc, oi) (ox, oa, ob, oc, oi) W
    rw [show eqI (ox, oa, ob, oc, oi) (ox, oa, ob, oc, oi) = true by simp [eqI]] at h
    exact h
  obtain ⟨ao, cap, rfl, _, _, _⟩ := hf
  simp only at HAt0 HRf0 HFw0 ⊢
  generalize fs.length = fl at HAt0 HRf0 HFw0 ⊢
  obtain ⟨w1, hw1⟩ : ∃ w1, w.alloc (.cells #[.slice ao fl cap, .int .i64 x1, .int .i64 x2, .int .i64 x3] 24) = w1 := ⟨_, rfl⟩
  have A1 := Lib.hid (show Adds w w1 by rw [← hw1]; exact (Gr.new _ _).adds)
  have B1 := Lib.hid (show BkS 24 w1 w.heap.size [.slice ao fl cap, .int .i64 x1, .int .i64 x2, .int .i64 x3] by rw [← hw1]; exact BkS.new _ _ _)
  obtain ⟨w2, hw2⟩ : ∃ w2, w1.alloc (.cells #[.int .i64 f, .int .i64 pc] 34) = w2 := ⟨_, rfl⟩
  have A2 := Lib.hid (show Adds w1 w2 by rw [← hw2]; exact (Gr.new _ _).adds)
  have B2 := Lib.hid (show BkS 34 w2 w1.heap.size [.int .i64 f, .int .i64 pc] by rw [← hw2]; exact BkS.new _ _ _)
  have A12 := Lib.hid (Adds.trans A1.out A2.out)
  have HFw := Lib.hid (show Calls Try.prog 6 #[.agg #[.slice ao fl cap, .int .i64 x1, .int .i64 x2, .int .i64 x3]] w2 fun e w' => SomeB e ∧ Adds w2 w' from HFw0 w2 A12.out)
  have HAt := Lib.hid (fun W (h : Adds w2 W) => show Calls Try.prog 12 #[.agg #[.slice ao fl cap, .int .i64 x1, .int .i64 x2, .int .i64 x3], .agg #[.int .i64 f, .int .i64 pc]] W fun e w' => e = .returned (.tuple #[.agg #[.int .i64 ox, .int .i64 oa, .int .i64 ob, .int .i64 oc, .int .u32 oi], .int .i64 er]) ∧ Adds W w' from HAt0 W (Adds.trans A12.out h))
  have HRf := Lib.hid (fun W (h : Adds w2 W) => show Calls Try.prog 13 #[.agg #[.slice ao fl cap, .int .i64 x1, .int .i64 x2, .int .i64 x3], .agg #[.int .i64 f, .int .i64 pc]] W fun e w' => e = .returned (.tuple #[.agg #[.int .i64 ox, .int .i64 oa, .int .i64 ob, .int .i64 oc, .int .u32 oi], .int .i64 er]) ∧ Adds W w' from HRf0 W (Adds.trans A12.out h))
  clear HFw0 HAt0 HRf0 HF
  have p1 := B1.out.adds (Adds.trans A2.out (Adds.refl w2))
  have p2 := B2.out.adds (Adds.refl w2)
  have b0 : w2.cell? ⟨w.heap.size, 0, none⟩ = some (.slice ao fl cap) := p1.cell 0
  have b1 : w2.cell? ⟨w.heap.size, 1, none⟩ = some (.int .i64 x1) := p1.cell 1
  have b2 : w2.cell? ⟨w.heap.size, 2, none⟩ = some (.int .i64 x2) := p1.cell 2
  have b3 : w2.cell? ⟨w.heap.size, 3, none⟩ = some (.int .i64 x3) := p1.cell 3
  have c0 : w2.cell? ⟨w1.heap.size, 0, none⟩ = some (.int .i64 f) := p2.cell 0
  have c1 : w2.cell? ⟨w1.heap.size, 1, none⟩ = some (.int .i64 pc) := p2.cell 1
  clear p1 p2
  go_enter Try.func4, Try.ntmps4
  go_wp2_with (first
    | (go_at_call 6; refine HFw.out.mono ?_; clear HFw; rintro e w3 ⟨⟨b, rfl⟩, q⟩; have A3 := Lib.hid q; clear b0 b1 b2 b3 c0 c1; have p1 := B1.out.adds (Adds.trans A2.out (q)); have p2 := B2.out.adds (q); have b0 : w3.cell? ⟨w.heap.size, 0, none⟩ = some (.slice ao fl cap) := p1.cell 0; have b1 : w3.cell? ⟨w.heap.size, 1, none⟩ = some (.int .i64 x1) := p1.cell 1; have b2 : w3.cell? ⟨w.heap.size, 2, none⟩ = some (.int .i64 x2) := p1.cell 2; have b3 : w3.cell? ⟨w.heap.size, 3, none⟩ = some (.int .i64 x3) := p1.cell 3; have c0 : w3.cell? ⟨w1.heap.size, 0, none⟩ = some (.int .i64 f) := p2.cell 0; have c1 : w3.cell? ⟨w1.heap.size, 1, none⟩ = some (.int .i64 pc) := p2.cell 1; clear p1 p2; clear q; cases b)
    | (go_at_call 12; refine (HAt.out _ A3.out).mono ?_; clear HAt; rintro e w4 ⟨rfl, q⟩; have A4 := Lib.hid (Adds.trans A3.out q); clear b0 b1 b2 b3 c0 c1; have E4 := Lib.hid (show Adds w4 (w4.alloc (.cells #[.int .i64 ox, .int .i64 oa, .int .i64 ob, .int .i64 oc, .int .u32 oi] 39)) from (Gr.new _ _).adds); have p1 := B1.out.adds (Adds.trans A2.out (Adds.trans A4.out E4.out)); have p2 := B2.out.adds (Adds.trans A4.out E4.out); have b0 : (w4.alloc (.cells #[.int .i64 ox, .int .i64 oa, .int .i64 ob, .int .i64 oc, .int .u32 oi] 39)).cell? ⟨w.heap.size, 0, none⟩ = some (.slice ao fl cap) := p1.cell 0; have b1 : (w4.alloc (.cells #[.int .i64 ox, .int .i64 oa, .int .i64 ob, .int .i64 oc, .int .u32 oi] 39)).cell? ⟨w.heap.size, 1, none⟩ = some (.int .i64 x1) := p1.cell 1; have b2 : (w4.alloc (.cells #[.int .i64 ox, .int .i64 oa, .int .i64 ob, .int .i64 oc, .int .u32 oi] 39)).cell? ⟨w.heap.size, 2, none⟩ = some (.int .i64 x2) := p1.cell 2; have b3 : (w4.alloc (.cells #[.int .i64 ox, .int .i64 oa, .int .i64 ob, .int .i64 oc, .int .u32 oi] 39)).cell? ⟨w.heap.size, 3, none⟩ = some (.int .i64 x3) := p1.cell 3; have c0 : (w4.alloc (.cells #[.int .i64 ox, .int .i64 oa, .int .i64 ob, .int .i64 oc, .int .u32 oi] 39)).cell? ⟨w1.heap.size, 0, none⟩ = some (.int .i64 f) := p2.cell 0; have c1 : (w4.alloc (.cells #[.int .i64 ox, .int .i64 oa, .int .i64 ob, .int .i64 oc, .int .u32 oi] 39)).cell? ⟨w1.heap.size, 1, none⟩ = some (.int .i64 pc) := p2.cell 1; clear p1 p2; have D4 := Lib.hid (BkS.new 39 w4 [.int .i64 ox, .int .i64 oa, .int .i64 ob, .int .i64 oc, .int .u32 oi]); have d0 : (w4.alloc (.cells #[.int .i64 ox, .int .i64 oa, .int .i64 ob, .int .i64 oc, .int .u32 oi] 39)).cell? ⟨w4.heap.size, 0, none⟩ = some (.int .i64 ox) := D4.out.cell 0; have d1 : (w4.alloc (.cells #[.int .i64 ox, .int .i64 oa, .int .i64 ob, .int .i64 oc, .int .u32 oi] 39)).cell? ⟨w4.heap.size, 1, none⟩ = some (.int .i64 oa) := D4.out.cell 1; have d2 : (w4.alloc (.cells #[.int .i64 ox, .int .i64 oa, .int .i64 ob, .int .i64 oc, .int .u32 oi] 39)).cell? ⟨w4.heap.size, 2, none⟩ = some (.int .i64 ob) := D4.out.cell 2; have d3 : (w4.alloc (.cells #[.int .i64 ox, .int .i64 oa, .int .i64 ob, .int .i64 oc, .int .u32 oi] 39)).cell? ⟨w4.heap.size, 3, none⟩ = some (.int .i64 oc) := D4.out.cell 3; have d4 : (w4.alloc (.cells #[.int .i64 ox, .int .i64 oa, .int .i64 ob, .int .i64 oc, .int .u32 oi] 39)).cell? ⟨w4.heap.size, 4, none⟩ = some (.int .u32 oi) := D4.out.cell 4; clear q)
    | (go_at_call 13; refine (HRf.out _ (Adds.trans A4.out E4.out)).mono ?_; clear HRf; rintro e w5 ⟨rfl, q⟩; have A5 := Lib.hid (Adds.trans A4.out (Adds.trans E4.out q)); clear b0 b1 b2 b3 c0 c1 d0 d1 d2 d3 d4; have D5 := Lib.hid ((D4.out.adds q).adds (Gr.new w5 (.cells #[.int .i64 ox, .int .i64 oa, .int .i64 ob, .int .i64 oc, .int .u32 oi] 39)).adds); have d0 : (w5.alloc (.cells #[.int .i64 ox, .int .i64 oa, .int .i64 ob, .int .i64 oc, .int .u32 oi] 39)).cell? ⟨w4.heap.size, 0, none⟩ = some (.int .i64 ox) := D5.out.cell 0; have d1 : (w5.alloc (.cells #[.int .i64 ox, .int .i64 oa, .int .i64 ob, .int .i64 oc, .int .u32 oi] 39)).cell? ⟨w4.heap.size, 1, none⟩ = some (.int .i64 oa) := D5.out.cell 1; have d2 : (w5.alloc (.cells #[.int .i64 ox, .int .i64 oa, .int .i64 ob, .int .i64 oc, .int .u32 oi] 39)).cell? ⟨w4.heap.size, 2, none⟩ = some (.int .i64 ob) := D5.out.cell 2; have d3 : (w5.alloc (.cells #[.int .i64 ox, .int .i64 oa, .int .i64 ob, .int .i64 oc, .int .u32 oi] 39)).cell? ⟨w4.heap.size, 3, none⟩ = some (.int .i64 oc) := D5.out.cell 3; have d4 : (w5.alloc (.cells #[.int .i64 ox, .int .i64 oa, .int .i64 ob, .int .i64 oc, .int .u32 oi] 39)).cell? ⟨w4.heap.size, 4, none⟩ = some (.int .u32 oi) := D5.out.cell 4; have D6 := Lib.hid (BkS.new 39 w5 [.int .i64 ox, .int .i64 oa, .int .i64 ob, .int .i64 oc, .int .u32 oi]); have g0 : (w5.alloc (.cells #[.int .i64 ox, .int .i64 oa, .int .i64 ob, .int .i64 oc, .int .u32 oi] 39)).cell? ⟨w5.heap.size, 0, none⟩ = some (.int .i64 ox) := D6.out.cell 0; have g1 : (w5.alloc (.cells #[.int .i64 ox, .int .i64 oa, .int .i64 ob, .int .i64 oc, .int .u32 oi] 39)).cell? ⟨w5.heap.size, 1, none⟩ = some (.int .i64 oa) := D6.out.cell 1; have g2 : (w5.alloc (.cells #[.int .i64 ox, .int .i64 oa, .int .i64 ob, .int .i64 oc, .int .u32 oi] 39)).cell? ⟨w5.heap.size, 2, none⟩ = some (.int .i64 ob) := D6.out.cell 2; have g3 : (w5.alloc (.cells #[.int .i64 ox, .int .i64 oa, .int .i64 ob, .int .i64 oc, .int .u32 oi] 39)).cell? ⟨w5.heap.size, 3, none⟩ = some (.int .i64 oc) := D6.out.cell 3; have g4 : (w5.alloc (.cells #[.int .i64 ox, .int .i64 oa, .int .i64 ob, .int .i64 oc, .int .u32 oi] 39)).cell? ⟨w5.heap.size, 4, none⟩ = some (.int .u32 oi) := D6.out.cell 4; clear q)
    | (go_at_call 14; refine (numP_any _ _).mono ?_; rintro e wn ⟨rfl, rfl⟩)
    | (go_at_call 7; refine (worksP _).mono ?_; rintro e w6 ⟨rfl, q⟩; have A6 := Lib.hid q; clear q))
  · go_ret
    exact ⟨rfl, Adds.trans A12.out (Adds.trans A3.out A6.out)⟩
  · go_ret
    exact ⟨rfl, Adds.trans A12.out (Adds.trans A5.out (Adds.trans (Gr.new _ _).adds A6.out))⟩
end Go.Proofs.Ytdbbilabhlnhmaa
