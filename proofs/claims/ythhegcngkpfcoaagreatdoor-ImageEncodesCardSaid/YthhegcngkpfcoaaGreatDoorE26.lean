/- Merged: G10, GDp. -/
import Derived.Test.YthhegcngkpfcoaaGreatDoorE25
import Derived.Test.YthhegcngkpfcoaaGreatDoorE21
namespace Go.Proofs.YthhegcngkpfcoaaGreatDoor
open Go Go.RowKit Go.Shelf

def checkP (p : Pg) : Int := if numsP p && (wrongP p).isNone then 0 else 2
set_option maxRecDepth 100000 in
set_option maxHeartbeats 4000000 in
theorem checkP_any {m : Nat} (u : Value) (p : Pg) (w : World) (hf : FuncsW m w u p.1) : Calls Tryz.prog 20 #[pgV u p] w fun e w' => e = .returned (.int .i64 (checkP p)) ∧ Adds w w' := by
  have HNu := Lib.hid (fun (W : World) (h : Adds w W) => numsP_any u p W (hf.adds h))
  have HWr := Lib.hid (fun (W : World) (h : Adds w W) => wrong_any u p W (hf.adds h))
  unfold checkP
  obtain ⟨fs, x1, x2, x3⟩ := p
  obtain ⟨ao, cap, rfl, _, _, _⟩ := hf
  generalize numsP (fs, x1, x2, x3) = nb at HNu ⊢
  generalize wrongP (fs, x1, x2, x3) = wo at HWr ⊢
  simp only at HNu HWr ⊢
  generalize fs.length = fl at HNu HWr ⊢
  obtain ⟨w0, hw0⟩ : ∃ w0, w.alloc (.cells #[.slice ao fl cap, .int .i64 x1, .int .i64 x2, .int .i64 x3] 24) = w0 := ⟨_, rfl⟩
  have A0 := Lib.hid (show Adds w w0 by rw [← hw0]; exact (Gr.new _ _).adds)
  have HB1 := Lib.hid (show BkS 24 w0 w.heap.size [.slice ao fl cap, .int .i64 x1, .int .i64 x2, .int .i64 x3] by rw [← hw0]; exact BkS.new _ _ _)
  have b0 : w0.cell? ⟨w.heap.size, 0, none⟩ = some (.slice ao fl cap) := HB1.out.cell 0
  have b1 : w0.cell? ⟨w.heap.size, 1, none⟩ = some (.int .i64 x1) := HB1.out.cell 1
  have b2 : w0.cell? ⟨w.heap.size, 2, none⟩ = some (.int .i64 x2) := HB1.out.cell 2
  have b3 : w0.cell? ⟨w.heap.size, 3, none⟩ = some (.int .i64 x3) := HB1.out.cell 3
  cases nb
  · go_enter Tryz.func20, Tryz.ntmps20
    go_wp2
    refine wp_scope_fwd 0 rfl ?_
    go_wp2_with (go_at_call 33; refine (HNu.out _ A0.out).mono ?_; rintro e w1 ⟨rfl, q⟩; have HA1 := Lib.hid (Adds.trans A0.out q); clear q)
    go_step3
    refine ⟨rfl, ?_⟩
    go_wp2
    rw [Exit.noGoto_ret]
    go_ret
    exact ⟨rfl, HA1.out⟩
  · cases wo with
    | none =>
      go_enter Tryz.func20, Tryz.ntmps20
      go_wp2
      refine wp_scope_fwd 0 rfl ?_
      go_wp2_with (first
        | (go_at_call 33; refine (HNu.out _ A0.out).mono ?_; rintro e w1 ⟨rfl, q⟩; have HA1 := Lib.hid (Adds.trans A0.out q); have qq := HB1.out.adds q; have c0 : w1.cell? ⟨w.heap.size, 0, none⟩ = some (.slice ao fl cap) := qq.cell 0; have c1 : w1.cell? ⟨w.heap.size, 1, none⟩ = some (.int .i64 x1) := qq.cell 1; have c2 : w1.cell? ⟨w.heap.size, 2, none⟩ = some (.int .i64 x2) := qq.cell 2; have c3 : w1.cell? ⟨w.heap.size, 3, none⟩ = some (.int .i64 x3) := qq.cell 3; clear q qq)
        | (go_at_call 34; refine (HWr.out _ HA1.out).mono ?_; rintro e w2 ⟨rfl, q⟩; dsimp only [wrV, wrS, Option.isSome]; have HA2 := Lib.hid (Adds.trans HA1.out q); clear q))
      try simp only [Exit.jump]
      go_ret
      exact ⟨rfl, Adds.trans HA2.out (Gr.new _ _).adds⟩
    | some x =>
      obtain ⟨xf, xp⟩ := x
      go_enter Tryz.func20, Tryz.ntmps20
      go_wp2
      refine wp_scope_fwd 0 rfl ?_
      go_wp2_with (first
        | (go_at_call 33; refine (HNu.out _ A0.out).mono ?_; rintro e w1 ⟨rfl, q⟩; have HA1 := Lib.hid (Adds.trans A0.out q); have qq := HB1.out.adds q; have c0 : w1.cell? ⟨w.heap.size, 0, none⟩ = some (.slice ao fl cap) := qq.cell 0; have c1 : w1.cell? ⟨w.heap.size, 1, none⟩ = some (.int .i64 x1) := qq.cell 1; have c2 : w1.cell? ⟨w.heap.size, 2, none⟩ = some (.int .i64 x2) := qq.cell 2; have c3 : w1.cell? ⟨w.heap.size, 3, none⟩ = some (.int .i64 x3) := qq.cell 3; clear q qq)
        | (go_at_call 34; refine (HWr.out _ HA1.out).mono ?_; rintro e w2 ⟨rfl, q⟩; dsimp only [wrV, wrS, Option.isSome]; have HA2 := Lib.hid (Adds.trans HA1.out q); clear q))
      go_step3
      refine ⟨rfl, ?_⟩
      go_wp2
      rw [Exit.noGoto_ret]
      go_ret
      exact ⟨rfl, Adds.trans HA2.out (Gr.new _ _).adds⟩
end Go.Proofs.YthhegcngkpfcoaaGreatDoor
namespace Go.Proofs.YthhegcngkpfcoaaGreatDoor
open Go Go.RowKit Go.Shelf

theorem fine_no1 {fs : List Fu} {f : Fu} {pc : Nat} {x : In} (h : mayI x = false) : fineB fs f pc x = false := by simp [fineB, h]
theorem fine_no2 {fs : List Fu} {f : Fu} {pc : Nat} {x : In} (h : ¬ regsI x ≤ f.1) : fineB fs f pc x = false := by simp [fineB, h]
theorem fine_no3 {fs : List Fu} {f : Fu} {pc : Nat} {x : In} (h : x.1 = 4 ∨ x.1 = 5) (hi : (f.2.length : Int) ≤ x.2.2.2.2) : fineB fs f pc x = false := by
  have : jumpsB f.2 x = false := by unfold jumpsB hasB; rw [if_pos h]; exact decide_eq_false (by omega)
  simp [fineB, this]
theorem fine_no4 {fs : List Fu} {f : Fu} {pc : Nat} {x : In} (h : x.1 = 8 ∨ x.1 = 10) (hi : (fs.length : Int) ≤ x.2.2.2.2) : fineB fs f pc x = false := by
  have : handsB fs x = false := by unfold handsB hasB; rw [if_pos h, decide_eq_false (by omega)]; rfl
  simp [fineB, this]
theorem fine_no5 {fs : List Fu} {f : Fu} {pc : Nat} {x : In} (h : x.1 = 8 ∨ x.1 = 10) (hi : ¬ x.2.2.2.1 ≤ (fs.getD x.2.2.2.2.toNat zF).1) : fineB fs f pc x = false := by
  have : handsB fs x = false := by unfold handsB; rw [if_pos h, decide_eq_false hi, Bool.and_false]
  simp [fineB, this]
theorem fine_is {fs : List Fu} {f : Fu} {pc : Nat} {x : In} (hm : mayI x = true) (hr : regsI x ≤ f.1) (hj : x.1 = 4 ∨ x.1 = 5 → 0 ≤ x.2.2.2.2 ∧ x.2.2.2.2 < (f.2.length : Int)) (hh : x.1 = 8 ∨ x.1 = 10 → (0 ≤ x.2.2.2.2 ∧ x.2.2.2.2 < (fs.length : Int)) ∧ x.2.2.2.1 ≤ (fs.getD x.2.2.2.2.toNat zF).1) : fineB fs f pc x = leavesB f.2 pc x := by
  have h1 : jumpsB f.2 x = true := by
    unfold jumpsB hasB
    split
    · rename_i h; exact decide_eq_true (hj h)
    · rfl
  have h2 : handsB fs x = true := by
    unfold handsB hasB
    split
    · rename_i h; rw [decide_eq_true (hh h).1, decide_eq_true (hh h).2]; rfl
    · rfl
  simp [fineB, hm, hr, h1, h2]
theorem leaves_yes {c : List In} {pc : Nat} {x : In} (h : pc + 1 < c.length) : leavesB c pc x = true := by unfold leavesB hasB; rw [decide_eq_true (by omega)]; rfl
theorem leaves_end {c : List In} {pc : Nat} {x : In} (h : ¬ pc + 1 < c.length) : leavesB c pc x = leavesI x := by unfold leavesB hasB; rw [decide_eq_false (by omega)]; rfl
end Go.Proofs.YthhegcngkpfcoaaGreatDoor
