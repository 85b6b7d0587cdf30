/- Merged: G10. -/
import Derived.Test.YthhegcngkpfcoaaGreatY32
namespace Go.Proofs.YthhegcngkpfcoaaGreat
open Go Go.RowKit Go.Shelf

def checkP (p : Pg) : Int := if numsP p && (wrongP p).isNone then 0 else 2
set_option maxRecDepth 100000 in
set_option maxHeartbeats 4000000 in
theorem checkP_any {m : Nat} (u : Value) (p : Pg) (w : World) (hf : FuncsW m w u p.1) : Calls Tryz.prog 56 #[pgV u p] w fun e w' => e = .returned (.int .i64 (checkP p)) ∧ Adds w w' := by
  have HNu := Lib.hid (fun (W : World) (h : Adds w W) => numsP_any u p W (hf.adds h))
  have HWr := Lib.hid (fun (W : World) (h : Adds w W) => wrong_any u p W (hf.adds h))
  unfold checkP
  obtain ⟨fs, x1, x2, x3⟩ := p
  obtain ⟨ao, cap, rfl, _, _, _⟩ := hf
  generalize numsP (fs, x1, x2, x3) = nb at HNu ⊢
  generalize wrongP (fs, x1, x2, x3) = wo at HWr ⊢
  simp only at HNu HWr ⊢
  generalize fs.length = fl at HNu HWr ⊢
  obtain ⟨w0, hw0⟩ : ∃ w0, w.alloc (.cells #[.slice ao fl cap, .int .i64 x1, .int .i64 x2, .int .i64 x3] 28) = w0 := ⟨_, rfl⟩
  have A0 := Lib.hid (show Adds w w0 by rw [← hw0]; exact (Gr.new _ _).adds)
  have HB1 := Lib.hid (show BkS 28 w0 w.heap.size [.slice ao fl cap, .int .i64 x1, .int .i64 x2, .int .i64 x3] by rw [← hw0]; exact BkS.new _ _ _)
  have b0 : w0.cell? ⟨w.heap.size, 0, none⟩ = some (.slice ao fl cap) := HB1.out.cell 0
  have b1 : w0.cell? ⟨w.heap.size, 1, none⟩ = some (.int .i64 x1) := HB1.out.cell 1
  have b2 : w0.cell? ⟨w.heap.size, 2, none⟩ = some (.int .i64 x2) := HB1.out.cell 2
  have b3 : w0.cell? ⟨w.heap.size, 3, none⟩ = some (.int .i64 x3) := HB1.out.cell 3
  cases nb
  · go_enter Tryz.func56, Tryz.ntmps56
    go_wp2
    refine wp_scope_fwd 0 rfl ?_
    go_wp2_with (go_at_call 67; refine (HNu.out _ A0.out).mono ?_; rintro e w1 ⟨rfl, q⟩; have HA1 := Lib.hid (Adds.trans A0.out q); clear q)
    go_step3
    refine ⟨rfl, ?_⟩
    go_wp2
    rw [Exit.noGoto_ret]
    go_ret
    exact ⟨rfl, HA1.out⟩
  · cases wo with
    | none =>
      go_enter Tryz.func56, Tryz.ntmps56
      go_wp2
      refine wp_scope_fwd 0 rfl ?_
      go_wp2_with (first
        | (go_at_call 67; refine (HNu.out _ A0.out).mono ?_; rintro e w1 ⟨rfl, q⟩; have HA1 := Lib.hid (Adds.trans A0.out q); have qq := HB1.out.adds q; have c0 : w1.cell? ⟨w.heap.size, 0, none⟩ = some (.slice ao fl cap) := qq.cell 0; have c1 : w1.cell? ⟨w.heap.size, 1, none⟩ = some (.int .i64 x1) := qq.cell 1; have c2 : w1.cell? ⟨w.heap.size, 2, none⟩ = some (.int .i64 x2) := qq.cell 2; have c3 : w1.cell? ⟨w.heap.size, 3, none⟩ = some (.int .i64 x3) := qq.cell 3; clear q qq)
        | (go_at_call 68; refine (HWr.out _ HA1.out).mono ?_; rintro e w2 ⟨rfl, q⟩; dsimp only [wrV, wrS, Option.isSome]; have HA2 := Lib.hid (Adds.trans HA1.out q); clear q))
      try simp only [Exit.jump]
      go_ret
      exact ⟨rfl, Adds.trans HA2.out (Gr.new _ _).adds⟩
    | some x =>
      obtain ⟨xf, xp⟩ := x
      go_enter Tryz.func56, Tryz.ntmps56
      go_wp2
      refine wp_scope_fwd 0 rfl ?_
      go_wp2_with (first
        | (go_at_call 67; refine (HNu.out _ A0.out).mono ?_; rintro e w1 ⟨rfl, q⟩; have HA1 := Lib.hid (Adds.trans A0.out q); have qq := HB1.out.adds q; have c0 : w1.cell? ⟨w.heap.size, 0, none⟩ = some (.slice ao fl cap) := qq.cell 0; have c1 : w1.cell? ⟨w.heap.size, 1, none⟩ = some (.int .i64 x1) := qq.cell 1; have c2 : w1.cell? ⟨w.heap.size, 2, none⟩ = some (.int .i64 x2) := qq.cell 2; have c3 : w1.cell? ⟨w.heap.size, 3, none⟩ = some (.int .i64 x3) := qq.cell 3; clear q qq)
        | (go_at_call 68; refine (HWr.out _ HA1.out).mono ?_; rintro e w2 ⟨rfl, q⟩; dsimp only [wrV, wrS, Option.isSome]; have HA2 := Lib.hid (Adds.trans HA1.out q); clear q))
      go_step3
      refine ⟨rfl, ?_⟩
      go_wp2
      rw [Exit.noGoto_ret]
      go_ret
      exact ⟨rfl, Adds.trans HA2.out (Gr.new _ _).adds⟩
end Go.Proofs.YthhegcngkpfcoaaGreat
