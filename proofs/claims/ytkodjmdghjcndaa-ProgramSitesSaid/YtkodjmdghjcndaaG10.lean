/- Whether a program may be; a program of one function: contracts. -/
import Derived.Test.YtkodjmdghjcndaaG9
namespace Go.Proofs.Ytkodjmdghjcndaa
open Go Go.RowKit Go.Shelf

def checkP (p : Pg) : Int := if numsP p && (wrongP p).isNone then 0 else 2
set_option maxRecDepth 100000 in
set_option maxHeartbeats 4000000 in
theorem checkP_any {m : Nat} (u : Value) (p : Pg) (w : World) (hf : FuncsW m w u p.1) : Calls Try.prog 17 #[pgV u p] w fun e w' => e = .returned (.int .i64 (checkP p)) ∧ Adds w w' := by
  have HNu := Lib.hid (fun (W : World) (h : Adds w W) => numsP_any u p W (hf.adds h))
  have HWr := Lib.hid (fun (W : World) (h : Adds w W) => wrong_any u p W (hf.adds h))
  unfold checkP
  obtain ⟨fs, x1, x2, x3⟩ := p
  obtain ⟨ao, cap, rfl, _, _, _⟩ := hf
  generalize numsP (fs, x1, x2, x3) = nb at HNu ⊢
  generalize wrongP (fs, x1, x2, x3) = wo at HWr ⊢
  simp only at HNu HWr ⊢
  generalize fs.length = fl at HNu HWr ⊢
  obtain ⟨w0, hw0⟩ : ∃ w0, w.alloc (.cells #[.slice ao fl cap, .int .i64 x1, .int .i64 x2, .int .i64 x3] 24) = w0 := ⟨_, rfl⟩
  have A0 := Lib.hid (show Adds w w0 by rw [← hw0]; exact (Gr.new _ _).adds)
  have HB1 := Lib.hid (show BkS 24 w0 w.heap.size [.slice ao fl cap, .int .i64 x1, .int .i64 x2, .int .i64 x3] by rw [← hw0]; exact BkS.new _ _ _)
  have b0 : w0.cell? ⟨w.heap.size, 0, none⟩ = some (.slice ao fl cap) := HB1.out.cell 0
  have b1 : w0.cell? ⟨w.heap.size, 1, none⟩ = some (.int .i64 x1) := HB1.out.cell 1
  have b2 : w0.cell? ⟨w.heap.size, 2, none⟩ = some (.int .i64 x2) := HB1.out.cell 2
  have b3 : w0.cell? ⟨w.heap.size, 3, none⟩ = some (.int .i64 x3) := HB1.out.cell 3
  cases nb
  · go_enter Try.func17, Try.ntmps17
    go_wp2
    refine wp_scope_fwd 0 rfl ?_
    go_wp2_with (go_at_call 26; refine (HNu.out _ A0.out).mono ?_; rintro e w1 ⟨rfl, q⟩; have HA1 := Lib.hid (Adds.trans A0.out q); clear q)
    go_step3
    refine ⟨rfl, ?_⟩
    go_wp2
    rw [Exit.noGoto_ret]
    go_ret
    exact ⟨rfl, HA1.out⟩
  · cases wo with
    | none =>
      go_enter Try.func17, Try.ntmps17
      go_wp2
      refine wp_scope_fwd 0 rfl ?_
      go_wp2_with (first
        | (go_at_call 26; refine (HNu.out _ A0.out).mono ?_; rintro e w1 ⟨rfl, q⟩; have HA1 := Lib.hid (Adds.trans A0.out q); have qq := HB1.out.adds q; have c0 : w1.cell? ⟨w.heap.size, 0, none⟩ = some (.slice ao fl cap) := qq.cell 0; have c1 : w1.cell? ⟨w.heap.size, 1, none⟩ = some (.int .i64 x1) := qq.cell 1; have c2 : w1.cell? ⟨w.heap.size, 2, none⟩ = some (.int .i64 x2) := qq.cell 2; have c3 : w1.cell? ⟨w.heap.size, 3, none⟩ = some (.int .i64 x3) := qq.cell 3; clear q qq)
        | (go_at_call 14; refine (HWr.out _ HA1.out).mono ?_; rintro e w2 ⟨rfl, q⟩; dsimp only [wrV, wrS, Option.isSome]; have HA2 := Lib.hid (Adds.trans HA1.out q); clear q))
      try simp only [Exit.jump]
      go_ret
      exact ⟨rfl, Adds.trans HA2.out (Gr.new _ _).adds⟩
    | some x =>
      obtain ⟨xf, xp⟩ := x
      go_enter Try.func17, Try.ntmps17
      go_wp2
      refine wp_scope_fwd 0 rfl ?_
      go_wp2_with (first
        | (go_at_call 26; refine (HNu.out _ A0.out).mono ?_; rintro e w1 ⟨rfl, q⟩; have HA1 := Lib.hid (Adds.trans A0.out q); have qq := HB1.out.adds q; have c0 : w1.cell? ⟨w.heap.size, 0, none⟩ = some (.slice ao fl cap) := qq.cell 0; have c1 : w1.cell? ⟨w.heap.size, 1, none⟩ = some (.int .i64 x1) := qq.cell 1; have c2 : w1.cell? ⟨w.heap.size, 2, none⟩ = some (.int .i64 x2) := qq.cell 2; have c3 : w1.cell? ⟨w.heap.size, 3, none⟩ = some (.int .i64 x3) := qq.cell 3; clear q qq)
        | (go_at_call 14; refine (HWr.out _ HA1.out).mono ?_; rintro e w2 ⟨rfl, q⟩; dsimp only [wrV, wrS, Option.isSome]; have HA2 := Lib.hid (Adds.trans HA1.out q); clear q))
      go_step3
      refine ⟨rfl, ?_⟩
      go_wp2
      rw [Exit.noGoto_ret]
      go_ret
      exact ⟨rfl, Adds.trans HA2.out (Gr.new _ _).adds⟩
theorem numP_any (x : Int) (W : World) : Calls Try.prog 16 #[.int .i64 x] W fun e w' => e = .returned (.int .i64 x) ∧ W = w' := by
  go_enter Try.func16, Try.ntmps16
  go_wp2
  go_ret
  exact ⟨rfl, rfl⟩
theorem code_lit (w : World) (x y : In) (t : TypeId) : CodeW (w.heap.size + 1) (w.alloc (.cells #[.int .i64 x.1, .int .i64 x.2.1, .int .i64 x.2.2.1, .int .i64 x.2.2.2.1, .int .u32 x.2.2.2.2, .int .i64 y.1, .int .i64 y.2.1, .int .i64 y.2.2.1, .int .i64 y.2.2.2.1, .int .u32 y.2.2.2.2] t)) (.slice (some ⟨w.heap.size, 0, none⟩) 2 2) [x, y] := by
  refine ⟨_, _, rfl, Nat.le_refl _, by show 2 ≤ maxLen; unfold maxLen; omega, fun _ => ⟨_, _, rfl, by omega, fun i hi => ?_⟩⟩
  have hc := fun k => cell_of_row (w.alloc (.cells #[.int .i64 x.1, .int .i64 x.2.1, .int .i64 x.2.2.1, .int .i64 x.2.2.2.1, .int .u32 x.2.2.2.2, .int .i64 y.1, .int .i64 y.2.1, .int .i64 y.2.2.1, .int .i64 y.2.2.2.1, .int .u32 y.2.2.2.2] t)) w.heap.size k _ _ _ (heap_new w _)
  have hi2 : i < 2 := hi
  match i, hi2 with
  | 0, _ => exact ⟨hc 0, hc 1, hc 2, hc 3, hc 4⟩
  | 1, _ => exact ⟨hc 5, hc 6, hc 7, hc 8, hc 9⟩
set_option maxRecDepth 100000 in
theorem of_any {m : Nat} (r : Int) (cv : Value) (c : List In) (w : World) (hc : CodeW m w cv c) (hok : ∀ x ∈ c, OkIn x) : Calls Try.prog 15 #[.int .i64 r, cv] w fun e w' => ∃ v, e = .returned (.agg #[v, .int .i64 0, .int .i64 0, .int .i64 0]) ∧ FuncsW w'.heap.size w' v [(r, c)] ∧ Adds w w' := by
  obtain ⟨ac, cc, rfl, _, _⟩ := hc.form
  obtain ⟨w1, hw1⟩ : ∃ w1, w.alloc (.cells #[.slice none 0 0, .int .i64 0, .int .i64 0, .int .i64 0] 24) = w1 := ⟨_, rfl⟩
  have HB1 := Lib.hid (show BkS 24 w1 w.heap.size [.slice none 0 0, .int .i64 0, .int .i64 0, .int .i64 0] by rw [← hw1]; exact BkS.new _ _ _)
  have A1 := Lib.hid (show Adds w w1 by rw [← hw1]; exact (Gr.new _ _).adds)
  obtain ⟨w2, hw2⟩ : ∃ w2, w1.alloc (.cells #[.int .i64 r, .slice ac c.length cc] 40) = w2 := ⟨_, rfl⟩
  have HF2 := Lib.hid (show BkS 40 w2 w1.heap.size [.int .i64 r, .slice ac c.length cc] by rw [← hw2]; exact BkS.new _ _ _)
  have A2 := Lib.hid (show Adds w1 w2 by rw [← hw2]; exact (Gr.new _ _).adds)
  have hb := HB1.out.adds A2.out
  have HB2 := Lib.hid hb
  have z0 : w2.cell? ⟨w.heap.size, 0, none⟩ = some (.slice none 0 0) := hb.cell 0
  have z1 : w2.cell? ⟨w.heap.size, 1, none⟩ = some (.int .i64 0) := hb.cell 1
  have z2 : w2.cell? ⟨w.heap.size, 2, none⟩ = some (.int .i64 0) := hb.cell 2
  have z3 : w2.cell? ⟨w.heap.size, 3, none⟩ = some (.int .i64 0) := hb.cell 3
  have y0 := hb.free 0
  have y1 := hb.free 1
  have y2 := hb.free 2
  have y3 := hb.free 3
  have HC := Lib.hid hc
  have HL := Lib.hid HB1.out.lt
  clear hb hc
  go_enter Try.func15, Try.ntmps15
  go_wp2_with fail
  have h4 : ((((w2.setCell ⟨w.heap.size, 0, none⟩ (.slice (some ⟨w1.heap.size, 0, none⟩) 1 1)).setCell ⟨w.heap.size, 1, none⟩ (.int .i64 0)).setCell ⟨w.heap.size, 2, none⟩ (.int .i64 0)).setCell ⟨w.heap.size, 3, none⟩ (.int .i64 0)).heap[w.heap.size]? = some (.cells #[.slice (some ⟨w1.heap.size, 0, none⟩) 1 1, .int .i64 0, .int .i64 0, .int .i64 0] 24 (0, 0)) := (((HB2.out.set 0 (.slice (some ⟨w1.heap.size, 0, none⟩) 1 1)).set 1 (.int .i64 0)).set 2 (.int .i64 0)).set 3 (.int .i64 0)
  refine bodyPost_ret (res_box rfl _ _ _ #[.slice (some ⟨w1.heap.size, 0, none⟩) 1 1, .int .i64 0, .int .i64 0, .int .i64 0] _ _ _ rfl h4 Try.underlying24 rfl (by kernel_rfl)) rfl ?_
  have hl := HL.out
  have hA : Adds w ((((w2.setCell ⟨w.heap.size, 0, none⟩ (.slice (some ⟨w1.heap.size, 0, none⟩) 1 1)).setCell ⟨w.heap.size, 1, none⟩ (.int .i64 0)).setCell ⟨w.heap.size, 2, none⟩ (.int .i64 0)).setCell ⟨w.heap.size, 3, none⟩ (.int .i64 0)) :=
    Adds.set (Adds.set (Adds.set (Adds.set (Adds.trans A1.out A2.out) (Nat.le_refl _) _ _) (Nat.le_refl _) _ _) (Nat.le_refl _) _ _) (Nat.le_refl _) _ _
  have hF : BkS 40 ((((w2.setCell ⟨w.heap.size, 0, none⟩ (.slice (some ⟨w1.heap.size, 0, none⟩) 1 1)).setCell ⟨w.heap.size, 1, none⟩ (.int .i64 0)).setCell ⟨w.heap.size, 2, none⟩ (.int .i64 0)).setCell ⟨w.heap.size, 3, none⟩ (.int .i64 0)) w1.heap.size [.int .i64 r, .slice ac c.length cc] :=
    (((HF2.out.other (by omega) _).other (by omega) _).other (by omega) _).other (by omega) _
  refine ⟨_, rfl, ⟨_, _, rfl, Nat.le_refl _, by show 1 ≤ maxLen; unfold maxLen; omega, fun _ => ⟨_, _, rfl, hF.lt, fun i hi => ?_⟩⟩, hA⟩
  have hi1 : i = 0 := by simp at hi; exact hi
  subst hi1
  exact ⟨hF.cell 0, _, hF.cell 1, (HC.out.adds hA).up hA.size, hok⟩
end Go.Proofs.Ytkodjmdghjcndaa
