/- Mutexes in memory; there, New, Holder, Len: their contracts. -/
import Derived.Test.YtdmbjonbcomphaaUF2
namespace Go.Proofs.Ytdmbjonbcomphaa
open Go Go.RowKit Go.Maps

/-- Mutexes in memory: who holds each. -/
structure MutP (w : World) (v : Value) (bp b : Nat) (l : List Int) : Prop where
  ptr : v = .pointer (some ⟨bp, 0, none⟩)
  blk : BkS 48 w bp [.map (some b), .int .i64 ((l.length : Nat) : Int)]
  map : HolF w b l
  len : l.length ≤ 64
  may : ∀ x ∈ l, 0 ≤ x ∧ x ≤ 65536
theorem HolF.obj {w : World} {b : Nat} {l : List Int} (h : HolF w b l) : ∃ es c, w.heap[b]? = some (.map es c) := by
  obtain ⟨L, ⟨n, es, ⟨es0, clock, h0, _⟩, _⟩, _⟩ := h
  exact ⟨_, _, h0⟩
theorem MutP.ne {w : World} {v : Value} {bp b : Nat} {l : List Int} (h : MutP w v bp b l) : bp ≠ b := fun e => by
  obtain ⟨es, c, h1⟩ := h.map.obj
  have h2 := h.blk
  unfold BkS at h2
  rw [e, h1] at h2
  cases h2
theorem MutP.adds {w w' : World} {v : Value} {bp b : Nat} {l : List Int} (h : MutP w v bp b l) (ha : Adds w w') : MutP w' v bp b l :=
  ⟨h.ptr, h.blk.adds ha, h.map.adds ha, h.len, h.may⟩
theorem MutP.turn {w w' : World} {v : Value} {bp b : Nat} {l l' : List Int} (h : MutP w v bp b l) (hl : l'.length = l.length) (hm : ∀ x ∈ l', 0 ≤ x ∧ x ≤ 65536) (h1 : HolF w' b l') (h2 : TnS b w w') : MutP w' v bp b l' :=
  ⟨h.ptr, by rw [hl]; exact (h2.block bp h.blk.lt (fun e => by cases e; exact h.ne rfl)).trans h.blk, h1, by rw [hl]; exact h.len, hm⟩
/-- Another block turns. -/
theorem MutP.other {w w' : World} {v : Value} {bp b c : Nat} {l : List Int} (h : MutP w v bp b l) (h1 : bp ≠ c) (h2 : b ≠ c) (ht : TnS c w w') : MutP w' v bp b l :=
  ⟨h.ptr, (ht.block bp h.blk.lt (fun e => by cases e; exact h1 rfl)).trans h.blk, h.map.same (ht.block b h.map.lt (fun e => by cases e; exact h2 rfl)), h.len, h.may⟩
theorem atL_may {l : List Int} (h : ∀ x ∈ l, 0 ≤ x ∧ x ≤ 65536) (i : Int) : 0 ≤ atL l i ∧ atL l i ≤ 65536 := by
  unfold atL
  split
  · rw [List.getD_eq_getElem?_getD]
    cases hq : l[i.toNat]? with
    | none => exact ⟨by decide, by decide⟩
    | some x => exact h x (List.mem_of_getElem? hq)
  · exact ⟨by decide, by decide⟩
theorem may_set {l : List Int} (h : ∀ x ∈ l, 0 ≤ x ∧ x ≤ 65536) {y : Int} (hy : 0 ≤ y ∧ y ≤ 65536) (n : Nat) : ∀ x ∈ l.set n y, 0 ≤ x ∧ x ≤ 65536 := fun x hx => by
  rcases List.mem_or_eq_of_mem_set hx with h1 | rfl
  · exact h x h1
  · exact hy

theorem infoMx : (Try.prog.info? 64).map (·.size) = some 4 := by kernel_rfl
theorem there_any (bp b : Nat) (i m : Int) (hm : 0 ≤ m ∧ m ≤ 64) (w : World) (h : BkS 48 w bp [.map (some b), .int .i64 m]) :
    Calls Try.prog 28 #[.pointer (some ⟨bp, 0, none⟩), .int .i64 i] w fun e w' => e = .returned (.agg #[.int .i64 i, .int .i64 0, .int .i64 (m - 1), .int .i64 4]) ∧ Adds w w' := by
  obtain ⟨h1, h2⟩ := hm
  obtain ⟨w0, hw0⟩ : ∃ w0, w.alloc (.cells #[.int .i64 0, .int .i64 0, .int .i64 0, .int .i64 0] 64) = w0 := ⟨_, rfl⟩
  have HA := Lib.hid (show Adds w w0 by rw [← hw0]; exact (Gr.new _ _).adds)
  have hc : w0.cell? ⟨bp, 1, none⟩ = some (.int .i64 m) := (h.adds HA.out).cell 1
  have HB := Lib.hid (show BkS 64 w0 w.heap.size [.int .i64 0, .int .i64 0, .int .i64 0, .int .i64 0] by rw [← hw0]; exact BkS.new _ _ _)
  have c0 : w0.cell? ⟨w.heap.size, 0, none⟩ = some (.int .i64 0) := HB.out.cell 0
  have c1 : w0.cell? ⟨w.heap.size, 1, none⟩ = some (.int .i64 0) := HB.out.cell 1
  have c2 : w0.cell? ⟨w.heap.size, 2, none⟩ = some (.int .i64 0) := HB.out.cell 2
  have c3 : w0.cell? ⟨w.heap.size, 3, none⟩ = some (.int .i64 0) := HB.out.cell 3
  have f0 := HB.out.free 0; have f1 := HB.out.free 1; have f2 := HB.out.free 2; have f3 := HB.out.free 3
  clear h
  go_enter Try.func28, Try.ntmps28
  go_wp2
  refine bodyPost_ret (res_box rfl _ _ _ _ _ _ _ rfl ((((HB.out.set 0 (.int .i64 i)).set 1 (.int .i64 0)).set 2 (.int .i64 (m - 1))).set 3 (.int .i64 4)) Try.underlying64 rfl (by kernel_rfl)) rfl ?_
  exact ⟨rfl, Adds.set (Adds.set (Adds.set (Adds.set HA.out (Nat.le_refl _) 0 _) (Nat.le_refl _) 1 _) (Nat.le_refl _) 2 _) (Nat.le_refl _) 3 _⟩

theorem newU_no (many : Int) (hm : ¬ (0 ≤ many ∧ many ≤ 64)) (w : World) :
    Calls Try.prog 8 #[.int .i64 many] w fun e w' => e = .returned (.tuple #[.pointer none, .int .i64 2]) ∧ Adds w w' := by
  have HC := Lib.hid (fun (b cap : Nat) (W : World) h => asked_one ⟨many, 0, 64, 2⟩ b cap W h)
  rw [show (AskU.mk many 0 64 2).ok = false by simp [AskU.ok]; omega] at HC
  clear hm
  go_enter Try.func8, Try.ntmps8
  go_wp2
  refine wp_scope_fwd 0 rfl ?_
  go_wp2_with (go_at_call 21; refine (HC.out _ _ _ (fun k v hk => ((BkS.new _ w _).cell k).trans hk)).mono ?_; rintro e w1 ⟨rfl, ha⟩; have HA := Lib.hid (Adds.trans (Gr.new w _).adds ha); clear ha)
  go_step3
  refine ⟨rfl, ?_⟩
  go_wp2
  rw [Exit.noGoto_ret]
  go_ret2
  exact ⟨rfl, HA.out⟩
theorem newU_yes (many : Nat) (hm : many ≤ 64) (w : World) :
    Calls Try.prog 8 #[.int .i64 ((many : Nat) : Int)] w fun e w' => ∃ v bp b, e = .returned (.tuple #[v, .int .i64 0]) ∧ MutP w' v bp b (List.replicate many 0) ∧ w.heap.size ≤ bp ∧ w.heap.size ≤ b ∧ Adds w w' := by
  have HC := Lib.hid (fun (b cap : Nat) (W : World) h => asked_one ⟨(many : Int), 0, 64, 2⟩ b cap W h)
  rw [show (AskU.mk (many : Int) 0 64 2).ok = true by simp [AskU.ok]; omega] at HC
  have HM := Lib.hid hm; clear hm
  obtain ⟨z, hz⟩ : ∃ z : Int, ((many : Nat) : Int) = z := ⟨_, rfl⟩
  have HZ := Lib.hid hz
  rw [hz] at HC ⊢
  clear hz
  have hk := fun W => HolF.run_make W
  go_enter Try.func8, Try.ntmps8
  go_wp2
  refine wp_scope_fwd 0 rfl ?_
  go_wp2_with (go_at_call 21; refine (HC.out _ _ _ (fun k v hk => ((BkS.new _ w _).cell k).trans hk)).mono ?_; rintro e w1 ⟨rfl, ha⟩; have HA := Lib.hid (Adds.trans (Gr.new w _).adds ha); clear ha)
  simp only [Exit.jump]
  go_ret2
  have h1 : Adds w1 (w1.alloc (.map #[] 0)) := (Gr.new _ _).adds
  have hbk := BkS.new 48 (w1.alloc (.map #[] 0)) [.map (some w1.heap.size), .int .i64 z]
  rw [show (w1.alloc (.map #[] 0)).heap.size = w1.heap.size + 1 by simp] at hbk
  refine ⟨_, _, w1.heap.size, rfl, ⟨rfl, by rw [List.length_replicate, HZ.out]; exact hbk, (HolF.made w1 many).adds (Gr.new _ _).adds, by simpa using HM.out, fun x hx => ?_⟩, ?_, HA.out.size, Adds.trans HA.out (Adds.trans h1 (Gr.new _ _).adds)⟩
  · rw [List.eq_of_mem_replicate hx]; exact ⟨by decide, by decide⟩
  · have := HA.out.size
    omega
end Go.Proofs.Ytdmbjonbcomphaa
