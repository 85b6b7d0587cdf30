/- act: its contract. -/
import Derived.Test.YtedllkahalfjgaaYL0
import Derived.Test.YtedllkahalfjgaaYR2
namespace Go.Proofs.Ytedllkahalfjgaa
open Go Go.RowKit

/-- What a call makes of it. -/
def stepQ (l : List Int) (a i n : Int) : List Int := if 0 ≤ a ∧ a ≤ 4 then addL l i n else l
theorem stepQ_len (l : List Int) (a i n : Int) : (stepQ l a i n).length = l.length := by unfold stepQ; split; exact addL_len ..; rfl
def ActGQ (w : World) (bc : Nat) (l' : List Int) (e : Ending) (w' : World) : Prop :=
  ∃ v' s' bc', e = .returned (.tuple #[v', s', .bool true]) ∧ HolG w' v' bc' l' ∧ RefG w' s' l' ∧ TnS bc w w' ∧ (bc' = bc ∨ w.heap.size ≤ bc')
theorem res_midQ {P : Program} {fn : Func} {p q r : Tmp} {ty : TypeId} (h : fn.results = #[.tmp q, .cell p ty, .tmp r]) (tmps : Array Value) (w : World) (g : Nat) (cs : Array Value) (t : TypeId) (fr : Nat × Nat) (d : TypeDesc) (hp : tmps.getD p undef = .pointer (some ⟨g, 0, none⟩))
    (hg : w.heap[g]? = some (.cells cs t fr)) (hu : P.underlying ty = some d) (hd : (match d with | .struct _ | .array _ _ => true | _ => false) = true) (hi : (P.info? ty).map (·.size) = some cs.size) : (results fn tmps).run P w = .ok (.tuple #[tmps.getD q undef, .agg cs, tmps.getD r undef]) w := by
  have hp' : tmps[p]?.getD undef = .pointer (some ⟨g, 0, none⟩) := by simpa using hp
  simp [results, h, hp', asAddr, run_loadVar_row (P := P) w g t ty cs fr d hg hu hd hi]
set_option maxRecDepth 100000 in
set_option maxHeartbeats 16000000 in
theorem act_add {w : World} {v s : Value} {bc : Nat} {l : List Int} (a i c : Int) (ha : 0 ≤ a ∧ a ≤ 4) (hc : -9223372036854775808 ≤ c ∧ c ≤ 9223372036854775807) (hM : HolG w v bc l) (hR : RefG w s l) :
    Calls Try.prog 23 #[v, s, .agg #[.int .i64 a, .int .i64 i, .int .i64 c]] w (ActGQ w bc (addL l i c)) := by
  obtain ⟨ha0, ha4⟩ := ha
  have ha1 : ¬ a < 0 := by omega
  have ha5 : ¬ 4 < a := by omega
  have hl := hM.len
  have hok := hM.ok
  obtain ⟨g, cap, rfl⟩ := hR.val
  obtain ⟨w1, hw1⟩ : ∃ w1, w.alloc (.cells #[(.slice (some ⟨g, 0, none⟩) l.length cap)] 53) = w1 := ⟨_, rfl⟩
  obtain ⟨w2, hw2⟩ : ∃ w2, w1.alloc (.cells #[.int .i64 a, .int .i64 i, .int .i64 c] 59) = w2 := ⟨_, rfl⟩
  obtain ⟨w3, hw3⟩ : ∃ w3, w2.alloc (.cells #[.slice none 0 0] 53) = w3 := ⟨_, rfl⟩
  have a1 : Adds w w1 := by rw [← hw1]; exact (Gr.new _ _).adds
  have a2 : Adds w1 w2 := by rw [← hw2]; exact (Gr.new _ _).adds
  have a3 : Adds w2 w3 := by rw [← hw3]; exact (Gr.new _ _).adds
  obtain ⟨n0, hn0⟩ : ∃ n0, w.heap.size = n0 := ⟨_, rfl⟩
  obtain ⟨n1, hn1⟩ : ∃ n1, w1.heap.size = n1 := ⟨_, rfl⟩
  obtain ⟨n2, hn2⟩ : ∃ n2, w2.heap.size = n2 := ⟨_, rfl⟩
  have HS := Lib.hid (show n0 = w.heap.size ∧ n1 = w.heap.size + 1 ∧ n2 = w.heap.size + 2 by rw [← hn0, ← hn1, ← hn2, ← hw2, ← hw1]; simp)
  have x0 : BkS 53 w3 n0 [(.slice (some ⟨g, 0, none⟩) l.length cap)] := by
    have h := BkS.new 53 w [(.slice (some ⟨g, 0, none⟩) l.length cap)]
    rw [hw1, hn0] at h
    exact (h.adds a2).adds a3
  have x1 : BkS 59 w3 n1 [.int .i64 a, .int .i64 i, .int .i64 c] := by
    have h := BkS.new 59 w1 [.int .i64 a, .int .i64 i, .int .i64 c]
    rw [hw2, hn1] at h
    exact h.adds a3
  have x2 : BkS 53 w3 n2 [.slice none 0 0] := by
    have h := BkS.new 53 w2 [.slice none 0 0]
    rw [hw3, hn2] at h
    exact h
  have HA := Lib.hid (Adds.trans a1 (Adds.trans a2 a3))
  have HM := Lib.hid (hM.adds HA.out)
  have HR := Lib.hid (hR.adds HA.out)
  have HC0 := Lib.hid hM.cnt.lt
  have X0 := Lib.hid x0; have X1 := Lib.hid x1; have X2 := Lib.hid x2
  have c0 : w3.cell? ⟨n0, 0, none⟩ = some (.slice (some ⟨g, 0, none⟩) l.length cap) := x0.cell 0
  have d0 : w3.cell? ⟨n1, 0, none⟩ = some (.int .i64 a) := x1.cell 0
  have d1 : w3.cell? ⟨n1, 1, none⟩ = some (.int .i64 i) := x1.cell 1
  have d2 : w3.cell? ⟨n1, 2, none⟩ = some (.int .i64 c) := x1.cell 2
  have e0 : w3.cell? ⟨n2, 0, none⟩ = some (.slice none 0 0) := x2.cell 0
  have f0 := x2.free 0
  have h02 : ¬ n0 = n2 := by have := HS.out; omega
  have h20 : ¬ n2 = n0 := by have := HS.out; omega
  have h12 : ¬ n1 = n2 := by have := HS.out; omega
  have h21 : ¬ n2 = n1 := by have := HS.out; omega
  clear a1 a2 a3 x0 x1 x2 hM hR
  have HK := Lib.hid (fun (W : World) (hW : Adds w3 W) => add_any (HM.out.adds hW) i c)
  have HF := Lib.hid (refAdd_any _ l hl hok i c hc w3 HR.out)
  clear hl hok hc
  obtain ⟨L', hL'⟩ : ∃ x, addL l i c = x := ⟨_, rfl⟩
  obtain ⟨E, hE⟩ : ∃ x, addE l i c = x := ⟨_, rfl⟩
  obtain ⟨Y, hY⟩ : ∃ x, addW l i c = x := ⟨_, rfl⟩
  rw [hL', hE, hY] at HK HF
  rw [hL']
  clear hL' hE hY
  go_enter Try.func23, Try.ntmps23
  go_wp2_with (first
    | (go_at_call 55; refine HF.out.mono ?_; rintro e w4 ⟨u4, rfl, h1, h2⟩; obtain ⟨g4, cap4, rfl⟩ := h1.val; obtain ⟨w5, hw5⟩ : ∃ w5, w4.alloc (.cells #[(.slice (some ⟨g4, 0, none⟩) L'.length cap4)] 53) = w5 := ⟨_, rfl⟩; have h5 : Adds w3 w5 := Adds.trans h2 (by rw [← hw5]; exact (Gr.new _ _).adds); have x9 : BkS 53 w5 w4.heap.size [(.slice (some ⟨g4, 0, none⟩) L'.length cap4)] := (by rw [← hw5]; exact BkS.new _ _ _); obtain ⟨n9, hn9⟩ : ∃ n9, w4.heap.size = n9 := ⟨_, rfl⟩; rw [hn9] at x9; have H9 := Lib.hid (show w3.heap.size ≤ n9 by rw [← hn9]; exact h2.size); have c9 : w5.cell? ⟨n9, 0, none⟩ = some (.slice (some ⟨g4, 0, none⟩) L'.length cap4) := x9.cell 0; have p1 : w5.cell? ⟨n1, 1, none⟩ = some (.int .i64 i) := (X1.out.adds h5).cell 1; have p2 : w5.cell? ⟨n1, 2, none⟩ = some (.int .i64 c) := (X1.out.adds h5).cell 2; have p3 : w5.cell? ⟨n2, 0, none⟩ = some (.slice none 0 0) := (X2.out.adds h5).cell 0; have p4 := (X2.out.adds h5).free 0; have X9 := Lib.hid x9; have H5 := Lib.hid h5; have HU := Lib.hid (h1.adds (show Adds w4 w5 by rw [← hw5]; exact (Gr.new _ _).adds)); clear h1 h2 h5 x9 HF)
    | (go_at_call 28; refine (HK.out _ H5.out).mono ?_; rintro e w6 ⟨rfl, q1, q2⟩; have hcn := (HM.out.adds H5.out).cnt; have x9 := X9.out.turnG hcn (by decide) q2; have x2 := (X2.out.adds H5.out).turnG hcn (by decide) q2; have r9 : w6.cell? ⟨n9, 0, none⟩ = some (.slice (some ⟨g4, 0, none⟩) L'.length cap4) := x9.cell 0; have r2 : w6.cell? ⟨n2, 0, none⟩ = some (.slice none 0 0) := x2.cell 0; have r3 := x2.free 0; have M6 := Lib.hid q1; have T6 := Lib.hid q2; have Y2 := Lib.hid x2; have U6 := Lib.hid (HU.out.turn hcn q2); clear q1 q2 x9 x2 hcn))
  have h92 : ¬ n9 = n2 := by have := HS.out; have := H9.out; have := HA.out.size; have := X2.out.lt; omega
  have h29 : ¬ n2 = n9 := fun e => h92 e.symm
  have t9 : w6.drew.cell? ⟨n9, 0, none⟩ = some (.slice (some ⟨g4, 0, none⟩) L'.length cap4) := r9
  have t2 : w6.drew.cell? ⟨n2, 0, none⟩ = some (.slice none 0 0) := r2
  have t3 : w6.drew.frozen? ⟨n2, 0, none⟩ = false := r3
  go_region_with (go_at_call 22; refine (num_any _ _).mono ?_; rintro e w' ⟨rfl, rfl⟩)
  all_goals
    simp only [Exit.then]
    go_simp
    go_wp2
    have hY := Y2.out.adds (Adds.drew w6)
    refine bodyPost_ret (res_midQ rfl _ _ _ _ _ _ _ rfl (hY.set 0 (.slice (some ⟨g4, 0, none⟩) L'.length cap4)) Try.underlying53 rfl (by kernel_rfl)) rfl ?_
    refine ⟨_, _, bc, rfl, (M6.out.adds (Adds.drew w6)).far hY (by decide) (by decide) 0 _, (U6.out.adds (Adds.drew w6)).far hY 0 _, ?_, .inl rfl⟩
    have h7 := ((TnS.of_adds bc (Adds.trans HA.out H5.out)).trans T6.out).trans (TnS.of_adds bc (Adds.drew w6))
    exact ⟨h7.os, h7.tape, h7.output, by simpa [World.setCell] using h7.size, fun k hk hb => (Below.heap_setCell _ _ _ _ (fun e => by have e' : k = n2 := e; have := HS.out; omega)).trans (h7.block k hk hb)⟩
set_option maxRecDepth 100000 in
set_option maxHeartbeats 16000000 in
theorem act_cp {w : World} {v s : Value} {bc : Nat} {l : List Int} (a i c : Int) (ha : ¬ (0 ≤ a ∧ a ≤ 4)) (hM : HolG w v bc l) (hR : RefG w s l) :
    Calls Try.prog 23 #[v, s, .agg #[.int .i64 a, .int .i64 i, .int .i64 c]] w (ActGQ w bc l) := by
  have hl := hM.len
  have hok := hM.ok
  obtain ⟨g, cap, rfl⟩ := hR.val
  obtain ⟨w1, hw1⟩ : ∃ w1, w.alloc (.cells #[(.slice (some ⟨g, 0, none⟩) l.length cap)] 53) = w1 := ⟨_, rfl⟩
  obtain ⟨w2, hw2⟩ : ∃ w2, w1.alloc (.cells #[.int .i64 a, .int .i64 i, .int .i64 c] 59) = w2 := ⟨_, rfl⟩
  obtain ⟨w3, hw3⟩ : ∃ w3, w2.alloc (.cells #[.slice none 0 0] 53) = w3 := ⟨_, rfl⟩
  have a1 : Adds w w1 := by rw [← hw1]; exact (Gr.new _ _).adds
  have a2 : Adds w1 w2 := by rw [← hw2]; exact (Gr.new _ _).adds
  have a3 : Adds w2 w3 := by rw [← hw3]; exact (Gr.new _ _).adds
  obtain ⟨n0, hn0⟩ : ∃ n0, w.heap.size = n0 := ⟨_, rfl⟩
  obtain ⟨n1, hn1⟩ : ∃ n1, w1.heap.size = n1 := ⟨_, rfl⟩
  obtain ⟨n2, hn2⟩ : ∃ n2, w2.heap.size = n2 := ⟨_, rfl⟩
  have HS := Lib.hid (show n0 = w.heap.size ∧ n1 = w.heap.size + 1 ∧ n2 = w.heap.size + 2 by rw [← hn0, ← hn1, ← hn2, ← hw2, ← hw1]; simp)
  have x0 : BkS 53 w3 n0 [(.slice (some ⟨g, 0, none⟩) l.length cap)] := by
    have h := BkS.new 53 w [(.slice (some ⟨g, 0, none⟩) l.length cap)]
    rw [hw1, hn0] at h
    exact (h.adds a2).adds a3
  have x1 : BkS 59 w3 n1 [.int .i64 a, .int .i64 i, .int .i64 c] := by
    have h := BkS.new 59 w1 [.int .i64 a, .int .i64 i, .int .i64 c]
    rw [hw2, hn1] at h
    exact h.adds a3
  have x2 : BkS 53 w3 n2 [.slice none 0 0] := by
    have h := BkS.new 53 w2 [.slice none 0 0]
    rw [hw3, hn2] at h
    exact h
  have HA := Lib.hid (Adds.trans a1 (Adds.trans a2 a3))
  have HM := Lib.hid (hM.adds HA.out)
  have HR := Lib.hid (hR.adds HA.out)
  have HC0 := Lib.hid hM.cnt.lt
  have X0 := Lib.hid x0; have X1 := Lib.hid x1; have X2 := Lib.hid x2
  have c0 : w3.cell? ⟨n0, 0, none⟩ = some (.slice (some ⟨g, 0, none⟩) l.length cap) := x0.cell 0
  have d0 : w3.cell? ⟨n1, 0, none⟩ = some (.int .i64 a) := x1.cell 0
  have d1 : w3.cell? ⟨n1, 1, none⟩ = some (.int .i64 i) := x1.cell 1
  have d2 : w3.cell? ⟨n1, 2, none⟩ = some (.int .i64 c) := x1.cell 2
  have e0 : w3.cell? ⟨n2, 0, none⟩ = some (.slice none 0 0) := x2.cell 0
  have f0 := x2.free 0
  have h02 : ¬ n0 = n2 := by have := HS.out; omega
  have h20 : ¬ n2 = n0 := by have := HS.out; omega
  have h12 : ¬ n1 = n2 := by have := HS.out; omega
  have h21 : ¬ n2 = n1 := by have := HS.out; omega
  clear a1 a2 a3 x0 x1 x2 hM hR
  clear hl hok
  have cq : w3.drew.cell? ⟨n0, 0, none⟩ = some (.slice (some ⟨g, 0, none⟩) l.length cap) := c0
  have eq0 : w3.drew.cell? ⟨n2, 0, none⟩ = some (.slice none 0 0) := e0
  have fq0 : w3.drew.frozen? ⟨n2, 0, none⟩ = false := f0
  have HC := Lib.hid (copyQ_any (HM.out.adds (Adds.drew w3)))
  have hcase : a < 0 ∨ (¬ a < 0 ∧ 4 < a) := by omega
  clear ha
  rcases hcase with ha1 | ⟨ha1, ha2⟩
  all_goals
    go_enter Try.func23, Try.ntmps23
    go_wp2
    go_region_with (go_at_call 25; refine HC.out.mono ?_; rintro e w4 ⟨v4, b4, rfl, q1, q2, q3⟩; have h5 := Adds.trans (Adds.drew w3) q3; have p0 : w4.cell? ⟨n0, 0, none⟩ = some (.slice (some ⟨g, 0, none⟩) l.length cap) := (X0.out.adds h5).cell 0; have q0 : w4.cell? ⟨n2, 0, none⟩ = some (.slice none 0 0) := (X2.out.adds h5).cell 0; have r0 := (X2.out.adds h5).free 0; have H1 := Lib.hid q1; have H2 := Lib.hid q2; have H5 := Lib.hid h5; clear q1 q2 q3 h5)
    all_goals
      simp only [Exit.then]
      go_simp
      go_wp2
      have hX := X2.out.adds H5.out
      refine bodyPost_ret (res_midQ rfl _ _ _ _ _ _ _ rfl (hX.set 0 (.slice (some ⟨g, 0, none⟩) l.length cap)) Try.underlying53 rfl (by kernel_rfl)) rfl ?_
      refine ⟨_, _, b4, rfl, H1.out.far hX (by decide) (by decide) 0 _, (HR.out.adds H5.out).far hX 0 _, ?_, .inr (Nat.le_trans HA.out.size H2.out)⟩
      have h7 := TnS.of_adds bc (Adds.trans HA.out H5.out)
      exact ⟨h7.os, h7.tape, h7.output, by simpa [World.setCell] using h7.size, fun k hk hb => (Below.heap_setCell _ _ _ _ (fun e => by have e' : k = n2 := e; have := HS.out; omega)).trans (h7.block k hk hb)⟩
theorem act_any {w : World} {v s : Value} {bc : Nat} {l : List Int} (a i c : Int) (hc : -9223372036854775808 ≤ c ∧ c ≤ 9223372036854775807) (hM : HolG w v bc l) (hR : RefG w s l) :
    Calls Try.prog 23 #[v, s, .agg #[.int .i64 a, .int .i64 i, .int .i64 c]] w (ActGQ w bc (stepQ l a i c)) := by
  unfold stepQ
  by_cases ha : 0 ≤ a ∧ a ≤ 4
  · rw [if_pos ha]; exact act_add a i c ha hc hM hR
  · rw [if_neg ha]; exact act_cp a i c ha hM hR
end Go.Proofs.Ytedllkahalfjgaa
