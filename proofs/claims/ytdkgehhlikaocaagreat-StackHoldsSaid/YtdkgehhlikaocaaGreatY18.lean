/- Merged: G9. -/
import Derived.Test.YtdkgehhlikaocaaGreatY17
namespace Go.Proofs.YtdkgehhlikaocaaGreat
open Go Go.RowKit Go.Shelf
attribute [local go_sem] Oper.semAt_some

theorem plL_at {fs : List Fu} {pre : List (Nat × Nat)} {x : Nat × Nat} (h : AtP fs pre x) : ∃ t, plL fs fs.length = pre ++ x :: t := by
  obtain ⟨i, k⟩ := x
  obtain ⟨h1, h2, rfl⟩ := h
  simp only at h1 h2
  have hrow : ∃ t, rowP fs i = (List.range k).map (fun k => (i, k)) ++ (i, k) :: t := by
    unfold rowP
    obtain ⟨d, hd⟩ : ∃ d, (fs.getD i zF).2.length = k + 1 + d := ⟨(fs.getD i zF).2.length - (k + 1), by omega⟩
    rw [hd, List.range_add, List.range_succ]
    exact ⟨((List.range d).map (fun x => k + 1 + x)).map (fun k => (i, k)), by simp⟩
  obtain ⟨t, ht⟩ := hrow
  have hle : ∀ d, ∃ t, plL fs (i + 1 + d) = plL fs (i + 1) ++ t := by
    intro d
    induction d with
    | zero => exact ⟨[], by simp⟩
    | succ d ih =>
      obtain ⟨t, h⟩ := ih
      exact ⟨t ++ rowP fs (i + 1 + d), by rw [show i + 1 + (d + 1) = (i + 1 + d) + 1 by omega, plL_succ, h, List.append_assoc]⟩
  obtain ⟨t2, h2'⟩ := hle (fs.length - (i + 1))
  rw [show i + 1 + (fs.length - (i + 1)) = fs.length by omega, plL_succ, ht] at h2'
  exact ⟨t ++ t2, by rw [h2']; simp [preL]⟩
/-- It may not be there. -/
def badX (fs : List Fu) (x : Nat × Nat) : Bool := !fineB fs (fs.getD x.1 zF) x.2 ((fs.getD x.1 zF).2.getD x.2 zI)
/-- The first place that may not be, of a program whose numbers may be. -/
def wrongP (p : Pg) : Option (Nat × Nat) := if numsP p then (plL p.1 p.1.length).find? (badX p.1) else none
def wrS (o : Option (Nat × Nat)) : Value := match o with | some x => .agg #[.int .i64 (x.1 : Int), .int .i64 (x.2 : Int)] | none => .agg #[.int .i64 0, .int .i64 0]
abbrev wrV (o : Option (Nat × Nat)) : Value := .tuple #[wrS o, .bool o.isSome]
theorem mem_getDz {α : Type} (l : List α) (z : α) (k : Nat) (h : k < l.length) : l.getD k z ∈ l := by
  rw [List.getD_eq_getElem?_getD, List.getElem?_eq_getElem h]
  exact List.getElem_mem h
theorem res_two (tmps : Array Value) (w : World) (g2 g3 : Nat) (cs : Array Value) (b : Bool) (h2 : tmps.getD 2 undef = .pointer (some ⟨g2, 0, none⟩)) (h3 : tmps.getD 3 undef = .pointer (some ⟨g3, 0, none⟩))
    (hg : w.heap[g2]? = some (.cells cs 58 (0, 0))) (hs : cs.size = 2) (hc : w.cell? ⟨g3, 0, none⟩ = some (.bool b)) : (results Tryz.f63 tmps).run Tryz.prog w = .ok (.tuple #[.agg cs, .bool b]) w := by
  have h2' : tmps[2]?.getD undef = .pointer (some ⟨g2, 0, none⟩) := by simpa using h2
  have h3' : tmps[3]?.getD undef = .pointer (some ⟨g3, 0, none⟩) := by simpa using h3
  have hi : (Tryz.prog.info? 58).map (·.size) = some 2 := by kernel_rfl
  have hr := run_loadVar_row (P := Tryz.prog) w g2 58 58 cs (0, 0) _ hg Tryz.underlying58 rfl (by rw [hi, hs])
  have hu := Tryz.underlying4
  have hr3 : (loadVar 4 ⟨g3, 0, none⟩).run Tryz.prog w = .ok (.bool b) w := by simp [loadVar, isAgg, run_underlying hu, hc]
  simp [results, Tryz.results63, h2', h3', asAddr, hr, hr3]
abbrev siC (a b : Int) : List Value := [.int .i64 a, .int .i64 b]
set_option maxRecDepth 100000 in
set_option maxHeartbeats 8000000 in
theorem wrong_no {m : Nat} (u : Value) (p : Pg) (w : World) (hf : FuncsW m w u p.1) (hn : numsP p = false) : Calls Tryz.prog 63 #[pgV u p] w fun e w' => e = .returned (wrV (wrongP p)) ∧ Adds w w' := by
  have hw : wrongP p = none := by unfold wrongP; rw [hn]; rfl
  rw [hw]
  obtain ⟨fs, x1, x2, x3⟩ := p
  have HNu := Lib.hid (fun (W : World) (h : Adds w W) => numsP_any u (fs, x1, x2, x3) W (hf.adds h))
  rw [hn] at HNu
  obtain ⟨ao, cap, rfl, _, _, _⟩ := hf
  simp only at HNu ⊢
  generalize fs.length = fl at HNu ⊢
  obtain ⟨w0, hw0⟩ : ∃ w0, ((w.alloc (.cells #[.slice ao fl cap, .int .i64 x1, .int .i64 x2, .int .i64 x3] 24)).alloc (.cells #[.int .i64 0, .int .i64 0] 58)).alloc (.cells #[.bool false] 4) = w0 := ⟨_, rfl⟩
  have A0 := Lib.hid (show Adds w w0 by rw [← hw0]; exact (((Gr.new _ _).alloc _).alloc _).adds)
  have HB1 := Lib.hid (show BkS 24 w0 w.heap.size [.slice ao fl cap, .int .i64 x1, .int .i64 x2, .int .i64 x3] by rw [← hw0]; exact (BkS.new _ _ _).adds ((Gr.new _ _).alloc _).adds)
  have HB2 := Lib.hid (show BkS 58 w0 (w.heap.size + 1) (siC 0 0) by
    rw [← hw0]
    have h : BkS 58 ((w.alloc (.cells #[.slice ao fl cap, .int .i64 x1, .int .i64 x2, .int .i64 x3] 24)).alloc (.cells #[.int .i64 0, .int .i64 0] 58)) (w.heap.size + 1) (siC 0 0) := heap_new1 _ _ _
    exact h.adds (Gr.new _ _).adds)
  have HB3 := Lib.hid (show BkS 4 w0 (w.heap.size + 1 + 1) [.bool false] by
    rw [← hw0]
    have h := BkS.new 4 ((w.alloc (.cells #[.slice ao fl cap, .int .i64 x1, .int .i64 x2, .int .i64 x3] 24)).alloc (.cells #[.int .i64 0, .int .i64 0] 58)) [.bool false]
    simpa using h)
  have b0 : w0.cell? ⟨w.heap.size, 0, none⟩ = some (.slice ao fl cap) := HB1.out.cell 0
  have b1 : w0.cell? ⟨w.heap.size, 1, none⟩ = some (.int .i64 x1) := HB1.out.cell 1
  have b2 : w0.cell? ⟨w.heap.size, 2, none⟩ = some (.int .i64 x2) := HB1.out.cell 2
  have b3 : w0.cell? ⟨w.heap.size, 3, none⟩ = some (.int .i64 x3) := HB1.out.cell 3
  clear hw hn
  refine (callsIn_wide (n := 6)).1 ?_
  refine callsIn_of_wp_marks Tryz.func63 rfl trivial ?_ rfl
  simp only [Tryz.ntmps63, List.size_toArray, List.length_cons, List.length_nil, Nat.reduceAdd, Nat.reduceSub, Array.replicate_succ, Array.replicate_zero, List.push_toArray, List.append_toArray, List.nil_append, List.cons_append]
  gi_wp2
  refine wpIn_wide.2 (wp_scope_fwd 0 rfl ((wpIn_wide (n := 6)).1 ?_))
  gi_wp2_with (refine ⟨trivial, ?_⟩; gi_at_call 62; refine (callsIn_wide.2 (HNu.out _ A0.out)).mono ?_; rintro e w1 ⟨rfl, q⟩; have HA1 := Lib.hid q; clear q)
  refine wpIn_wide.2 ?_
  go_step3
  refine ⟨rfl, ?_⟩
  refine (wpIn_wide (n := 6)).1 ?_
  have q2 := HB2.out.adds HA1.out
  have q3 := HB3.out.adds HA1.out
  have HQ := Lib.hid (And.intro q2 q3)
  have z0 : w1.cell? ⟨w.heap.size + 1, 0, none⟩ = some (.int .i64 0) := q2.cell 0
  have z1 : w1.cell? ⟨w.heap.size + 1, 1, none⟩ = some (.int .i64 0) := q2.cell 1
  have z2 : w1.cell? ⟨w.heap.size + 1 + 1, 0, none⟩ = some (.bool false) := q3.cell 0
  have y0 := q2.free 0
  have y1 := q2.free 1
  have y2 := q3.free 0
  clear q2 q3
  gi_wp2
  rw [Exit.noGoto_ret]
  show LeavesInM _ _ _ _ _ _ _ _ _
  have hz0 : w0.heap.size = w.heap.size + 3 := by rw [← hw0]; simp
  have hz1 := HA1.out.size
  refine marks_leave [] w.heap.size _ (B := w.heap.size + 3) trivial fun W'' hb'' => ?_
  obtain ⟨q2, q3⟩ := HQ.out
  have r2 : BkS 58 (((w1.setCell ⟨w.heap.size + 1, 0, none⟩ (.int .i64 0)).setCell ⟨w.heap.size + 1, 1, none⟩ (.int .i64 0)).setCell ⟨w.heap.size + 1 + 1, 0, none⟩ (.bool false)) (w.heap.size + 1) (siC 0 0) := ((q2.set 0 (.int .i64 0)).set 1 (.int .i64 0)).other (by omega) _
  have r3 : BkS 4 (((w1.setCell ⟨w.heap.size + 1, 0, none⟩ (.int .i64 0)).setCell ⟨w.heap.size + 1, 1, none⟩ (.int .i64 0)).setCell ⟨w.heap.size + 1 + 1, 0, none⟩ (.bool false)) (w.heap.size + 1 + 1) [.bool false] := ((q3.other (by omega) _).other (by omega) _).set 0 (.bool false)
  have r2' : BkS 58 W'' (w.heap.size + 1) (siC 0 0) := (hb''.block _ (by omega)).trans r2
  have r3' : BkS 4 W'' (w.heap.size + 1 + 1) [.bool false] := (hb''.block _ (by omega)).trans r3
  refine ⟨_, res_two _ W'' (w.heap.size + 1) (w.heap.size + 1 + 1) (siC 0 0).toArray false rfl rfl r2' rfl (r3'.cell 0), rfl, ?_⟩
  have h1 : Adds w w1 := Adds.trans A0.out HA1.out
  exact Below.trans (Adds.set (Adds.set (Adds.set h1 (by omega) _ _) (by omega) _ _) (by omega) _ _) (hb''.mono (by omega))
def sel2 (c : Bool) (v o : Value) : Value := cond c v o
theorem sel2_t (v o : Value) : sel2 true v o = v := rfl
theorem keepsFrom_adds (B : Nat) {W W' : World} (h : Adds W W') : KeepsFrom B W W' := ⟨h.size, fun k o _ hk _ => by rw [h.block k (Array.getElem?_eq_some_iff.1 hk).1]; exact hk⟩
/-- How region 5 of Wrong stands. -/
def RegW (W0 : World) (b fr : Act) (w : World) : Prop := b = fr ∧ Adds W0 w
set_option maxRecDepth 100000 in
set_option maxHeartbeats 16000000 in
theorem wrong_yes {m : Nat} (u : Value) (p : Pg) (w : World) (hf : FuncsW m w u p.1) (hn : numsP p = true) : Calls Tryz.prog 63 #[pgV u p] w fun e w' => e = .returned (wrV (wrongP p)) ∧ Adds w w' := by
  have hw : wrongP p = (plL p.1 p.1.length).find? (badX p.1) := by unfold wrongP; rw [hn]; rfl
  obtain ⟨fs, x1, x2, x3⟩ := p
  have HNu := Lib.hid (fun (W : World) (h : Adds w W) => numsP_any u (fs, x1, x2, x3) W (hf.adds h))
  rw [hn] at HNu
  have HF := Lib.hid hf
  have hlen : fs.length ≤ 32 ∧ ∀ i, i < fs.length → (fs.getD i zF).2.length ≤ 512 := by
    unfold numsP at hn
    simp only [Bool.and_eq_true] at hn
    obtain ⟨h1, _, h3⟩ := hn
    unfold inB at h1
    rw [decide_eq_true_eq] at h1
    refine ⟨by omega, fun i hi => ?_⟩
    rw [List.all_eq_true] at h3
    have h4 := h3 (fs.getD i zF) (by rw [List.getD_eq_getElem?_getD, List.getElem?_eq_getElem hi]; exact List.getElem_mem hi)
    unfold numsF inB at h4
    simp only [Bool.and_eq_true, decide_eq_true_eq] at h4
    omega
  obtain ⟨ao, cap, rfl, hcap, _, _⟩ := id hf
  have hcv : ∃ q : Nat → Option Addr × Nat, ∀ i, i < fs.length → ∃ g off, ao = some ⟨g, off, none⟩ ∧ g < w.heap.size ∧ w.cell? ⟨g, off + i * 2, none⟩ = some (.int .i64 (fs.getD i zF).1) ∧ w.cell? ⟨g, off + i * 2 + 1, none⟩ = some (.slice (q i).1 (fs.getD i zF).2.length (q i).2) ∧ CodeW w.heap.size w (.slice (q i).1 (fs.getD i zF).2.length (q i).2) (fs.getD i zF).2 ∧ ∀ x ∈ (fs.getD i zF).2, OkIn x := by
    refine Classical.axiomOfChoice (r := fun (i : Nat) (u : Option Addr × Nat) => i < fs.length → ∃ g off, ao = some ⟨g, off, none⟩ ∧ g < w.heap.size ∧ w.cell? ⟨g, off + i * 2, none⟩ = some (.int .i64 (fs.getD i zF).1) ∧ w.cell? ⟨g, off + i * 2 + 1, none⟩ = some (.slice u.1 (fs.getD i zF).2.length u.2) ∧ CodeW w.heap.size w (.slice u.1 (fs.getD i zF).2.length u.2) (fs.getD i zF).2 ∧ ∀ x ∈ (fs.getD i zF).2, OkIn x) fun i => ?_
    by_cases hi : i < fs.length
    · obtain ⟨g, off, e, hg, k0, u, k1, hc, ho⟩ := hf.at hi
      obtain ⟨ac, cc, rfl, _, _⟩ := hc.form
      exact ⟨(ac, cc), fun _ => ⟨g, off, e, World.block_lt_of_cell? w _ k0, k0, k1, hc.here, ho⟩⟩
    · exact ⟨(none, 0), fun h => absurd h hi⟩
  obtain ⟨q, hcv⟩ := hcv
  have HCv := Lib.hid hcv
  have HLe := Lib.hid hlen
  have HWr := Lib.hid hw
  simp only at HNu HWr HF
  clear hw hn hcv hf
  obtain ⟨w0, hw0⟩ : ∃ w0, ((w.alloc (.cells #[.slice ao fs.length cap, .int .i64 x1, .int .i64 x2, .int .i64 x3] 24)).alloc (.cells #[.int .i64 0, .int .i64 0] 58)).alloc (.cells #[.bool false] 4) = w0 := ⟨_, rfl⟩
  have A0 := Lib.hid (show Adds w w0 by rw [← hw0]; exact (((Gr.new _ _).alloc _).alloc _).adds)
  have HB1 := Lib.hid (show BkS 24 w0 w.heap.size [.slice ao fs.length cap, .int .i64 x1, .int .i64 x2, .int .i64 x3] by rw [← hw0]; exact (BkS.new _ _ _).adds ((Gr.new _ _).alloc _).adds)
  have HB2 := Lib.hid (show BkS 58 w0 (w.heap.size + 1) (siC 0 0) by
    rw [← hw0]
    have h : BkS 58 ((w.alloc (.cells #[.slice ao fs.length cap, .int .i64 x1, .int .i64 x2, .int .i64 x3] 24)).alloc (.cells #[.int .i64 0, .int .i64 0] 58)) (w.heap.size + 1) (siC 0 0) := heap_new1 _ _ _
    exact h.adds (Gr.new _ _).adds)
  have HB3 := Lib.hid (show BkS 4 w0 (w.heap.size + 1 + 1) [.bool false] by
    rw [← hw0]
    have h := BkS.new 4 ((w.alloc (.cells #[.slice ao fs.length cap, .int .i64 x1, .int .i64 x2, .int .i64 x3] 24)).alloc (.cells #[.int .i64 0, .int .i64 0] 58)) [.bool false]
    simpa using h)
  have HZ0 := Lib.hid (show w0.heap.size = w.heap.size + 3 by rw [← hw0]; simp)
  have b0 : w0.cell? ⟨w.heap.size, 0, none⟩ = some (.slice ao fs.length cap) := HB1.out.cell 0
  have b1 : w0.cell? ⟨w.heap.size, 1, none⟩ = some (.int .i64 x1) := HB1.out.cell 1
  have b2 : w0.cell? ⟨w.heap.size, 2, none⟩ = some (.int .i64 x2) := HB1.out.cell 2
  have b3 : w0.cell? ⟨w.heap.size, 3, none⟩ = some (.int .i64 x3) := HB1.out.cell 3
  refine (callsIn_wide (n := 6)).1 ?_
  refine callsIn_of_wp_marks Tryz.func63 rfl trivial ?_ rfl
  simp only [Tryz.ntmps63, List.size_toArray, List.length_cons, List.length_nil, Nat.reduceAdd, Nat.reduceSub, Array.replicate_succ, Array.replicate_zero, List.push_toArray, List.append_toArray, List.nil_append, List.cons_append]
  gi_wp2
  refine wpIn_wide.2 (wp_scope_fwd 0 rfl ((wpIn_wide (n := 6)).1 ?_))
  gi_wp2_with (first
    | (refine ⟨trivial, ?_⟩; gi_at_call 62; refine (callsIn_wide.2 (HNu.out _ A0.out)).mono ?_; rintro e w1 ⟨rfl, q⟩; have HA1 := Lib.hid q; have qq := HB1.out.adds q; have c0 : w1.cell? ⟨w.heap.size, 0, none⟩ = some (.slice ao fs.length cap) := qq.cell 0; have c1 : w1.cell? ⟨w.heap.size, 1, none⟩ = some (.int .i64 x1) := qq.cell 1; have c2 : w1.cell? ⟨w.heap.size, 2, none⟩ = some (.int .i64 x2) := qq.cell 2; have c3 : w1.cell? ⟨w.heap.size, 3, none⟩ = some (.int .i64 x3) := qq.cell 3; clear q qq)
    | (refine ⟨trivial, ?_⟩; gi_at_call 88; refine (callsIn_wide.2 (places_any _ _ _ _ _ _ _)).mono ?_; rintro e w2 ⟨rfl, hw2⟩))
  have AB := Lib.hid (show Adds w1 w2 by rw [← hw2]; exact (Gr.new _ _).adds)
  have HSB := Lib.hid (show w2.heap.size = w1.heap.size + 1 by rw [← hw2]; simp)
  have cb0 : w2.cell? ⟨w1.heap.size, 0, none⟩ = some (.slice ao fs.length cap) := by rw [← hw2]; simp
  have HR2 := Lib.hid ((HB2.out.adds HA1.out).adds AB.out)
  have HR3 := Lib.hid ((HB3.out.adds HA1.out).adds AB.out)
  have HA2 := Lib.hid (Adds.trans A0.out (Adds.trans HA1.out AB.out))
  have hz0 := HZ0.out
  have hz1 := HA1.out.size
  have hz2 := HSB.out
  clear hw2 c0 c1 c2 c3 b0 b1 b2 b3 hw0 hlen
  refine' rangeFunc_S2 rfl (by omega) (gf := 96) (lb := #[.pointer (some ⟨w1.heap.size, 0, none⟩)]) rfl trivial (enters_of Tryz.func96 (by kernel_rfl) rfl)
    (w0 := w2) (G := AtP fs) (encs := plE fs (fun i => .slice (q i).1 (fs.getD i zF).2.length (q i).2) (.slice ao fs.length cap)) (Kp := KeepC (fun _ => False)) (S := fun xs => xs = plL fs fs.length) (Sp := BegP fs)
    ?seq KeepC.trans (fun W l o o' _ h hc _ => KeepC.put W l o o' h hc) (Below.refl _ _) (fun _ => rfl)
    (fun pre V => Below w2.heap.size w2 V ∧ ∀ y ∈ pre, badX fs y = false)
    (fun c pre V => c = .ret ∧ Below w.heap.size w2 V ∧ w2.heap.size ≤ V.heap.size ∧ ∃ x, pre = pre.dropLast ++ [x] ∧ badX fs x = true ∧ (∀ y ∈ pre.dropLast, badX fs y = false) ∧ BkS 58 V (w.heap.size + 1) (siC x.1 x.2) ∧ BkS 4 V (w.heap.size + 1 + 1) [.bool true])
    ?own ?ownx ?h0 _ (fun x => .cells (siC x.1 x.2).toArray 58 (0, 0)) (fun x => .cells (plC (fs.getD x.1 zF).1 (.slice (q x.1).1 (fs.getD x.1 zF).2.length (q x.1).2) x.2 (.slice ao fs.length cap)).toArray 131 (0, 0)) (fun W o _ => KeepC.of_below (Gr.new W o).adds) ?assign ?body ?done ?stop
  case assign =>
    intro l2 x W2 bb K hbb hK
    have HK := Lib.hid hK; clear hK
    gi_wp2
    exact HK.out
  case own => exact fun s A B hs hb => ⟨hs.1.trans hb, hs.2⟩
  case ownx =>
    rintro c s A B ⟨h1, h2, h3, x, h4, h5, h6, h7, h8⟩ hb
    exact ⟨h1, h2.trans (hb.mono (by omega)), Nat.le_trans h3 hb.size, x, h4, h5, h6, (hb.block _ (by omega)).trans h7, (hb.block _ (by omega)).trans h8⟩
  case h0 => exact ⟨Below.refl _ _, fun y hy => by cases hy⟩
  case seq =>
    intro l' J' Jx' W2 hb hJ' hJx' hY' h0'
    refine places1_in W2.heap.size 5 (by omega) l' _ (fun _ => False) ao cap fs (fun i => .slice (q i).1 (fs.getD i zF).2.length (q i).2) (by have := HLe.out.1; omega) J' Jx' W2 hJ' hY' (Nat.le_refl _) (fun _ h => h.elim) id (Adds.cellAt hb cb0) ?_ h0'
    intro i hi
    obtain ⟨g, off, e, hg, k0, k1, hc, _⟩ := HCv.out i hi
    have ha : Adds w W2 := Adds.trans HA2.out hb
    exact ⟨g, off, e, id, ha.cellAt k0, ha.cellAt k1, (q i).1, (q i).2, rfl, by have := HLe.out.2 i hi; omega⟩
  case body =>
    rintro l2 pre ⟨xf, xp⟩ W2 bb ⟨hb2, hp2⟩ hg hbb hbo hbo2
    obtain ⟨hx1, hx2, hpre⟩ := id hg
    simp only at hx1 hx2 hbo hbo2
    obtain ⟨g, off, e, hgl, k0, k1, hc, hok⟩ := HCv.out xf hx1
    have HAW := Lib.hid (show Adds w W2 from Adds.trans HA2.out hb2)
    have hcx : (fs.getD xf zF).2.getD xp zI ∈ (fs.getD xf zF).2 := mem_getDz _ _ _ hx2
    have hbx : badX fs (xf, xp) = !fineB fs (fs.getD xf zF) xp ((fs.getD xf zF).2.getD xp zI) := rfl
    have hpl := HLe.out.2 xf hx1
    obtain ⟨⟨ac, cc⟩, hq⟩ : ∃ y, q xf = y := ⟨_, rfl⟩
    rw [hq] at hc hbo2
    simp only [hq]
    have HIn := Lib.hid (fun (W : World) (h : Adds w W) => ins_any (fs.getD xf zF).1 ac cc (fs.getD xf zF).2 xp (.slice ao fs.length cap) W (hc.adds h) hx2)
    have HHo := Lib.hid (fun (W : World) (h : Adds w W) => holdsPl_any (fs.getD xf zF).1 ac cc (fs.getD xf zF).2 xp (by omega) ao cap fs _ (hok _ hcx) W (HF.out.adds h))
    rw [show ((fs.getD xf zF).1, (fs.getD xf zF).2) = fs.getD xf zF from rfl] at HHo
    generalize (fs.getD xf zF).2.getD xp zI = ix at HIn HHo hbx
    generalize fineB fs (fs.getD xf zF) xp ix = fb at HHo hbx
    generalize (fs.getD xf zF).1 = rg at HIn HHo hbo2
    generalize (fs.getD xf zF).2.length = cl at HIn HHo hbo2 hx2 hpl
    have HG := Lib.hid (And.intro hg hpre)
    have HP2 := Lib.hid hp2
    have HBx := Lib.hid hbx
    have HB := Lib.hid hb2
    have hd : 1 ≤ 6 - 1 - 1 := by omega
    have hmx : Tryz.prog.follows .mixedOrders = true := by kernel_rfl
    have HSi := Lib.hid (show BkS 58 W2 bb (siC xf xp) from hbo)
    have HPl := Lib.hid (show BkS 131 W2 (bb + 1) (plC rg (.slice ac cl cc) xp (.slice ao fs.length cap)) from hbo2)
    have HRs := Lib.hid (And.intro (HR2.out.adds hb2) (HR3.out.adds hb2))
    clear hg hpre hp2 hbx hb2 hbo hbo2 hc hok hcx k0 k1 hgl e hx1 hx2 hpl
    gi_wp2
    refine wpIn_region_inv (fun L b w3 => RegW W2 b ({ tmps := #[pgV (Value.slice ao fs.length cap) (fs, x1, x2, x3), Value.pointer (some { block := w.heap.size, off := 0 }), Value.pointer (some { block := w.heap.size + 1, off := 0 }), Value.pointer (some { block := w.heap.size + 1 + 1, off := 0 }), Value.pointer (some { block := bb, off := 0 }), Value.pointer (some { block := bb + 1, off := 0 }), Value.agg #[Value.slice ao fs.length cap, Value.int IntKind.i64 x1, Value.int IntKind.i64 x2, Value.int IntKind.i64 x3], Value.bool true, Value.bool false, Value.agg #[Value.slice ao fs.length cap, Value.int IntKind.i64 x1, Value.int IntKind.i64 x2, Value.int IntKind.i64 x3], Value.func (Fn.func 96) #[] #[Value.pointer (some { block := w1.heap.size, off := 0 })], Value.agg #[Value.int IntKind.i64 (xf : Int), Value.int IntKind.i64 (xp : Int)], plV (fs[xf]?.getD zF).fst (Value.slice ac (fs[xf]?.getD zF).snd.length cc) (xp : Int) (Value.slice ao fs.length cap), sel2 (L 0) (Value.agg #[Value.int IntKind.i64 rg, Value.slice ac cl cc, Value.int IntKind.i64 (xp : Int), Value.slice ao fs.length cap]) (undef), sel2 (L 1) (Value.agg #[Value.int IntKind.i64 rg, Value.slice ac cl cc, Value.int IntKind.i64 (xp : Int), Value.slice ao fs.length cap]) (undef), sel2 (L 2) (insV ix) (undef), sel2 (L 3) (Value.bool fb) (undef), sel2 (L 4) (Value.bool (!fb)) (undef), undef, undef], defers := [] }) w3) hmx (by kernel_rfl) ?inv0 ?step ?fin
    case inv0 => exact ⟨rfl, Adds.drew _⟩
    case step =>
      rintro L b w3 i o ho hL hC he ⟨rfl, hP⟩
      clear hC
      have HP := Lib.hid hP
      clear hP
      rcases i with _ | _ | _ | _ | _ | i
      · simp only [List.getElem?_cons_zero, Option.some.injEq] at ho
        subst ho
        try simp [Region.binds] at he
        have p0 : w3.cell? ⟨bb + 1, 0, none⟩ = some (.int .i64 rg) := (HPl.out.adds HP.out).cell 0
        have p1 : w3.cell? ⟨bb + 1, 1, none⟩ = some (.slice ac cl cc) := (HPl.out.adds HP.out).cell 1
        have p2 : w3.cell? ⟨bb + 1, 2, none⟩ = some (.int .i64 (xp : Int)) := (HPl.out.adds HP.out).cell 2
        have p3 : w3.cell? ⟨bb + 1, 3, none⟩ = some (.slice ao fs.length cap) := (HPl.out.adds HP.out).cell 3
        gi_wp2
        exact ⟨by simp [sel2, *], HP.out⟩
      · simp only [List.getElem?_cons_zero, List.getElem?_cons_succ, Option.some.injEq] at ho
        subst ho
        try simp [Region.binds] at he
        have p0 : w3.cell? ⟨bb + 1, 0, none⟩ = some (.int .i64 rg) := (HPl.out.adds HP.out).cell 0
        have p1 : w3.cell? ⟨bb + 1, 1, none⟩ = some (.slice ac cl cc) := (HPl.out.adds HP.out).cell 1
        have p2 : w3.cell? ⟨bb + 1, 2, none⟩ = some (.int .i64 (xp : Int)) := (HPl.out.adds HP.out).cell 2
        have p3 : w3.cell? ⟨bb + 1, 3, none⟩ = some (.slice ao fs.length cap) := (HPl.out.adds HP.out).cell 3
        gi_wp2
        exact ⟨by simp [sel2, *], HP.out⟩
      · simp only [List.getElem?_cons_zero, List.getElem?_cons_succ, Option.some.injEq] at ho
        subst ho
        try simp [Region.binds] at he
        simp only [he, sel2_t]
        gi_wp2_with (refine ⟨trivial, ?_⟩; gi_at_call 90; refine (CallsIn.inRound l2 (callsIn_wide.2 (HIn.out _ (Adds.trans HAW.out HP.out)))).mono ?_; rintro e w4 ⟨rfl, qa⟩; have HA := Lib.hid (Adds.trans HP.out qa); clear qa)
        exact ⟨by simp [sel2, *], HA.out⟩
      · simp only [List.getElem?_cons_zero, List.getElem?_cons_succ, Option.some.injEq] at ho
        subst ho
        try simp [Region.binds] at he
        simp only [he, sel2_t]
        gi_wp2_with (refine ⟨trivial, ?_⟩; gi_at_call 89; refine (CallsIn.inRound l2 (callsIn_wide.2 (HHo.out _ (Adds.trans HAW.out HP.out)))).mono ?_; rintro e w4 ⟨rfl, qa⟩; have HA := Lib.hid (Adds.trans HP.out qa); clear qa)
        exact ⟨by simp [sel2, *], HA.out⟩
      · simp only [List.getElem?_cons_zero, List.getElem?_cons_succ, Option.some.injEq] at ho
        subst ho
        try simp [Region.binds] at he
        simp only [he, sel2_t]
        gi_wp2
        exact ⟨by simp [sel2, *], HP.out⟩
      · simp at ho
    case fin =>
      rintro b w3 ⟨rfl, hP⟩
      simp only [List.length_cons, List.length_nil, Nat.reduceAdd, Nat.reduceLT, decide_true, sel2_t]
      have HP := Lib.hid hP
      have s0 : w3.cell? ⟨bb, 0, none⟩ = some (.int .i64 (xf : Int)) := (HSi.out.adds hP).cell 0
      have s1 : w3.cell? ⟨bb, 1, none⟩ = some (.int .i64 (xp : Int)) := (HSi.out.adds hP).cell 1
      have r2 := HRs.out.1.adds hP
      have r3 := HRs.out.2.adds hP
      have HQ := Lib.hid (And.intro r2 r3)
      have z0 : w3.cell? ⟨w.heap.size + 1, 0, none⟩ = some (.int .i64 0) := r2.cell 0
      have z1 : w3.cell? ⟨w.heap.size + 1, 1, none⟩ = some (.int .i64 0) := r2.cell 1
      have z2 : w3.cell? ⟨w.heap.size + 1 + 1, 0, none⟩ = some (.bool false) := r3.cell 0
      have y0 := r2.free 0
      have y1 := r2.free 1
      have y2 := r3.free 0
      have hsz2 := HB.out.size
      have hsz3 := hP.size
      clear hP r2 r3
      cases fb
      · gi_wp2
        obtain ⟨q2, q3⟩ := HQ.out
        have r2 : BkS 58 (((w3.setCell ⟨w.heap.size + 1, 0, none⟩ (.int .i64 (xf : Int))).setCell ⟨w.heap.size + 1, 1, none⟩ (.int .i64 (xp : Int))).setCell ⟨w.heap.size + 1 + 1, 0, none⟩ (.bool true)) (w.heap.size + 1) (siC xf xp) := ((q2.set 0 (.int .i64 (xf : Int))).set 1 (.int .i64 (xp : Int))).other (by omega) _
        have r3 : BkS 4 (((w3.setCell ⟨w.heap.size + 1, 0, none⟩ (.int .i64 (xf : Int))).setCell ⟨w.heap.size + 1, 1, none⟩ (.int .i64 (xp : Int))).setCell ⟨w.heap.size + 1 + 1, 0, none⟩ (.bool true)) (w.heap.size + 1 + 1) [.bool true] := ((q3.other (by omega) _).other (by omega) _).set 0 (.bool true)
        refine ⟨?_, rfl, ?_, by simp; omega, (xf, xp), by rw [List.dropLast_concat], HBx.out, by rw [List.dropLast_concat]; exact HP2.out, r2, r3⟩
        · exact (keepsFrom_adds _ HP.out).trans ((((KeepsOthers.setCell _ _ _).from _).trans ((KeepsOthers.setCell _ _ _).from _)).trans ((KeepsOthers.setCell _ _ _).from _))
        · have h1 : Below w.heap.size w2 w3 := Below.trans (HB.out.mono (by omega)) (Below.mono HP.out (by omega))
          exact ((h1.setCell (p := ⟨w.heap.size + 1, 0, none⟩) (by show w.heap.size ≤ w.heap.size + 1; omega) _).setCell (p := ⟨w.heap.size + 1, 1, none⟩) (by show w.heap.size ≤ w.heap.size + 1; omega) _).setCell (p := ⟨w.heap.size + 1 + 1, 0, none⟩) (by show w.heap.size ≤ w.heap.size + 1 + 1; omega) _
      · gi_wp2
        refine ⟨keepsFrom_adds _ HP.out, KeepC.of_below HP.out, Below.trans HB.out (Below.mono HP.out (by omega)), ?_⟩
        intro y hy
        rcases List.mem_append.1 hy with h | h
        · exact HP2.out y h
        · obtain rfl := List.mem_singleton.1 h
          exact HBx.out
  case done =>
    rintro D xs W2 hD rfl ⟨hb2, hp2⟩ hK
    have HB := Lib.hid hb2
    have HP2 := Lib.hid hp2
    have HRs := Lib.hid (And.intro (HR2.out.adds hb2) (HR3.out.adds hb2))
    have z0 : W2.cell? ⟨w.heap.size + 1, 0, none⟩ = some (.int .i64 0) := HRs.out.1.cell 0
    have z1 : W2.cell? ⟨w.heap.size + 1, 1, none⟩ = some (.int .i64 0) := HRs.out.1.cell 1
    have z2 : W2.cell? ⟨w.heap.size + 1 + 1, 0, none⟩ = some (.bool false) := HRs.out.2.cell 0
    have y0 := HRs.out.1.free 0
    have y1 := HRs.out.1.free 1
    have y2 := HRs.out.2.free 0
    have hsz2 := hb2.size
    clear hb2 hp2
    gi_wp2
    refine wpIn_label ?_
    gi_wp2
    try simp only [Exit.jump]
    show LeavesInM _ _ _ _ _ _ _ _ _
    have r2 : BkS 58 (((W2.setCell ⟨w.heap.size + 1, 0, none⟩ (.int .i64 0)).setCell ⟨w.heap.size + 1, 1, none⟩ (.int .i64 0)).setCell ⟨w.heap.size + 1 + 1, 0, none⟩ (.bool false)) (w.heap.size + 1) (siC 0 0) := ((HRs.out.1.set 0 (.int .i64 0)).set 1 (.int .i64 0)).other (by omega) _
    have r3 : BkS 4 (((W2.setCell ⟨w.heap.size + 1, 0, none⟩ (.int .i64 0)).setCell ⟨w.heap.size + 1, 1, none⟩ (.int .i64 0)).setCell ⟨w.heap.size + 1 + 1, 0, none⟩ (.bool false)) (w.heap.size + 1 + 1) [.bool false] := ((HRs.out.2.other (by omega) _).other (by omega) _).set 0 (.bool false)
    have hms0 : Marks w2.heap.size W2.heap.size W2 [{ target := .collected D, args := #[] }] := ⟨D, rfl, hD, (Array.getElem?_eq_some_iff.1 hK).1, hK, trivial⟩
    have hms : Marks w2.heap.size W2.heap.size (((W2.setCell ⟨w.heap.size + 1, 0, none⟩ (.int .i64 0)).setCell ⟨w.heap.size + 1, 1, none⟩ (.int .i64 0)).setCell ⟨w.heap.size + 1 + 1, 0, none⟩ (.bool false)) [{ target := .collected D, args := #[] }] := by
      obtain ⟨D', h1, h2, h3, h4, h5⟩ := hms0
      exact ⟨D', h1, h2, h3, (Below.heap_setCell _ _ _ _ (by show _ ≠ w.heap.size + 1 + 1; omega)).trans ((Below.heap_setCell _ _ _ _ (by show _ ≠ w.heap.size + 1; omega)).trans ((Below.heap_setCell _ _ _ _ (by show _ ≠ w.heap.size + 1; omega)).trans h4)), h5⟩
    have hnone : wrongP (fs, x1, x2, x3) = none := by
      rw [HWr.out, List.find?_eq_none]
      intro y hy
      rw [HP2.out y hy]
      simp
    refine marks_leave _ _ _ hms fun W'' hb'' => ?_
    have r2' : BkS 58 W'' (w.heap.size + 1) (siC 0 0) := (hb''.block _ (by omega)).trans r2
    have r3' : BkS 4 W'' (w.heap.size + 1 + 1) [.bool false] := (hb''.block _ (by omega)).trans r3
    refine ⟨_, res_two _ W'' (w.heap.size + 1) (w.heap.size + 1 + 1) (siC 0 0).toArray false rfl rfl r2' rfl (r3'.cell 0), by rw [hnone]; rfl, ?_⟩
    have h1 : Adds w W2 := Adds.trans HA2.out HB.out
    exact Below.trans (Adds.set (Adds.set (Adds.set h1 (by omega) _ _) (by omega) _ _) (by omega) _ _) (hb''.mono (by omega))
  case stop =>
    rintro D c pre W2 hD hpre ⟨rfl, hb2, hs2, x, hx0, hx1, hx2, h7, h8⟩ hK
    have HB := Lib.hid hb2
    have HQ := Lib.hid (And.intro h7 h8)
    have HX := Lib.hid (And.intro hpre (And.intro hx0 (And.intro hx1 hx2)))
    clear hb2 h7 h8 hpre hx0 hx1 hx2
    gi_wp2
    try simp only [Exit.jump]
    show LeavesInM _ _ _ _ _ _ _ _ _
    have hms : Marks w2.heap.size W2.heap.size W2 [{ target := .collected D, args := #[] }] := ⟨D, rfl, hD, (Array.getElem?_eq_some_iff.1 hK).1, hK, trivial⟩
    obtain ⟨⟨x', hx', hx''⟩, h4, h5, h6⟩ := HX.out
    have hxe : x' = x := by
      have h := hx''.symm.trans h4
      simpa using List.append_inj_right' h rfl
    subst hxe
    have hsome : wrongP (fs, x1, x2, x3) = some x' := by
      obtain ⟨t, ht⟩ := plL_at hx'
      rw [HWr.out, ht, List.find?_append]
      have hn : (pre.dropLast).find? (badX fs) = none := by
        rw [List.find?_eq_none]
        intro y hy
        rw [h6 y hy]
        simp
      rw [hn, List.find?_cons_of_pos h5]
      rfl
    refine marks_leave _ _ _ hms fun W'' hb'' => ?_
    obtain ⟨h7, h8⟩ := HQ.out
    have r2' : BkS 58 W'' (w.heap.size + 1) (siC x'.1 x'.2) := (hb''.block _ (by omega)).trans h7
    have r3' : BkS 4 W'' (w.heap.size + 1 + 1) [.bool true] := (hb''.block _ (by omega)).trans h8
    refine ⟨_, res_two _ W'' (w.heap.size + 1) (w.heap.size + 1 + 1) (siC x'.1 x'.2).toArray true rfl rfl r2' rfl (r3'.cell 0), by rw [hsome]; rfl, ?_⟩
    have h1 : Adds w w2 := HA2.out
    exact Below.trans h1 (HB.out.trans (hb''.mono (by omega)))
theorem wrong_any {m : Nat} (u : Value) (p : Pg) (w : World) (hf : FuncsW m w u p.1) : Calls Tryz.prog 63 #[pgV u p] w fun e w' => e = .returned (wrV (wrongP p)) ∧ Adds w w' := by
  cases hn : numsP p
  · exact wrong_no u p w hf hn
  · exact wrong_yes u p w hf hn
end Go.Proofs.YtdkgehhlikaocaaGreat
