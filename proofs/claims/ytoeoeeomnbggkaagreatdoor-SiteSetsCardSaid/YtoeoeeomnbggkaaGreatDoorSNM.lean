/- Merged: SN1, SN2, SN3. -/
import Derived.Deep.RegionLaw
import Derived.Test.YtoeoeeomnbggkaaGreatDoorSMapM
import Derived.Test.YtoeoeeomnbggkaaGreatDoorSF9
import Derived.Test.YtoeoeeomnbggkaaGreatDoorSF11
namespace Go.Proofs.YtoeoeeomnbggkaaGreatDoor
open Go Go.RowKit Go.Maps

theorem isNoneS_nil (w : World) :
    Calls Tryz.prog 18 #[.pointer none] w fun e w' => e = .returned (.bool true) ∧ w = w' := by
  go_enter Tryz.func18, Tryz.ntmps18
  go_wp2
  go_ret
  exact ⟨rfl, rfl⟩
theorem isNoneS_zero (bp : Nat) (w : World) (hc : w.cell? ⟨bp, 0, none⟩ = some (.map none)) :
    Calls Tryz.prog 18 #[.pointer (some ⟨bp, 0, none⟩)] w fun e w' => e = .returned (.bool true) ∧ w = w' := by
  have he := run_eql_map_nil (P := Tryz.prog) w 53 56 78 none Tryz.underlying53
  go_enter Tryz.func18, Tryz.ntmps18
  go_wp2
  go_ret
  exact ⟨rfl, rfl⟩
theorem isNoneS_full (bp b : Nat) (w : World) (hc : w.cell? ⟨bp, 0, none⟩ = some (.map (some b))) :
    Calls Tryz.prog 18 #[.pointer (some ⟨bp, 0, none⟩)] w fun e w' => e = .returned (.bool false) ∧ w = w' := by
  have he := run_eql_map_nil (P := Tryz.prog) w 53 56 78 (some b) Tryz.underlying53
  go_enter Tryz.func18, Tryz.ntmps18
  go_wp2
  go_ret
  exact ⟨rfl, rfl⟩

/-- A set of pairs: the pairs' block, the map's block, its pairs. -/
structure SetP (w : World) (v : Value) (bp b : Nat) (L : List Pr) : Prop where
  ptr : v = .pointer (some ⟨bp, 0, none⟩)
  box : BkS 55 w bp [.map (some b)]
  set : SetAt w b L
/-- None: nil, or a zero one. -/
def NoSet (w : World) (v : Value) : Prop := v = .pointer none ∨ ∃ bp, v = .pointer (some ⟨bp, 0, none⟩) ∧ w.cell? ⟨bp, 0, none⟩ = some (.map none)
theorem SetP.c0 {w : World} {v : Value} {bp b : Nat} {L : List Pr} (h : SetP w v bp b L) : w.cell? ⟨bp, 0, none⟩ = some (.map (some b)) := h.box.cell 0
theorem SetP.ne {w : World} {v : Value} {bp b : Nat} {L : List Pr} (h : SetP w v bp b L) : bp ≠ b := by
  rintro rfl
  obtain ⟨n, es, ⟨es0, clock, h0, _⟩, _⟩ := h.set
  have := h.box
  unfold BkS at this
  rw [h0] at this
  cases this
theorem SetP.adds {w w' : World} {v : Value} {bp b : Nat} {L : List Pr} (h : SetP w v bp b L) (ha : Adds w w') : SetP w' v bp b L := ⟨h.ptr, h.box.adds ha, h.set.adds ha⟩
theorem SetP.turn {w w' : World} {v : Value} {bp b : Nat} {L L' : List Pr} (h : SetP w v bp b L) (ht : TnS b w w') (hs : SetAt w' b L') : SetP w' v bp b L' :=
  ⟨h.ptr, (ht.block bp h.box.lt (fun e => by cases e; exact h.ne rfl)).trans h.box, hs⟩
theorem isNoneS_no (v : Value) (w : World) (h : NoSet w v) :
    Calls Tryz.prog 18 #[v] w fun e w' => e = .returned (.bool true) ∧ w = w' := by
  rcases h with rfl | ⟨bp, rfl, hc⟩
  · exact isNoneS_nil w
  · exact isNoneS_zero bp w hc

set_option maxRecDepth 100000 in
theorem setHolds_any (b : Nat) (L : List Pr) (x : Pr) (hx : okPr x) (w : World) (h : SetAt w b L) :
    Calls Tryz.prog 23 #[.map (some b), prV x] w fun e w' => e = .returned (.bool (decide (x ∈ L))) ∧ Gr w w' := by
  obtain ⟨m, hm⟩ : ∃ m, decide (x ∈ L) = m := ⟨_, rfl⟩
  have hl := (h.adds (Gr.new w (.cells (prC x).toArray 56)).adds).look hx
  rw [hm] at hl ⊢
  obtain ⟨⟨f, p⟩, ⟨g, q⟩⟩ := x
  clear hm h hx
  go_enter Tryz.func23, Tryz.ntmps23
  go_wp2
  go_ret
  exact ⟨rfl, (Gr.new _ _).alloc _⟩

section
variable {ops : Array Oper} {rest : List Oper} {o : Oper} {a : Act} {w : World} {Q : Exit → Act → World → Prop}
theorem wpList_putS (hg : o.guard = none) (m x v : Operand) (hop : o.op = Op.mapUpdate 53 m x v) (b : Nat) (y : Pr) (L : List Pr) (hm : a.eval m = .map (some b)) (hx : a.eval x = prV y) (hv : a.eval v = .agg #[])
    (h : SetAt w b L) (hl : L.length < maxLen) (hy : okPr y) (hn : y ∉ L)
    (hK : ∀ w', SetAt w' b (y :: L) → w.grownBy w' (some b) → wpList Tryz.prog ops Q rest (a.put o.dst undef) w') : wpList Tryz.prog ops Q (o :: rest) a w := by
  refine wpList_plain hg fun K' hK' => ?_
  obtain ⟨w', hrun, r1, r2⟩ := h.put hl hy hn
  unfold Oper.wp
  simp [execOp, hop, hm, hx, hv, hrun, Result.andThen]
  exact hK' _ _ (hK w' r1 r2)
end
set_option maxRecDepth 100000 in
theorem put_old (b : Nat) (L : List Pr) (x : Pr) (hx : okPr x) (hm : x ∈ L) (w : World) (h : SetAt w b L) :
    Calls Tryz.prog 20 #[.map (some b), prV x] w fun e w' => e = .returned (.bool false) ∧ Gr w w' := by
  have HH := Lib.hid (fun (W : World) (hA : Adds w W) => setHolds_any b L x hx W (h.adds hA))
  rw [decide_eq_true hm] at HH
  obtain ⟨⟨f, p⟩, ⟨g, q⟩⟩ := x
  clear hm h hx
  go_enter Tryz.func20, Tryz.ntmps20
  go_wp2_with (go_at_call 23; refine (HH.out _ (Gr.new w _).adds).mono ?_; rintro e w2 ⟨rfl, h1⟩; have H1 := Lib.hid ((Gr.new w _).trans h1); clear h1)
  go_ret
  exact ⟨rfl, H1.out⟩
set_option maxRecDepth 100000 in
theorem put_new (b : Nat) (L : List Pr) (x : Pr) (hx : okPr x) (hm : x ∉ L) (hl : L.length < 1000000) (w : World) (h : SetAt w b L) :
    Calls Tryz.prog 20 #[.map (some b), prV x] w fun e w' => e = .returned (.bool true) ∧ SetAt w' b (x :: L) ∧ TnS b w w' := by
  have HH := Lib.hid (fun (W : World) (hA : Adds w W) => setHolds_any b L x hx W (h.adds hA))
  rw [decide_eq_false hm] at HH
  have HX := Lib.hid hx
  have HM := Lib.hid hm
  have HS := Lib.hid h
  have HL := Lib.hid hl
  obtain ⟨⟨f, p⟩, ⟨g, q⟩⟩ := x
  clear hm h hx hl
  go_enter Tryz.func20, Tryz.ntmps20
  go_wp2_with (first
    | (go_at_call 23; refine (HH.out _ (Gr.new w _).adds).mono ?_; rintro e w2 ⟨rfl, h1⟩; have hb2 : BkS 56 w2 w.heap.size [.int .i64 f, .int .i64 p, .int .i64 g, .int .i64 q] := (BkS.new _ _ _).adds h1.adds; have c0 : w2.cell? ⟨w.heap.size, 0, none⟩ = some (.int .i64 f) := hb2.cell 0; have c1 : w2.cell? ⟨w.heap.size, 1, none⟩ = some (.int .i64 p) := hb2.cell 1; have c2 : w2.cell? ⟨w.heap.size, 2, none⟩ = some (.int .i64 g) := hb2.cell 2; have c3 : w2.cell? ⟨w.heap.size, 3, none⟩ = some (.int .i64 q) := hb2.cell 3; have H1 := Lib.hid ((Gr.new w _).trans h1); clear h1 hb2)
    | (at_mapUpdate; refine wpList_putS rfl _ _ _ rfl b ((f, p), (g, q)) L rfl rfl rfl (HS.out.adds H1.out.adds) (by have := HL.out; unfold maxLen; omega) HX.out HM.out ?_; intro w4 s4 g4; have S4 := Lib.hid s4; have G4 := Lib.hid g4; clear s4 g4))
  go_ret
  exact ⟨rfl, S4.out, (TnS.of_adds b H1.out.adds).trans G4.out⟩
end Go.Proofs.YtoeoeeomnbggkaaGreatDoor
namespace Go.Proofs.YtoeoeeomnbggkaaGreatDoor
open Go Go.RowKit Go.Maps

set_option maxRecDepth 100000 in
theorem add_none (v : Value) (x : Pr) (w : World) (h : NoSet w v) :
    Calls Tryz.prog 7 #[v, prV x] w fun e w' => e = .returned (.tuple #[.bool false, .int .i64 1]) ∧ Gr w w' := by
  have HN := Lib.hid (isNoneS_no v (w.alloc (.cells (prC x).toArray 32)) (h.imp id (fun ⟨bp, h1, h2⟩ => ⟨bp, h1, ((Gr.new w _).adds.cell (World.block_lt_of_cell? w _ h2)).trans h2⟩)))
  obtain ⟨⟨f, p⟩, ⟨g, q⟩⟩ := x
  clear h
  go_enter Tryz.func7, Tryz.ntmps7
  go_wp2_with fail
  refine wp_scope_fwd 0 rfl ?_
  go_wp2_with (go_at_call 18; refine HN.out.mono ?_; rintro e w1 ⟨rfl, rfl⟩)
  go_step3
  refine ⟨rfl, ?_⟩
  go_wp2_with fail
  rw [Exit.noGoto_ret]
  go_ret2
  exact ⟨rfl, Gr.new _ _⟩
set_option maxRecDepth 100000 in
theorem add_bad (bp b : Nat) (v : Value) (L : List Pr) (x : Pr) (hm : mayP x = false) (w : World) (h : SetP w v bp b L) :
    Calls Tryz.prog 7 #[v, prV x] w fun e w' => e = .returned (.tuple #[.bool false, .int .i64 2]) ∧ Gr w w' := by
  obtain rfl := h.ptr
  have HN := Lib.hid (isNoneS_full bp b (w.alloc (.cells (prC x).toArray 32)) (h.adds (Gr.new w _).adds).c0)
  have HM := Lib.hid (may_any x)
  rw [hm] at HM
  obtain ⟨⟨f, p⟩, ⟨g, q⟩⟩ := x
  clear h hm
  go_enter Tryz.func7, Tryz.ntmps7
  go_wp2_with fail
  refine wp_scope_fwd 0 rfl ?_
  go_wp2_with (first
    | (go_at_call 18; refine HN.out.mono ?_; rintro e w1 ⟨rfl, rfl⟩)
    | (go_at_call 19; refine (HM.out _).mono ?_; rintro e w2 ⟨rfl, h2⟩; have H2 := Lib.hid ((Gr.new w _).trans h2); clear h2))
  go_step3
  refine ⟨rfl, ?_⟩
  go_wp2_with fail
  rw [Exit.noGoto_ret]
  go_ret2
  exact ⟨rfl, H2.out⟩
set_option maxRecDepth 100000 in
set_option maxHeartbeats 2000000 in
theorem add_yes (bp b : Nat) (v : Value) (L : List Pr) (x : Pr) (hx : okPr x) (hm : mayP x = true) (hl : L.length < 1000000) (w : World) (h : SetP w v bp b L) :
    Calls Tryz.prog 7 #[v, prV x] w fun e w' => e = .returned (.tuple #[.bool (decide (x ∉ L)), .int .i64 0]) ∧ SetP w' v bp b (if x ∈ L then L else x :: L) ∧ TnS b w w' := by
  have hmx : Tryz.prog.follows .mixedOrders = true := by kernel_rfl
  obtain rfl := h.ptr
  have HN := Lib.hid (isNoneS_full bp b (w.alloc (.cells (prC x).toArray 32)) (h.adds (Gr.new w _).adds).c0)
  have HM := Lib.hid (may_any x)
  rw [hm] at HM
  obtain ⟨L', hL'⟩ : ∃ L', (if x ∈ L then L else x :: L) = L' := ⟨_, rfl⟩
  obtain ⟨z, hz⟩ : ∃ z, decide (x ∉ L) = z := ⟨_, rfl⟩
  have HP := Lib.hid (show ∀ W, SetAt W b L → Calls Tryz.prog 20 #[.map (some b), prV x] W fun e w' => e = .returned (.bool z) ∧ SetAt w' b L' ∧ TnS b W w' from fun W hW => by
    by_cases hin : x ∈ L
    · rw [if_pos hin] at hL'
      have : z = false := by rw [← hz]; simp [hin]
      rw [← hL', this]
      exact (put_old b L x hx hin W hW).mono fun e w' ⟨h1, h2⟩ => ⟨h1, hW.adds h2.adds, TnS.of_adds b h2.adds⟩
    · rw [if_neg hin] at hL'
      have : z = true := by rw [← hz]; simp [hin]
      rw [← hL', this]
      exact put_new b L x hx hin hl W hW)
  rw [hL', hz]
  have HS := Lib.hid h
  obtain ⟨⟨f, p⟩, ⟨g, q⟩⟩ := x
  clear h hm hL' hz hx hl
  go_enter Tryz.func7, Tryz.ntmps7
  go_wp2_with fail
  refine wp_scope_fwd 0 rfl ?_
  go_wp2_with (first
    | (go_at_call 18; refine HN.out.mono ?_; rintro e w1 ⟨rfl, rfl⟩)
    | (go_at_call 19; refine (HM.out _).mono ?_; rintro e w2 ⟨rfl, h2⟩; have hb2 : BkS 32 w2 w.heap.size [.int .i64 f, .int .i64 p, .int .i64 g, .int .i64 q] := (BkS.new _ _ _).adds h2.adds; have c0 : w2.cell? ⟨w.heap.size, 0, none⟩ = some (.int .i64 f) := hb2.cell 0; have c1 : w2.cell? ⟨w.heap.size, 1, none⟩ = some (.int .i64 p) := hb2.cell 1; have c2 : w2.cell? ⟨w.heap.size, 2, none⟩ = some (.int .i64 g) := hb2.cell 2; have c3 : w2.cell? ⟨w.heap.size, 3, none⟩ = some (.int .i64 q) := hb2.cell 3; have hs2 := HS.out.adds ((Gr.new w _).trans h2).adds; have cb := hs2.c0; have HS2 := Lib.hid hs2; have H2 := Lib.hid ((Gr.new w _).trans h2); clear h2 hb2 hs2))
  obtain ⟨k0, hk0⟩ : ∃ k0, w.heap.size = k0 := ⟨_, rfl⟩
  rw [hk0] at c0 c1 c2 c3 ⊢
  clear hk0
  refine wp_calmS ?_
  go_region_with (go_at_call 20; refine (HP.out w2.drew (HS2.out.set.same rfl)).mono ?_; rintro e w3 ⟨rfl, s3, t3⟩; have S3 := Lib.hid s3; have T3 := Lib.hid (show TnS b w w3 from (TnS.of_adds b (Adds.trans H2.out.adds (Gr.drewn w2 1).adds)).trans t3); clear s3 t3)
  all_goals
    simp only [Exit.then]
    go_simp
    go_wp2_with fail
    simp only [Exit.jump]
    go_ret2
    exact ⟨rfl, HS.out.turn T3.out S3.out, T3.out⟩

set_option maxRecDepth 100000 in
theorem len_some (bp b : Nat) (v : Value) (L : List Pr) (w : World) (h : SetP w v bp b L) :
    Calls Tryz.prog 12 #[v] w fun e w' => e = .returned (.int .i64 ((L.length : Nat) : Int)) ∧ w = w' := by
  obtain rfl := h.ptr
  have HN := Lib.hid (isNoneS_full bp b w h.c0)
  have cb := h.c0
  have hl := h.set.len
  clear h
  go_enter Tryz.func12, Tryz.ntmps12
  go_wp2_with (go_at_call 18; refine HN.out.mono ?_; rintro e w1 ⟨rfl, rfl⟩)
  go_ret
  exact ⟨rfl, rfl⟩
set_option maxRecDepth 100000 in
theorem len_none (v : Value) (w : World) (h : NoSet w v) :
    Calls Tryz.prog 12 #[v] w fun e w' => e = .returned (.int .i64 0) ∧ w = w' := by
  have HN := Lib.hid (isNoneS_no v w h)
  clear h
  go_enter Tryz.func12, Tryz.ntmps12
  go_wp2_with (go_at_call 18; refine HN.out.mono ?_; rintro e w1 ⟨rfl, rfl⟩)
  go_ret
  exact ⟨rfl, rfl⟩
end Go.Proofs.YtoeoeeomnbggkaaGreatDoor
namespace Go.Proofs.YtoeoeeomnbggkaaGreatDoor
open Go Go.RowKit Go.Maps

/-- Four cells that hold a pair. -/
def At4 (w : World) (g o : Nat) (x : Pr) : Prop :=
  w.cell? ⟨g, o, none⟩ = some (.int .i64 x.1.1) ∧ w.cell? ⟨g, o + 1, none⟩ = some (.int .i64 x.1.2) ∧ w.cell? ⟨g, o + 2, none⟩ = some (.int .i64 x.2.1) ∧ w.cell? ⟨g, o + 3, none⟩ = some (.int .i64 x.2.2)
/-- v is a slice whose pairs read l in w; they lie in blocks below n. -/
def PairsW (n : Nat) (w : World) (v : Value) (l : List Pr) : Prop :=
  ∃ ao cap, v = .slice ao l.length cap ∧ l.length ≤ cap ∧ cap ≤ maxLen ∧ (l ≠ [] → ∃ g off, ao = some ⟨g, off, none⟩ ∧ g < n ∧ ∀ i, i < l.length → At4 w g (off + i * 4) (atP l i))
theorem At4.below {n : Nat} {w w' : World} {g o : Nat} {x : Pr} (h : At4 w g o x) (hg : g < n) (hb : Below n w w') : At4 w' g o x := by
  obtain ⟨h0, h1, h2, h3⟩ := h
  exact ⟨(hb.cell (p := ⟨g, o, none⟩) hg).trans h0, (hb.cell (p := ⟨g, o + 1, none⟩) hg).trans h1, (hb.cell (p := ⟨g, o + 2, none⟩) hg).trans h2, (hb.cell (p := ⟨g, o + 3, none⟩) hg).trans h3⟩
theorem PairsW.below {n : Nat} {w w' : World} {v : Value} {l : List Pr} (h : PairsW n w v l) (hb : Below n w w') : PairsW n w' v l := by
  obtain ⟨ao, cap, rfl, h1, h2, h3⟩ := h
  refine ⟨ao, cap, rfl, h1, h2, fun hl => ?_⟩
  obtain ⟨g, off, e, hg, hc⟩ := h3 hl
  exact ⟨g, off, e, hg, fun i hi => (hc i hi).below hg hb⟩
theorem PairsW.nil (n : Nat) (w : World) : PairsW n w (.slice none 0 0) [] := ⟨none, 0, rfl, by simp, by simp, fun h => absurd rfl h⟩
theorem PairsW.mono {n m : Nat} {w : World} {v : Value} {l : List Pr} (h : PairsW n w v l) (hm : n ≤ m) : PairsW m w v l := by
  obtain ⟨ao, cap, rfl, h1, h2, h3⟩ := h
  refine ⟨ao, cap, rfl, h1, h2, fun hl => ?_⟩
  obtain ⟨g, off, e, hg, hc⟩ := h3 hl
  exact ⟨g, off, e, by omega, hc⟩
theorem atP_mem {l : List Pr} {k : Nat} (h : k < l.length) : atP l k ∈ l := by unfold atP; simp [h]
theorem take_at {l : List Pr} {k : Nat} (h : k < l.length) : l.take (k + 1) = l.take k ++ [atP l k] := by
  rw [List.take_succ_eq_append_getElem h]
  simp [atP, h]
def NewPost (l : List Pr) (w : World) (e : Ending) (w' : World) : Prop :=
  ((∀ y ∈ l, mayP y = true) ∧ ∃ bp b L, e = .returned (.tuple #[.pointer (some ⟨bp, 0, none⟩), .int .i64 0]) ∧ SetP w' (.pointer (some ⟨bp, 0, none⟩)) bp b L ∧ (∀ y, y ∈ L ↔ y ∈ l) ∧ L.length ≤ l.length ∧ w.heap.size ≤ bp ∧ w.heap.size ≤ b ∧ Adds w w') ∨
  ((¬ ∀ y ∈ l, mayP y = true) ∧ e = .returned (.tuple #[.pointer none, .int .i64 2]) ∧ Adds w w')

set_option maxRecDepth 100000 in
set_option maxHeartbeats 4000000 in
theorem new_any {n : Nat} (v : Value) (l : List Pr) (hn : l.length ≤ 100000) (hok : ∀ y ∈ l, okPr y) (w : World) (hnw : n ≤ w.heap.size) (hl : PairsW n w v l) :
    Calls Tryz.prog 5 #[v] w (NewPost l w) := by
  have hmm := @run_makeMap Tryz.prog
  have HL := Lib.hid (fun (W : World) (h : Adds w W) => hl.below (h.mono hnw))
  have HOK := Lib.hid hok
  have HN := Lib.hid hn
  obtain ⟨ao, cap, rfl, h1, h2, h3⟩ := hl
  unfold maxLen at h2
  clear h3 hok hn
  go_enter Tryz.func5, Tryz.ntmps5
  go_wp2_with fail
  refine wp_scope_fwd 0 rfl ?_
  go_wp2_with fail
  obtain ⟨b, hb⟩ : ∃ b, w.heap.size = b := ⟨_, rfl⟩
  obtain ⟨w1, hw1⟩ : ∃ w1, (w.alloc (.map #[] 0)).alloc (.cells #[.map (some w.heap.size)] 55) = w1 := ⟨_, rfl⟩
  have HG1 := Lib.hid (show Gr w w1 by rw [← hw1]; exact (Gr.new _ _).alloc _)
  have HS1 := Lib.hid (show SetP w1 (.pointer (some ⟨b + 1, 0, none⟩)) (b + 1) b [] by
    refine ⟨rfl, ?_, ?_⟩
    · have := BkS.new 55 (w.alloc (.map #[] 0)) [.map (some w.heap.size)]
      rw [World.size_alloc, hb] at this
      rw [← hw1, hb]
      exact this
    · rw [← hw1, ← hb]
      exact (SetAt.made w).adds (Gr.new _ _).adds)
  have HB := Lib.hid hb
  rw [hw1]
  rw [hb]
  clear hw1 hb
  go_loopw [14] (fun i wr => ∃ (k : Nat) (Lk : List Pr), k ≤ l.length ∧ i = .int .i64 k ∧ SetP wr (.pointer (some ⟨b + 1, 0, none⟩)) (b + 1) b Lk ∧ Adds w wr ∧ (∀ y, y ∈ Lk ↔ y ∈ l.take k) ∧ Lk.length ≤ k ∧ ∀ y ∈ l.take k, mayP y = true) (fun i _ => l.length - (intOf i).toNat)
  case atStart => exact ⟨0, [], Nat.zero_le _, rfl, HS1.out, HG1.out.adds, by simp, Nat.le_refl _, by simp⟩
  case round =>
    obtain ⟨k, Lk, hk, rfl, hS, hA, hmem, hlen, hmay⟩ := hrel
    have HS := Lib.hid hS; have HA := Lib.hid hA; have HMem := Lib.hid hmem; have HLen := Lib.hid hlen; have HMay := Lib.hid hmay
    clear hS hA hmem hlen hmay
    by_cases hlt : k < l.length
    · obtain ⟨ao', cap', e, _, _, h3⟩ := HL.out wr HA.out
      simp only [Value.slice.injEq, true_and] at e
      obtain ⟨rfl, rfl⟩ := e
      obtain ⟨g, off, rfl, hg, hc⟩ := h3 (by rintro rfl; simp at hlt)
      obtain ⟨k0, k1, k2, k3⟩ := hc k hlt
      have hx := HOK.out _ (atP_mem hlt)
      have hT := take_at hlt
      obtain ⟨x, hxe⟩ : ∃ x, atP l k = x := ⟨_, rfl⟩
      have HIn := Lib.hid (show x ∈ l by rw [← hxe]; exact atP_mem hlt)
      rw [hxe] at k0 k1 k2 k3 hx hT
      have HT := Lib.hid hT
      have HX := Lib.hid hx
      have HLt := Lib.hid hlt
      have hltI : (k : Int) < l.length := by omega
      have hF := Lib.hid (show Lk.length < 1000000 by have := HLen.out; have := HN.out; omega)
      clear hc h3 hxe hx hT
      cases hm : mayP x
      · have HAdd := Lib.hid (fun (W : World) (hW : Adds wr W) => add_bad (b + 1) b _ Lk x hm W (HS.out.adds hW))
        have HM := Lib.hid hm
        obtain ⟨⟨xa, xb⟩, ⟨xc, xd⟩⟩ := x
        simp only at k0 k1 k2 k3
        clear hm hlt hk
        go_wp2_with (go_at_call 7; refine (HAdd.out _ (Gr.new wr _).adds).mono ?_; rintro e w3 ⟨rfl, h3⟩; have H3 := Lib.hid (Adds.trans HA.out ((Gr.new wr _).trans h3).adds); clear h3)
        go_step3
        refine ⟨rfl, ?_⟩
        go_wp2_with fail
        rw [Exit.noGoto_ret]
        go_ret2
        refine .inr ⟨fun hall => ?_, rfl, H3.out⟩
        have h4 := hall _ HIn.out
        rw [HM.out] at h4
        cases h4
      · have HAdd := Lib.hid (fun (W : World) (hW : Adds wr W) => add_yes (b + 1) b _ Lk x HX.out hm hF.out W (HS.out.adds hW))
        have HM := Lib.hid hm
        obtain ⟨L', hL'⟩ : ∃ L', (if x ∈ Lk then Lk else x :: Lk) = L' := ⟨_, rfl⟩
        obtain ⟨z, hz⟩ : ∃ z, decide (x ∉ Lk) = z := ⟨_, rfl⟩
        have HL' := Lib.hid (show (∀ y, y ∈ L' ↔ y ∈ l.take (k + 1)) ∧ L'.length ≤ k + 1 by
          rw [← hL', HT.out]
          by_cases hin : x ∈ Lk
          · rw [if_pos hin]
            refine ⟨fun y => ?_, by have := HLen.out; omega⟩
            rw [HMem.out, List.mem_append, List.mem_singleton]
            constructor
            · exact .inl
            · rintro (h | rfl)
              · exact h
              · exact (HMem.out _).1 hin
          · rw [if_neg hin]
            refine ⟨fun y => ?_, by have := HLen.out; simp; omega⟩
            rw [List.mem_cons, HMem.out, List.mem_append, List.mem_singleton, or_comm])
        rw [hL', hz] at HAdd
        have HMA := Lib.hid (show ∀ y ∈ l.take (k + 1), mayP y = true by
          rw [HT.out]
          intro y hy
          rcases List.mem_append.1 hy with h | h
          · exact HMay.out y h
          · rw [List.mem_singleton.1 h]; exact hm)
        obtain ⟨⟨xa, xb⟩, ⟨xc, xd⟩⟩ := x
        simp only at k0 k1 k2 k3
        clear hm hlt hk hL' hz
        go_wp2_with (go_at_call 7; refine (HAdd.out _ (Gr.new wr _).adds).mono ?_; rintro e w3 ⟨rfl, s3, t3⟩; have S3 := Lib.hid s3; have T3 := Lib.hid (TnS.own (Adds.trans HA.out (Gr.new wr _).adds) (Nat.le_of_eq HB.out) t3); clear s3 t3)
        go_roundw
        case rel => exact ⟨k + 1, L', HLt.out, rfl, S3.out, T3.out, HL'.out.1, HL'.out.2, HMA.out⟩
        case measure => simp [intOf]; have := HLt.out; omega
    · obtain rfl : k = l.length := by omega
      go_wp2_with fail
      simp only [Exit.jump]
      go_ret2
      have hm1 := HMem.out
      have hm2 := HMay.out
      rw [List.take_length] at hm1 hm2
      exact .inl ⟨hm2, b + 1, b, Lk, rfl, HS.out, hm1, HLen.out, by have := HB.out; omega, Nat.le_of_eq HB.out, HA.out⟩
end Go.Proofs.YtoeoeeomnbggkaaGreatDoor
