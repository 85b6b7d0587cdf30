/- Merged: Z15. -/
import Derived.Test.YthhegcngkpfcoaaGreatY42
namespace Go.Proofs.YthhegcngkpfcoaaGreat
open Go Go.RowKit Go.Shelf

section
variable {n : Nat} {w : World} {v : Value} {p : Pg} {L : List Fr} {res : UInt32}
set_option maxRecDepth 100000 in
set_option maxHeartbeats 2000000 in
/-- Step of none. -/
theorem StepS_none (h : StkO n w v p L res) (hn : n ≤ w.heap.size) (h0 : p.1.length = 0) (most : Int) : Calls Tryz.prog 11 #[v, .int .i64 most] w fun e w' => e = .returned (.int .i64 1) ∧ Adds w w' := by
  have hmf : ∀ (fn : Fn) (first cap : Array Value) (w : World), (Instr.makeFunc fn first cap).run Tryz.prog w = .ok (.func fn first cap) w := fun _ _ _ _ => rfl
  obtain ⟨w1, hw1⟩ : ∃ w1, w.alloc (.cells #[.int .i64 0] 45) = w1 := ⟨_, rfl⟩
  have A1 := Lib.hid (show Adds w w1 by rw [← hw1]; exact Adds.new _ _)
  have B1 := Lib.hid (show BkS 45 w1 w.heap.size [.int .i64 0] by rw [← hw1]; exact BkS.new _ _ _)
  have HI := Lib.hid (isNoneS_any (h.adds A1.out) (Nat.le_trans hn A1.out.size))
  rw [decide_eq_true h0] at HI
  clear h hn h0
  go_enter_defers Tryz.func11, Tryz.ntmps11
  go_wp2_with (first
    | (go_at_call 35; refine HI.out.mono ?_; rintro e w2 ⟨rfl, a2⟩; have A2 := Lib.hid a2; clear a2)
    | (go_at_call 34; with_reducible refine (must_no _ _).mono ?_; rintro e w4 ⟨rfl, rfl⟩))
  have b2 := B1.out.adds A2.out
  have d0 := b2.cell 0
  refine leaves_cons (f := 33) (args := #[.pointer (some ⟨w.heap.size, 0, none⟩)]) (by simp) (by simp [go_sem]) ?_
  refine (catch_step w.heap.size 0 1 [] w2 b2).mono ?_
  rintro e u' w'' ⟨rfl, rfl, rfl⟩
  have hA := Adds.set (Adds.trans A1.out A2.out) (b := w.heap.size) (by omega) 0 (.int .i64 1)
  simp [Leaves, settle, results, Tryz.results11, go_sem, d0]
  exact hA
set_option maxRecDepth 100000 in
set_option maxHeartbeats 2000000 in
theorem PassS_none (h : StkO n w v p L res) (hn : n ≤ w.heap.size) (h0 : p.1.length = 0) (reg u : Int) : Calls Tryz.prog 12 #[v, .int .i64 reg, .int .u32 u] w fun e w' => e = .returned (.int .i64 1) ∧ Adds w w' := by
  have hmf : ∀ (fn : Fn) (first cap : Array Value) (w : World), (Instr.makeFunc fn first cap).run Tryz.prog w = .ok (.func fn first cap) w := fun _ _ _ _ => rfl
  obtain ⟨w1, hw1⟩ : ∃ w1, w.alloc (.cells #[.int .i64 0] 45) = w1 := ⟨_, rfl⟩
  have A1 := Lib.hid (show Adds w w1 by rw [← hw1]; exact Adds.new _ _)
  have B1 := Lib.hid (show BkS 45 w1 w.heap.size [.int .i64 0] by rw [← hw1]; exact BkS.new _ _ _)
  have HI := Lib.hid (isNoneS_any (h.adds A1.out) (Nat.le_trans hn A1.out.size))
  rw [decide_eq_true h0] at HI
  clear h hn h0
  go_enter_defers Tryz.func12, Tryz.ntmps12
  go_wp2_with (first
    | (go_at_call 35; refine HI.out.mono ?_; rintro e w2 ⟨rfl, a2⟩; have A2 := Lib.hid a2; clear a2)
    | (go_at_call 34; with_reducible refine (must_no _ _).mono ?_; rintro e w4 ⟨rfl, rfl⟩))
  have b2 := B1.out.adds A2.out
  have d0 := b2.cell 0
  refine leaves_cons (f := 37) (args := #[.pointer (some ⟨w.heap.size, 0, none⟩)]) (by simp) (by simp [go_sem]) ?_
  refine (catch_pass w.heap.size 0 1 [] w2 b2).mono ?_
  rintro e u' w'' ⟨rfl, rfl, rfl⟩
  have hA := Adds.set (Adds.trans A1.out A2.out) (b := w.heap.size) (by omega) 0 (.int .i64 1)
  simp [Leaves, settle, results, Tryz.results12, go_sem, d0]
  exact hA
/-- What a step leaves. -/
def stepP (p : Pg) (L : List Fr) (res : UInt32) (most : Int) : List Fr × UInt32 × Int :=
  if 1 ≤ most ∧ most ≤ 9223372036854775807 then
    match L.getLast? with
    | none => (L, res, 220)
    | some x =>
      if localB (insT p x).1 then (if (insT p x).1 = 8 ∧ ¬ (L.length : Int) < most then (L, res, 222) else deedP p L.dropLast x (insT p x) res)
      else (L, res, 221)
  else (L, res, 2)
/-- A pile that stands: its frames are at places of its program. -/
structure Stands (p : Pg) (L : List Fr) : Prop where
  ok : ∀ f ∈ p.1, ∀ i ∈ f.2, OkIn i
  at' : ∀ x, L.getLast? = some x → x.1 < p.1.length ∧ x.2.1 < (p.1.getD x.1 zF).2.length ∧ (localB (insT p x).1 = true → DeedOk p L.dropLast x (insT p x))
set_option maxRecDepth 100000 in
theorem stepS_any {t : TypeId} {b : Nat} (h : PileP t n w b p L res) (hs : Stands p L) (most : Int) : Calls Tryz.prog 36 #[.pointer (some ⟨b, 0, none⟩), .int .i64 most] w (DeedE t n w b p (stepP p L res most)) := by
  obtain ⟨fv, lv, R, hp, rfl⟩ := h
  have ref : ∀ {er : Int}, er ≠ 0 → stepP p (R.map Prod.fst) res most = (R.map Prod.fst, res, er) → Calls Tryz.prog 36 #[.pointer (some ⟨b, 0, none⟩), .int .i64 most] w (RefE w er) → Calls Tryz.prog 36 #[.pointer (some ⟨b, 0, none⟩), .int .i64 most] w (DeedE t n w b p (stepP p (R.map Prod.fst) res most)) := by
    intro er h0 he hc
    rw [he]
    exact hc.mono fun e w' hr => ⟨fun h => absurd h h0, fun _ => hr⟩
  by_cases hm : 1 ≤ most ∧ most ≤ 9223372036854775807
  · rcases List.eq_nil_or_concat R with rfl | ⟨R', y, rfl⟩
    · exact ref (er := 220) (by decide) (by simp [stepP, hm]) (stepS_ended hp most hm)
    · rw [List.concat_eq_append] at hp hs ref ⊢
      obtain ⟨x, rv⟩ := y
      have hl : ((R' ++ [(x, rv)]).map Prod.fst).getLast? = some x := by simp
      have hd : ((R' ++ [(x, rv)]).map Prod.fst).dropLast = R'.map Prod.fst := by simp
      obtain ⟨h1, h2, h3⟩ := hs.at' x hl
      rw [hd] at h3
      obtain ⟨g, cap, rfl⟩ := hp.open
      have hT : TopO t n w b p fv g cap R' (x, rv) res := hp
      by_cases hloc : localB (insT p x).1 = true
      · have hD := h3 hloc
        by_cases h8 : (insT p x).1 = 8
        · by_cases hlt : (R'.length : Int) + 1 < most
          · have he : stepP p ((R' ++ [(x, rv)]).map Prod.fst) res most = deedP p (R'.map Prod.fst) x (insT p x) res := by
              unfold stepP
              rw [if_pos hm, hl, hd]
              simp only
              rw [if_pos hloc, if_neg (by rintro ⟨_, h⟩; exact h (by simp; omega))]
            rw [he]
            exact stepS_call hT hs.ok h1 h2 most hm (insT p x) rfl h8 hlt hD
          · exact ref (er := 222) (by decide) (by
              unfold stepP
              rw [if_pos hm, hl]
              simp only
              rw [if_pos hloc, if_pos ⟨h8, by simp; omega⟩]) (stepS_deep hT hs.ok h1 h2 most hm (insT p x) rfl hloc h8 hlt)
        · have he : stepP p ((R' ++ [(x, rv)]).map Prod.fst) res most = deedP p (R'.map Prod.fst) x (insT p x) res := by
            unfold stepP
            rw [if_pos hm, hl, hd]
            simp only
            rw [if_pos hloc, if_neg (by rintro ⟨h, _⟩; exact h8 h)]
          rw [he]
          exact stepS_op hT hs.ok h1 h2 most hm (insT p x) rfl h8 hD
      · have hlf : localB (insT p x).1 = false := by simpa using hloc
        have hmem : (p.1.getD x.1 zF) ∈ p.1 := by
          rw [List.getD_eq_getElem?_getD, List.getElem?_eq_getElem h1]
          exact List.getElem_mem h1
        have hin : insT p x ∈ (p.1.getD x.1 zF).2 := by
          unfold insT
          generalize (p.1.getD x.1 zF).2 = c at h2
          rw [List.getD_eq_getElem?_getD, List.getElem?_eq_getElem h2]
          exact List.getElem_mem h2
        exact ref (er := 221) (by decide) (by
          unfold stepP
          rw [if_pos hm, hl]
          simp only
          rw [if_neg hloc]) (stepS_shared hT hs.ok h1 h2 most hm (insT p x) rfl (hs.ok _ hmem _ hin).op hlf)
  · exact ref (er := 2) (by decide) (by unfold stepP; rw [if_neg hm]) (stepS_arg most hm _)
theorem PileP.other {t u : TypeId} {b k i : Nat} {l : List Value} (h : PileP t n w b p L res) (hb : BkS u w k l) (hu : ¬ pileT u) (h1 : 72 ≠ u) (h2 : 37 ≠ u) (x : Value) : PileP t n (w.setCell ⟨k, i, none⟩ x) b p L res := by
  obtain ⟨fv, lv, R, hp, rfl⟩ := h
  have ht := TnS.setCell k i w x
  have hne : ∀ {v : TypeId}, pileT v → v ≠ u := by rintro v hv rfl; exact hu hv
  exact ⟨fv, lv, R, ⟨hp.ht, hp.bx.tn ht (hp.bx.apart hb (hne hp.myT)), hp.fo.blk hb h1 h2 ht, hp.lo.blk hb (hne (.inr (.inr (.inl rfl)))) (hne (.inr (.inr (.inr rfl)))) ht, hp.hn⟩, rfl⟩
theorem noErr : ¬ pileT 45 := by unfold pileT; decide
set_option maxRecDepth 100000 in
set_option maxHeartbeats 4000000 in
theorem StepS_live {b : Nat} (h : PileP 34 n w b p L res) (hs : Stands p L) (h0 : p.1.length ≠ 0) (most : Int) (q : List Fr × UInt32 × Int) (hq : stepP p L res most = q) : Calls Tryz.prog 11 #[.pointer (some ⟨b, 0, none⟩), .int .i64 most] w fun e w' =>
    e = .returned (.int .i64 q.2.2) ∧ (q.2.2 = 0 → PileP 34 n w' b p q.1 q.2.1 ∧ Low n w w') ∧ (q.2.2 ≠ 0 → Adds w w') := by
  have hmf : ∀ (fn : Fn) (first cap : Array Value) (w : World), (Instr.makeFunc fn first cap).run Tryz.prog w = .ok (.func fn first cap) w := fun _ _ _ _ => rfl
  obtain ⟨w1, hw1⟩ : ∃ w1, w.alloc (.cells #[.int .i64 0] 45) = w1 := ⟨_, rfl⟩
  have A1 := Lib.hid (show Adds w w1 by rw [← hw1]; exact Adds.new _ _)
  have B1 := Lib.hid (show BkS 45 w1 w.heap.size [.int .i64 0] by rw [← hw1]; exact BkS.new _ _ _)
  have hnw : n ≤ w.heap.size := by obtain ⟨_, _, _, hp, _⟩ := h; exact hp.low
  have HNw := Lib.hid hnw
  have HI := Lib.hid (isNoneS_any (v := .pointer (some ⟨b, 0, none⟩)) (.inr ⟨b, rfl, h.adds A1.out⟩) (Nat.le_trans hnw A1.out.size))
  rw [decide_eq_false h0] at HI
  have HS := Lib.hid (fun (W : World) (ha : Adds w W) => stepS_any (h.adds ha) hs most)
  simp only [hq] at HS
  clear h hs h0 hq hnw
  by_cases hz : q.2.2 = 0
  · have HZ := Lib.hid hz
    clear hz
    go_enter_defers Tryz.func11, Tryz.ntmps11
    go_wp2_with (first
      | (go_at_call 35; refine HI.out.mono ?_; rintro e w2 ⟨rfl, a2⟩; have A2 := Lib.hid a2; clear a2)
      | (go_at_call 34; with_reducible refine (must_yes _ _).mono ?_; rintro e w4 ⟨rfl, rfl⟩)
      | (go_at_call 36; refine (HS.out _ (Adds.trans A1.out A2.out)).mono ?_; rintro e w3 hd; obtain ⟨rfl, hp, hb⟩ := hd.1 HZ.out; have HP := Lib.hid hp; have HB := Lib.hid hb; have B3 := Lib.hid (hb.k _ _ _ noErr (B1.out.adds A2.out)); have d0 := B3.out.cell 0; have f0 := B3.out.free 0; clear hd hp hb))
    refine leaves_cons (f := 33) (args := #[.pointer (some ⟨w.heap.size, 0, none⟩)]) (by simp) (by simp [go_sem]) ?_
    refine (idle_step _ _).mono ?_
    rintro e u' w'' ⟨rfl, rfl, rfl⟩
    have hP := HP.out.other (i := 0) B3.out noErr (by decide) (by decide) (.int .i64 0)
    have hL := Low.trans (Low.mono (Adds.trans A1.out A2.out) HNw.out) HB.out
    have hL2 : Low n w (w3.setCell ⟨w.heap.size, 0, none⟩ (.int .i64 0)) := ⟨hL.b.setCell (p := ⟨w.heap.size, 0, none⟩) HNw.out _, fun t i l ht hi => by
      have hi3 := hL.k t i l ht hi
      exact hi3.other (fun e => by have := hi.lt; omega) _⟩
    simp [Leaves, settle, results, Tryz.results11, go_sem, d0]
    exact ⟨HZ.out.symm, fun _ => ⟨hP, hL2⟩, fun h => absurd HZ.out h⟩
  · have HZ := Lib.hid hz
    clear hz
    go_enter_defers Tryz.func11, Tryz.ntmps11
    go_wp2_with (first
      | (go_at_call 35; refine HI.out.mono ?_; rintro e w2 ⟨rfl, a2⟩; have A2 := Lib.hid a2; clear a2)
      | (go_at_call 34; with_reducible refine (must_yes _ _).mono ?_; rintro e w4 ⟨rfl, rfl⟩)
      | (go_at_call 36; refine (HS.out _ (Adds.trans A1.out A2.out)).mono ?_; rintro e w3 hd; obtain ⟨rfl, ha⟩ := hd.2 HZ.out; have A3 := Lib.hid (Adds.trans A2.out ha); clear hd ha))
    have b2 := B1.out.adds A3.out
    have d0 := b2.cell 0
    refine leaves_cons (f := 33) (args := #[.pointer (some ⟨w.heap.size, 0, none⟩)]) (by simp) (by simp [go_sem]) ?_
    refine (catch_step w.heap.size 0 q.2.2 [] w3 b2).mono ?_
    rintro e u' w'' ⟨rfl, rfl, rfl⟩
    have hA := Adds.set (Adds.trans A1.out A3.out) (b := w.heap.size) (by omega) 0 (.int .i64 q.2.2)
    simp [Leaves, settle, results, Tryz.results11, go_sem, d0]
    exact ⟨fun h => absurd h HZ.out, fun _ => hA⟩
set_option maxRecDepth 100000 in
theorem CopyS_none (h : StkO n w v p L res) (hn : n ≤ w.heap.size) (h0 : p.1.length = 0) : Calls Tryz.prog 16 #[v] w fun e w' => e = .returned (.pointer none) ∧ Adds w w' := by
  have HI := Lib.hid (isNoneS_any h hn)
  rw [decide_eq_true h0] at HI
  clear h hn h0
  go_enter Tryz.func16, Tryz.ntmps16
  go_wp2_with (go_at_call 35; refine HI.out.mono ?_; rintro e w2 ⟨rfl, a2⟩; have A2 := Lib.hid a2; clear a2)
  go_ret
  exact ⟨rfl, A2.out⟩
theorem res_bbt {P : Program} {fn : Func} {p q s : Tmp} {ty tz : TypeId} (h : fn.results = #[.cell p ty, .cell q tz, .tmp s]) (tmps : Array Value) (w : World) (g g' : Nat) (cs ds : Array Value) (t t' : TypeId) (fr fr' : Nat × Nat) (d d' : TypeDesc) (hp : tmps.getD p undef = .pointer (some ⟨g, 0, none⟩)) (hq : tmps.getD q undef = .pointer (some ⟨g', 0, none⟩))
    (hg : w.heap[g]? = some (.cells cs t fr)) (hg' : w.heap[g']? = some (.cells ds t' fr')) (hu : P.underlying ty = some d) (hd : (match d with | .struct _ | .array _ _ => true | _ => false) = true) (hi : (P.info? ty).map (·.size) = some cs.size)
    (hu' : P.underlying tz = some d') (hd' : (match d' with | .struct _ | .array _ _ => true | _ => false) = true) (hi' : (P.info? tz).map (·.size) = some ds.size) : (results fn tmps).run P w = .ok (.tuple #[.agg cs, .agg ds, tmps.getD s undef]) w := by
  have hp' : tmps[p]?.getD undef = .pointer (some ⟨g, 0, none⟩) := by simpa using hp
  have hq' : tmps[q]?.getD undef = .pointer (some ⟨g', 0, none⟩) := by simpa using hq
  simp [results, h, hp', hq', asAddr, run_loadVar_row (P := P) w g t ty cs fr d hg hu hd hi, run_loadVar_row (P := P) w g' t' tz ds fr' d' hg' hu' hd' hi']
set_option maxRecDepth 100000 in
set_option maxHeartbeats 2000000 in
theorem NextS_none (h : StkO n w v p [] res) (hn : n ≤ w.heap.size) : Calls Tryz.prog 6 #[v] w fun e w' => e = .returned (.tuple #[insV (0, 0, 0, 0, 0), .agg #[.int .i64 0, .int .i64 0], .bool false]) ∧ Adds w w' := by
  obtain ⟨w1, hw1⟩ : ∃ w1, (w.alloc (.cells #[.int .i64 0, .int .i64 0, .int .i64 0, .int .i64 0, .int .u32 0] 37)).alloc (.cells #[.int .i64 0, .int .i64 0] 39) = w1 := ⟨_, rfl⟩
  have A1 := Lib.hid (show Adds w w1 by rw [← hw1]; exact Adds.trans (Adds.new _ _) (Adds.new _ _))
  have B1 := Lib.hid (show BkS 37 w1 w.heap.size [.int .i64 0, .int .i64 0, .int .i64 0, .int .i64 0, .int .u32 0] by rw [← hw1]; exact (BkS.new _ _ _).adds (Adds.new _ _))
  have B2 := Lib.hid (show BkS 39 w1 (w.heap.size + 1) [.int .i64 0, .int .i64 0] by rw [← hw1]; have h := BkS.new 39 (w.alloc (.cells #[.int .i64 0, .int .i64 0, .int .i64 0, .int .i64 0, .int .u32 0] 37)) [.int .i64 0, .int .i64 0]; simpa using h)
  have HI := Lib.hid (inside_any (h.adds A1.out) (Nat.le_trans hn A1.out.size))
  clear h hn
  go_enter Tryz.func6, Tryz.ntmps6
  go_wp2_with (first
    | (go_at_call 24; refine HI.out.mono ?_; rintro e w2 ⟨t, b, rfl, ⟨fv, lv, R, hp, hR⟩, ha⟩; have A2 := Lib.hid ha; rw [List.map_eq_nil_iff] at hR; subst hR; have HP := Lib.hid hp; have C1 := Lib.hid (B1.out.adds ha); have C2 := Lib.hid (B2.out.adds ha); have x0 := C1.out.cell 0; have x1 := C1.out.cell 1; have x2 := C1.out.cell 2; have x3 := C1.out.cell 3; have x4 := C1.out.cell 4; have y0 := C1.out.free 0; have y1 := C1.out.free 1; have y2 := C1.out.free 2; have y3 := C1.out.free 3; have y4 := C1.out.free 4; have u0 := C2.out.cell 0; have u1 := C2.out.cell 1; have v0 := C2.out.free 0; have v1 := C2.out.free 1; clear hp ha)
    | (go_at_call 25; refine (endedS_any HP.out).mono ?_; rintro e w5 ⟨rfl, rfl⟩))
  have D1 := (((((((C1.out.set 0 (.int .i64 0)).set 1 (.int .i64 0)).set 2 (.int .i64 0)).set 3 (.int .i64 0)).set 4 (.int .u32 0)).other (c := w.heap.size + 1) (i := 0) (by omega) (.int .i64 0)).other (c := w.heap.size + 1) (i := 1) (by omega) (.int .i64 0))
  have D2 := ((((((C2.out.other (c := w.heap.size) (i := 0) (by omega) (.int .i64 0)).other (c := w.heap.size) (i := 1) (by omega) (.int .i64 0)).other (c := w.heap.size) (i := 2) (by omega) (.int .i64 0)).other (c := w.heap.size) (i := 3) (by omega) (.int .i64 0)).other (c := w.heap.size) (i := 4) (by omega) (.int .u32 0)).set 0 (.int .i64 0)).set 1 (.int .i64 0)
  have hA := Adds.trans A1.out A2.out
  have hA2 := Adds.set (Adds.set (Adds.set (Adds.set (Adds.set (Adds.set (Adds.set hA (b := w.heap.size) (by omega) 0 (.int .i64 0)) (b := w.heap.size) (by omega) 1 (.int .i64 0)) (b := w.heap.size) (by omega) 2 (.int .i64 0)) (b := w.heap.size) (by omega) 3 (.int .i64 0)) (b := w.heap.size) (by omega) 4 (.int .u32 0)) (b := w.heap.size + 1) (by omega) 0 (.int .i64 0)) (b := w.heap.size + 1) (by omega) 1 (.int .i64 0)
  (try simp only [Exit.inBlock, Exit.then])
  refine bodyPost_ret (res_bbt rfl _ _ _ _ _ _ _ _ _ _ _ _ rfl rfl D1 D2 Tryz.underlying37 rfl (by kernel_rfl) Tryz.underlying39 rfl (by kernel_rfl)) rfl ?_
  exact ⟨rfl, hA2⟩
end
end Go.Proofs.YthhegcngkpfcoaaGreat
