/- Merged: Z22, Z24, Z23. -/
import Derived.Test.YtdkgehhlikaocaaGreatY28
namespace Go.Proofs.YtdkgehhlikaocaaGreat
open Go Go.RowKit Go.Shelf

section
variable {n : Nat} {w : World} {v : Value} {p : Pg} {L : List Fr} {res : UInt32}
/-- What is left where another's instruction is passed. -/
def passP (p : Pg) (L : List Fr) (res : UInt32) (reg : Int) (u : UInt32) : List Fr × UInt32 × Int :=
  match L.getLast? with
  | none => (L, res, 220)
  | some x =>
    if localB (insT p x).1 then (L, res, 223)
    else if -1 ≤ reg ∧ reg ≤ (x.2.2.2.length : Int) - 1 then (L.dropLast ++ [(x.1, x.2.1 + 1, x.2.2.1, putB reg u x.2.2.2)], res, 0)
    else (L, res, 2)
set_option maxRecDepth 100000 in
theorem passS_any {t : TypeId} {b : Nat} (h : PileP t n w b p L res) (hs : Stands p L) (reg : Int) (u : UInt32) : Calls Tryz.prog 40 #[.pointer (some ⟨b, 0, none⟩), .int .i64 reg, .int .u32 (u.toNat : Nat)] w (DeedE t n w b p (passP p L res reg u)) := by
  obtain ⟨fv, lv, R, hp, rfl⟩ := h
  have ref : ∀ {er : Int}, er ≠ 0 → passP p (R.map Prod.fst) res reg u = (R.map Prod.fst, res, er) → Calls Tryz.prog 40 #[.pointer (some ⟨b, 0, none⟩), .int .i64 reg, .int .u32 (u.toNat : Nat)] w (RefE w er) → Calls Tryz.prog 40 #[.pointer (some ⟨b, 0, none⟩), .int .i64 reg, .int .u32 (u.toNat : Nat)] w (DeedE t n w b p (passP p (R.map Prod.fst) res reg u)) := by
    intro er h0 he hc
    rw [he]
    exact hc.mono fun e w' hr => ⟨fun h => absurd h h0, fun _ => hr⟩
  rcases List.eq_nil_or_concat R with rfl | ⟨R', y, rfl⟩
  · exact ref (er := 220) (by decide) (by simp [passP]) (passS_ended hp reg _)
  · rw [List.concat_eq_append] at hp hs ref ⊢
    obtain ⟨⟨f, pc, d, rs⟩, rv⟩ := y
    have hl : ((R' ++ [((f, pc, d, rs), rv)]).map Prod.fst).getLast? = some (f, pc, d, rs) := by simp
    have hd : ((R' ++ [((f, pc, d, rs), rv)]).map Prod.fst).dropLast = R'.map Prod.fst := by simp
    obtain ⟨h1, h2, _⟩ := hs.at' _ hl
    simp only at h1 h2
    obtain ⟨g, cap, rfl⟩ := hp.open
    have hT : TopO t n w b p fv g cap R' ((f, pc, d, rs), rv) res := hp
    by_cases hloc : localB (insT p (f, pc, d, rs)).1 = true
    · exact ref (er := 223) (by decide) (by
        unfold passP
        rw [hl]
        simp only
        rw [if_pos hloc]) (passS_local hT hs.ok h1 h2 reg u _ rfl hloc)
    · have hlf : localB (insT p (f, pc, d, rs)).1 = false := by simpa using hloc
      have hmem : (p.1.getD f zF) ∈ p.1 := by
        rw [List.getD_eq_getElem?_getD, List.getElem?_eq_getElem h1]
        exact List.getElem_mem h1
      have hin : insT p (f, pc, d, rs) ∈ (p.1.getD f zF).2 := by
        unfold insT
        simp only
        generalize (p.1.getD f zF).2 = c at h2
        rw [List.getD_eq_getElem?_getD, List.getElem?_eq_getElem h2]
        exact List.getElem_mem h2
      have hwf := (hs.ok _ hmem _ hin).op
      by_cases hr : -1 ≤ reg ∧ reg ≤ (rs.length : Int) - 1
      · have he : passP p ((R' ++ [((f, pc, d, rs), rv)]).map Prod.fst) res reg u = (R'.map Prod.fst ++ [(f, pc + 1, d, putB reg u rs)], res, 0) := by
          unfold passP
          rw [hl, hd]
          simp only
          rw [if_neg hloc, if_pos hr]
        rw [he]
        have hcl : (p.1.getD f zF).2.length ≤ 9223372036854775807 := by
          have hF := hp.fo.funcs hs.ok
          obtain ⟨_, _, hfv, _⟩ := id hF
          rw [hfv] at hF
          obtain ⟨_, _, _, _, hat⟩ := hF.at h1
          obtain ⟨_, _, _, hc, _⟩ := hat
          obtain ⟨_, _, _, h3, h4⟩ := hc.form
          unfold maxLen at h4
          omega
        refine (passS_does hT hs.ok h1 h2 reg u _ rfl hwf hlf hr (by omega)).mono ?_
        rintro e w' ⟨rfl, hq, hw⟩
        exact DeedE.done rfl ⟨rfl, ⟨_, _, _, hq, by simp⟩, hw⟩
      · exact ref (er := 2) (by decide) (by
          unfold passP
          rw [hl]
          simp only
          rw [if_neg hloc, if_neg hr]) (passS_arg hT hs.ok h1 h2 reg u _ rfl hwf hlf hr)
set_option maxRecDepth 100000 in
set_option maxHeartbeats 4000000 in
theorem PassS_live {b : Nat} (h : PileP 73 n w b p L res) (hs : Stands p L) (h0 : p.1.length ≠ 0) (reg : Int) (u : UInt32) (q : List Fr × UInt32 × Int) (hq : passP p L res reg u = q) : Calls Tryz.prog 15 #[.pointer (some ⟨b, 0, none⟩), .int .i64 reg, .int .u32 (u.toNat : Nat)] w fun e w' =>
    e = .returned (.int .i64 q.2.2) ∧ (q.2.2 = 0 → PileP 73 n w' b p q.1 q.2.1 ∧ Low n w w') ∧ (q.2.2 ≠ 0 → Adds w w') := by
  have hmf : ∀ (fn : Fn) (first cap : Array Value) (w : World), (Instr.makeFunc fn first cap).run Tryz.prog w = .ok (.func fn first cap) w := fun _ _ _ _ => rfl
  obtain ⟨w1, hw1⟩ : ∃ w1, w.alloc (.cells #[.int .i64 0] 32) = w1 := ⟨_, rfl⟩
  have A1 := Lib.hid (show Adds w w1 by rw [← hw1]; exact Adds.new _ _)
  have B1 := Lib.hid (show BkS 32 w1 w.heap.size [.int .i64 0] by rw [← hw1]; exact BkS.new _ _ _)
  have hnw : n ≤ w.heap.size := by obtain ⟨_, _, _, hp, _⟩ := h; exact hp.low
  have HNw := Lib.hid hnw
  have HI := Lib.hid (isNoneS_any (v := .pointer (some ⟨b, 0, none⟩)) (.inr ⟨b, rfl, h.adds A1.out⟩) (Nat.le_trans hnw A1.out.size))
  rw [decide_eq_false h0] at HI
  have HS := Lib.hid (fun (W : World) (ha : Adds w W) => passS_any (h.adds ha) hs reg u)
  simp only [hq] at HS
  obtain ⟨uu, huu⟩ : ∃ uu, u.toNat = uu := ⟨_, rfl⟩
  simp only [huu] at HS ⊢
  clear h hs h0 hq hnw huu
  by_cases hz : q.2.2 = 0
  · have HZ := Lib.hid hz
    clear hz
    go_enter_defers Tryz.func15, Tryz.ntmps15
    go_wp2_with (first
      | (go_at_call 33; refine HI.out.mono ?_; rintro e w2 ⟨rfl, a2⟩; have A2 := Lib.hid a2; clear a2)
      | (go_at_call 37; with_reducible refine (must_yes _ _).mono ?_; rintro e w4 ⟨rfl, rfl⟩)
      | (go_at_call 40; refine (HS.out _ (Adds.trans A1.out A2.out)).mono ?_; rintro e w3 hd; obtain ⟨rfl, hp, hb⟩ := hd.1 HZ.out; have HP := Lib.hid hp; have HB := Lib.hid hb; have B3 := Lib.hid (hb.k _ _ _ noErr (B1.out.adds A2.out)); have d0 := B3.out.cell 0; have f0 := B3.out.free 0; clear hd hp hb))
    refine leaves_cons (f := 39) (args := #[.pointer (some ⟨w.heap.size, 0, none⟩)]) (by simp) (by simp [go_sem]) ?_
    refine (idle_pass _ _).mono ?_
    rintro e u' w'' ⟨rfl, rfl, rfl⟩
    have hP := HP.out.other (i := 0) B3.out noErr (by decide) (by decide) (.int .i64 0)
    have hL := Low.trans (Low.mono (Adds.trans A1.out A2.out) HNw.out) HB.out
    have hL2 : Low n w (w3.setCell ⟨w.heap.size, 0, none⟩ (.int .i64 0)) := ⟨hL.b.setCell (p := ⟨w.heap.size, 0, none⟩) HNw.out _, fun t i l ht hi => by
      have hi3 := hL.k t i l ht hi
      exact hi3.other (fun e => by have := hi.lt; omega) _⟩
    simp [Leaves, settle, results, Tryz.results15, go_sem, d0]
    exact ⟨HZ.out.symm, fun _ => ⟨hP, hL2⟩, fun h => absurd HZ.out h⟩
  · have HZ := Lib.hid hz
    clear hz
    go_enter_defers Tryz.func15, Tryz.ntmps15
    go_wp2_with (first
      | (go_at_call 33; refine HI.out.mono ?_; rintro e w2 ⟨rfl, a2⟩; have A2 := Lib.hid a2; clear a2)
      | (go_at_call 37; with_reducible refine (must_yes _ _).mono ?_; rintro e w4 ⟨rfl, rfl⟩)
      | (go_at_call 40; refine (HS.out _ (Adds.trans A1.out A2.out)).mono ?_; rintro e w3 hd; obtain ⟨rfl, ha⟩ := hd.2 HZ.out; have A3 := Lib.hid (Adds.trans A2.out ha); clear hd ha))
    have b2 := B1.out.adds A3.out
    have d0 := b2.cell 0
    refine leaves_cons (f := 39) (args := #[.pointer (some ⟨w.heap.size, 0, none⟩)]) (by simp) (by simp [go_sem]) ?_
    refine (catch_pass w.heap.size 0 q.2.2 [] w3 b2).mono ?_
    rintro e u' w'' ⟨rfl, rfl, rfl⟩
    have hA := Adds.set (Adds.trans A1.out A3.out) (b := w.heap.size) (by omega) 0 (.int .i64 q.2.2)
    simp [Leaves, settle, results, Tryz.results15, go_sem, d0]
    exact ⟨fun h => absurd h HZ.out, fun _ => hA⟩
end
end Go.Proofs.YtdkgehhlikaocaaGreat
namespace Go.Proofs.YtdkgehhlikaocaaGreat
open Go Go.RowKit Go.Shelf

/-- The upper frame's result goes into a register of the lower one. -/
def DestOk (y x : Fr) : Prop := x.2.2.1 = -1 ∨ (0 ≤ x.2.2.1 ∧ x.2.2.1 < y.2.2.2.length)
def ChD : List Fr → Prop
  | [] => True
  | [_] => True
  | y :: x :: l => DestOk y x ∧ ChD (x :: l)
theorem chd_app {x : Fr} : ∀ {L : List Fr}, ChD (L ++ [x]) ↔ ChD L ∧ ∀ y, L.getLast? = some y → DestOk y x
  | [] => by simp [ChD]
  | [y] => by simp [ChD]
  | y :: z :: l => by
    have h := chd_app (x := x) (L := z :: l)
    rw [List.cons_append] at h
    simp only [List.cons_append, ChD, h, List.getLast?_cons_cons, and_assoc]
/-- A frame is at a place of its function, and has its registers. -/
def FrOk (p : Pg) (x : Fr) : Prop := x.1 < p.1.length ∧ x.2.1 < (p.1.getD x.1 zF).2.length ∧ ((x.2.2.2.length : Nat) : Int) = (p.1.getD x.1 zF).1
structure GoodS (p : Pg) (L : List Fr) : Prop where
  ck : checkP p = 0
  ok : ∀ f ∈ p.1, ∀ i ∈ f.2, OkIn i
  fr : ∀ x ∈ L, FrOk p x
  ch : ChD L
section
variable {p : Pg} {L : List Fr} {x y : Fr}
theorem getD_memF {f : Nat} (h : f < p.1.length) : p.1.getD f zF ∈ p.1 := by
  rw [List.getD_eq_getElem?_getD, List.getElem?_eq_getElem h]
  exact List.getElem_mem h
theorem GoodS.top (h : GoodS p (L ++ [x])) : FrOk p x := h.fr x (by simp)
theorem GoodS.init (h : GoodS p (L ++ [x])) : GoodS p L := ⟨h.ck, h.ok, fun y hy => h.fr y (by simp [hy]), (chd_app.1 h.ch).1⟩
theorem GoodS.dest (h : GoodS p (L ++ [x])) : ∀ y, L.getLast? = some y → DestOk y x := (chd_app.1 h.ch).2
/-- The top is another one of the same function. -/
theorem GoodS.swap (h : GoodS p (L ++ [x])) {x' : Fr} (h1 : x'.1 = x.1) (h2 : x'.2.2.1 = x.2.2.1) (h3 : x'.2.2.2.length = x.2.2.2.length) (h4 : x'.2.1 < (p.1.getD x.1 zF).2.length) : GoodS p (L ++ [x']) := by
  refine ⟨h.ck, h.ok, fun y hy => ?_, chd_app.2 ⟨h.init.ch, fun y hy => ?_⟩⟩
  · rcases List.mem_append.1 hy with hy | hy
    · exact h.fr y (by simp [hy])
    · obtain rfl := List.mem_singleton.1 hy
      obtain ⟨a, b, c⟩ := h.top
      exact ⟨by rw [h1]; exact a, by rw [h1]; exact h4, by rw [h1, h3]; exact c⟩
  · have := h.dest y hy
    unfold DestOk at this ⊢
    rw [h2]
    exact this
/-- A frame more. -/
theorem GoodS.push (h : GoodS p (L ++ [x])) (hy : FrOk p y) (hd : DestOk x y) : GoodS p (L ++ [x] ++ [y]) := by
  refine ⟨h.ck, h.ok, fun z hz => ?_, chd_app.2 ⟨h.ch, fun z hz => ?_⟩⟩
  · rcases List.mem_append.1 hz with hz | hz
    · exact h.fr z hz
    · obtain rfl := List.mem_singleton.1 hz; exact hy
  · obtain rfl : x = z := by simpa using hz
    exact hd
theorem GoodS.mk0 (hc : checkP p = 0) (ho : ∀ f ∈ p.1, ∀ i ∈ f.2, OkIn i) (hx : FrOk p x) : GoodS p [x] := ⟨hc, ho, fun y hy => by obtain rfl := List.mem_singleton.1 hy; exact hx, trivial⟩
/-- What of the instruction at the top is known. -/
structure TopF (p : Pg) (x : Fr) (i : In) : Prop where
  op : OpF i x.2.2.2.length
  next : i.1 ≠ 4 → i.1 ≠ 9 → x.2.1 + 1 < (p.1.getD x.1 zF).2.length
  jump : i.1 = 4 ∨ i.1 = 5 → i.2.2.2.2.toNat < (p.1.getD x.1 zF).2.length
  call : i.1 = 8 → i.2.2.2.2.toNat < p.1.length ∧ i.2.2.2.1 ≤ (p.1.getD i.2.2.2.2.toNat zF).1
theorem GoodS.at_top (h : GoodS p (L ++ [x])) : TopF p x (insT p x) := by
  obtain ⟨a, b, c⟩ := h.top
  have hf := fineAt h.ck a b
  unfold fineB at hf
  simp only [Bool.and_eq_true, decide_eq_true_eq] at hf
  obtain ⟨h1, h2, h3, h4, h5⟩ := hf
  show TopF p x ((p.1.getD x.1 zF).2.getD x.2.1 zI)
  generalize (p.1.getD x.1 zF).2.getD x.2.1 zI = i at *
  refine ⟨op_facts h1 (by rw [c]; exact h2), fun n4 n9 => ?_, fun hj => ?_, fun h8 => ?_⟩
  · unfold leavesB leavesI hasB at h5
    rw [Bool.or_eq_true, decide_eq_true_eq, Bool.and_eq_true, Bool.or_eq_true, decide_eq_true_eq, decide_eq_true_eq] at h5
    rcases h5 with h5 | ⟨_, h5 | h5⟩
    · omega
    · exact absurd h5 n4
    · exact absurd h5 n9
  · unfold jumpsB at h3
    rw [if_pos hj] at h3
    unfold hasB at h3
    simp only [decide_eq_true_eq] at h3
    omega
  · unfold handsB at h4
    rw [if_pos (.inl h8), Bool.and_eq_true] at h4
    unfold hasB at h4
    simp only [decide_eq_true_eq] at h4
    exact ⟨by omega, h4.2⟩
theorem GoodS.fine (h : GoodS p L) : Fine p := fine_of h.ck
theorem GoodS.regs (h : GoodS p (L ++ [x])) : 1 ≤ x.2.2.2.length ∧ x.2.2.2.length ≤ 16 := by
  obtain ⟨a, b, c⟩ := h.top
  have := (h.fine.fs _ (getD_memF a)).1
  omega
theorem GoodS.pc (h : GoodS p (L ++ [x])) : x.2.1 < 512 := by
  obtain ⟨a, b, c⟩ := h.top
  have := (h.fine.fs _ (getD_memF a)).2.1
  omega
theorem last_cut (h : L.getLast? = some x) : ∃ L', L = L' ++ [x] := by
  rcases List.eq_nil_or_concat L with rfl | ⟨L', y, rfl⟩
  · cases h
  · rw [List.concat_eq_append] at h ⊢
    simp at h
    exact ⟨L', by rw [h]⟩
theorem GoodS.deed (h : GoodS p (L ++ [x])) (hl : L.length < 1000000) (hloc : localB (insT p x).1 = true) : DeedOk p L x (insT p x) := by
  have ht := h.at_top
  refine ⟨h.ok, ht.op, fun e => ?_, by have := h.pc; omega, hl, fun h8 => ?_, fun y hy => h.dest y hy, hloc⟩
  · have := h.regs.1
    rw [e] at this
    simp at this
  · obtain ⟨c1, c2⟩ := ht.call h8
    have := (h.fine.fs _ (getD_memF c1)).1
    exact ⟨c1, by omega, by omega, c2⟩
theorem GoodS.stands (h : GoodS p L) (hl : L.length < 1000000) : Stands p L := by
  refine ⟨h.ok, fun x hx => ?_⟩
  obtain ⟨L', rfl⟩ := last_cut hx
  obtain ⟨a, b, _⟩ := h.top
  rw [List.dropLast_concat]
  exact ⟨a, b, fun hloc => h.deed (by simp at hl; omega) hloc⟩
/-- What a call of a stack may do. -/
structure StepOk (p : Pg) (L : List Fr) (res : UInt32) (most : Int) (q : List Fr × UInt32 × Int) : Prop where
  no : q.2.2 ≠ 0 → q.1 = L ∧ q.2.1 = res
  good : GoodS p q.1
  up : q.1.length ≤ L.length + 1
  down : L.length ≤ q.1.length + 1
  deep : max 1 L.length < q.1.length → (q.1.length : Int) ≤ most
theorem StepOk.same (h : GoodS p L) (res : UInt32) (most e : Int) : StepOk p L res most (L, res, e) := ⟨fun _ => ⟨rfl, rfl⟩, h, by simp, by simp, fun h => by simp at h; omega⟩
theorem StepOk.swap (h : GoodS p (L ++ [x])) (res res' : UInt32) (most : Int) {x' : Fr} (h1 : x'.1 = x.1) (h2 : x'.2.2.1 = x.2.2.1) (h3 : x'.2.2.2.length = x.2.2.2.length) (h4 : x'.2.1 < (p.1.getD x.1 zF).2.length) : StepOk p (L ++ [x]) res most (L ++ [x'], res', 0) :=
  ⟨fun h => absurd rfl h, h.swap h1 h2 h3 h4, by simp, by simp, fun h => by simp at h⟩
theorem stepP_ok (h : GoodS p L) (res : UInt32) (most : Int) : StepOk p L res most (stepP p L res most) := by
  unfold stepP
  split
  · cases hx : L.getLast? with
    | none => exact StepOk.same h res most 220
    | some x =>
      simp only
      obtain ⟨L', rfl⟩ := last_cut hx
      split
      · rename_i hm hloc
        split
        · exact StepOk.same h res most 222
        · rename_i hd
          rw [List.dropLast_concat]
          have ht := h.at_top
          obtain ⟨fx, pcx, dx, rsx⟩ := x
          obtain ⟨i, hi⟩ : ∃ i, insT p (fx, pcx, dx, rsx) = i := ⟨_, rfl⟩
          rw [hi] at ht hd hloc ⊢
          obtain ⟨i0, i1, i2, i3, i4⟩ := i
          obtain ⟨op, next, jump, call⟩ := ht
          simp only at op next jump call hd hloc
          have hreg := h.regs
          simp only at hreg
          unfold localB at hloc
          simp only [List.mem_cons, List.not_mem_nil, or_false, decide_eq_true_eq] at hloc
          rcases hloc with rfl | rfl | rfl | rfl | rfl | rfl | rfl | rfl
          · exact StepOk.swap h res _ most rfl rfl (by simp) (next (by decide) (by decide))
          · exact StepOk.swap h res _ most rfl rfl (by simp) (next (by decide) (by decide))
          · unfold deedP
            simp only [show ¬ (3 : Int) = 1 by decide, show ¬ (3 : Int) = 2 by decide, if_false, if_true]
            split
            · exact StepOk.swap h res _ most rfl rfl (by simp) (next (by decide) (by decide))
            · exact StepOk.same h res most _
          · exact StepOk.swap h res _ most rfl rfl rfl (jump (.inl rfl))
          · refine StepOk.swap h res _ most rfl rfl rfl ?_
            show (if _ then _ else _) < _
            split
            · exact next (by decide) (by decide)
            · exact jump (.inr rfl)
          · obtain ⟨c1, c2⟩ := call rfl
            have o8 := op.o8 rfl
            simp only at o8
            have hsw := h.swap (x' := (fx, pcx + 1, dx, rsx)) rfl rfl rfl (next (by decide) (by decide))
            have hF := h.fine.fs _ (getD_memF c1)
            refine ⟨fun h => absurd rfl h, hsw.push ⟨c1, Nat.lt_of_lt_of_le Nat.zero_lt_one hF.2.1.1, ?_⟩ (.inr ⟨o8.1.1, o8.1.2⟩), by simp [deedP], by simp [deedP], fun h => ?_⟩
            · show (((newR _ _).length : Nat) : Int) = _
              rw [newR_len (by simp only [List.length_take, List.length_drop]; omega)]
              exact Int.toNat_of_nonneg (Int.le_trans (by decide) hF.1.1)
            · simp [deedP] at h hd ⊢
              omega
          · unfold deedP
            simp only [show ¬ (9 : Int) = 1 by decide, show ¬ (9 : Int) = 2 by decide, show ¬ (9 : Int) = 3 by decide, show ¬ (9 : Int) = 4 by decide, show ¬ (9 : Int) = 5 by decide, show ¬ (9 : Int) = 8 by decide, if_false, if_true]
            cases hy : L'.getLast? with
            | none =>
              have hn : L' = [] := List.getLast?_eq_none_iff.1 hy
              subst hn
              exact ⟨fun h => absurd rfl h, ⟨h.ck, h.ok, fun x hx => by simp at hx, trivial⟩, by simp, by simp, fun h => by simp at h⟩
            | some y =>
              obtain ⟨M, rfl⟩ := last_cut hy
              rw [List.dropLast_concat]
              have hg := h.init
              have hsw := hg.swap (x' := putW dx (rsx.getD i1.toNat 0) y) (by unfold putW; split <;> rfl) (by unfold putW; split <;> rfl) (by unfold putW; split <;> simp) (by unfold putW; split <;> exact hg.top.2.1)
              exact ⟨fun h => absurd rfl h, hsw, by simp, by simp, fun h => by simp at h⟩
          · exact StepOk.swap h res _ most rfl rfl rfl (next (by decide) (by decide))
      · exact StepOk.same h res most 221
  · exact StepOk.same h res most 2
theorem passP_ok (h : GoodS p L) (res : UInt32) (reg : Int) (u : UInt32) (most : Int) : StepOk p L res most (passP p L res reg u) := by
  unfold passP
  cases hx : L.getLast? with
  | none => exact StepOk.same h res most 220
  | some x =>
    simp only
    obtain ⟨L', rfl⟩ := last_cut hx
    split
    · exact StepOk.same h res most 223
    · rename_i hloc
      split
      · rw [List.dropLast_concat]
        refine StepOk.swap h res _ most rfl rfl (by simp only [putB]; split <;> simp) (h.at_top.next (fun e => hloc ?_) (fun e => hloc ?_))
        · rw [e]; decide
        · rw [e]; decide
      · exact StepOk.same h res most 2
end
end Go.Proofs.YtdkgehhlikaocaaGreat
namespace Go.Proofs.YtdkgehhlikaocaaGreat
open Go Go.RowKit Go.Shelf

section
variable {n : Nat} {w : World} {v : Value} {p : Pg} {L : List Fr} {x : Fr} {res : UInt32}
set_option maxRecDepth 100000 in
set_option maxHeartbeats 4000000 in
theorem NextS_live (h : StkO n w v p (L ++ [x]) res) (hn : n ≤ w.heap.size) (hs : Stands p (L ++ [x])) : Calls Tryz.prog 17 #[v] w fun e w' => e = .returned (.tuple #[insV (insT p x), .agg #[.int .i64 (x.1 : Int), .int .i64 (x.2.1 : Int)], .bool true]) ∧ Adds w w' := by
  obtain ⟨w1, hw1⟩ : ∃ w1, (w.alloc (.cells #[.int .i64 0, .int .i64 0, .int .i64 0, .int .i64 0, .int .u32 0] 56)).alloc (.cells #[.int .i64 0, .int .i64 0] 58) = w1 := ⟨_, rfl⟩
  have A1 := Lib.hid (show Adds w w1 by rw [← hw1]; exact Adds.trans (Adds.new _ _) (Adds.new _ _))
  have B1 := Lib.hid (show BkS 56 w1 w.heap.size [.int .i64 0, .int .i64 0, .int .i64 0, .int .i64 0, .int .u32 0] by rw [← hw1]; exact (BkS.new _ _ _).adds (Adds.new _ _))
  have B2 := Lib.hid (show BkS 58 w1 (w.heap.size + 1) [.int .i64 0, .int .i64 0] by rw [← hw1]; have h := BkS.new 58 (w.alloc (.cells #[.int .i64 0, .int .i64 0, .int .i64 0, .int .i64 0, .int .u32 0] 56)) [.int .i64 0, .int .i64 0]; simpa using h)
  have HI := Lib.hid (inside_any (h.adds A1.out) (Nat.le_trans hn A1.out.size))
  obtain ⟨h1, h2, _⟩ := hs.at' x (by simp)
  have HNx := Lib.hid (fun (t : TypeId) (W : World) (b : Nat) (hp : PileP t n W b p (L ++ [x]) res) => show Calls Tryz.prog 43 #[.pointer (some ⟨b, 0, none⟩)] W fun e w' => e = .returned (.tuple #[insV (insT p x), .agg #[.int .i64 (x.1 : Int), .int .i64 (x.2.1 : Int)]]) ∧ Adds W w' from by
    obtain ⟨fv, lv, R, hp, hR⟩ := hp
    rcases List.eq_nil_or_concat R with rfl | ⟨R', y, rfl⟩
    · simp at hR
    · rw [List.concat_eq_append] at hp hR
      simp at hR
      obtain ⟨_, rfl⟩ := hR
      obtain ⟨g, cap, rfl⟩ := hp.open
      exact nextS_any (show TopO t n W b p fv g cap R' y res from hp) hs.ok h1 h2)
  have HE := Lib.hid (fun (t : TypeId) (W : World) (b : Nat) (hp : PileP t n W b p (L ++ [x]) res) => show Calls Tryz.prog 42 #[.pointer (some ⟨b, 0, none⟩)] W fun e w' => e = .returned (.bool false) ∧ W = w' from by
    obtain ⟨fv, lv, R, hp, hR⟩ := hp
    have h0 : ¬ R.length = 0 := by have := congrArg List.length hR; simp at this; omega
    have he := endedS_any hp
    rw [decide_eq_false h0] at he
    exact he)
  obtain ⟨⟨i0, i1, i2, i3, i4⟩, hi⟩ : ∃ i, insT p x = i := ⟨_, rfl⟩
  obtain ⟨xf, hxf⟩ : ∃ xf, x.1 = xf := ⟨_, rfl⟩
  obtain ⟨xp, hxp⟩ : ∃ xp, x.2.1 = xp := ⟨_, rfl⟩
  simp only [hi, hxf, hxp] at HNx ⊢
  clear h hn hs h1 h2 hi hxf hxp
  unfold insV insC at HNx
  go_enter Tryz.func17, Tryz.ntmps17
  go_wp2_with (first
    | (go_at_call 35; refine HI.out.mono ?_; rintro e w2 ⟨t, b, rfl, hp, ha⟩; have A2 := Lib.hid ha; have HP := Lib.hid hp; clear hp ha)
    | (go_at_call 42; refine (HE.out _ _ _ HP.out).mono ?_; rintro e w5 ⟨rfl, rfl⟩)
    | (go_at_call 43; refine (HNx.out _ _ _ HP.out).mono ?_; rintro e w6 ⟨rfl, a6⟩; have A6 := Lib.hid (Adds.trans A2.out a6); clear a6))
  obtain ⟨w7, hw7⟩ : ∃ w7, (w6.alloc (Obj.cells #[Value.int IntKind.i64 i0, Value.int IntKind.i64 i1, Value.int IntKind.i64 i2, Value.int IntKind.i64 i3, Value.int IntKind.u32 i4] 56)).alloc (Obj.cells #[Value.int IntKind.i64 (xf : Int), Value.int IntKind.i64 (xp : Int)] 58) = w7 := ⟨_, rfl⟩
  rw [hw7]
  have A67 := Lib.hid (show Adds w6 w7 by rw [← hw7]; exact Adds.trans (Adds.new _ _) (Adds.new _ _))
  have C1 := Lib.hid (show BkS 56 w7 w6.heap.size [.int .i64 i0, .int .i64 i1, .int .i64 i2, .int .i64 i3, .int .u32 i4] by rw [← hw7]; exact (BkS.new _ _ _).adds (Adds.new _ _))
  have C2 := Lib.hid (show BkS 58 w7 (w6.heap.size + 1) [.int .i64 (xf : Int), .int .i64 (xp : Int)] by rw [← hw7]; have h := BkS.new 58 (w6.alloc (.cells #[.int .i64 i0, .int .i64 i1, .int .i64 i2, .int .i64 i3, .int .u32 i4] 56)) [.int .i64 (xf : Int), .int .i64 (xp : Int)]; simpa using h)
  have A7 := Lib.hid (Adds.trans A6.out A67.out)
  have D1 := Lib.hid (B1.out.adds A7.out)
  have D2 := Lib.hid (B2.out.adds A7.out)
  have E1 := C1
  have E2 := C2
  have hlt := (B2.out.adds A6.out).lt
  clear hw7
  obtain ⟨k6, hk6⟩ : ∃ k6, w6.heap.size = k6 := ⟨_, rfl⟩
  rw [hk6] at hlt E1 E2 ⊢
  clear hk6
  have n1 : ¬ k6 = w.heap.size := by omega
  have n2 : ¬ w.heap.size = k6 := by omega
  have n3 : ¬ k6 = w.heap.size + 1 := by omega
  have n4 : ¬ w.heap.size + 1 = k6 := by omega
  have n5 : ¬ k6 + 1 = w.heap.size := by omega
  have n6 : ¬ w.heap.size = k6 + 1 := by omega
  have n7 : ¬ k6 + 1 = w.heap.size + 1 := by omega
  have n8 : ¬ w.heap.size + 1 = k6 + 1 := by omega
  have x0 := E1.out.cell 0
  have x1 := E1.out.cell 1
  have x2 := E1.out.cell 2
  have x3 := E1.out.cell 3
  have x4 := E1.out.cell 4
  have y0 := E2.out.cell 0
  have y1 := E2.out.cell 1
  have u0 := D1.out.cell 0
  have u1 := D1.out.cell 1
  have u2 := D1.out.cell 2
  have u3 := D1.out.cell 3
  have u4 := D1.out.cell 4
  have v0 := D1.out.free 0
  have v1 := D1.out.free 1
  have v2 := D1.out.free 2
  have v3 := D1.out.free 3
  have v4 := D1.out.free 4
  have s0 := D2.out.cell 0
  have s1 := D2.out.cell 1
  have r0 := D2.out.free 0
  have r1 := D2.out.free 1
  have hmx : Tryz.prog.follows .mixedOrders = true := by kernel_rfl
  refine wp_calmC ?_
  go_region
  go_wp2
  have G1 := (((((((D1.out.set 0 (.int .i64 i0)).set 1 (.int .i64 i1)).set 2 (.int .i64 i2)).set 3 (.int .i64 i3)).set 4 (.int .u32 i4)).other (c := w.heap.size + 1) (i := 0) (by omega) (.int .i64 (xf : Int))).other (c := w.heap.size + 1) (i := 1) (by omega) (.int .i64 (xp : Int))).adds (Adds.drew _)
  have G2 := (((((((D2.out.other (c := w.heap.size) (i := 0) (by omega) (.int .i64 i0)).other (c := w.heap.size) (i := 1) (by omega) (.int .i64 i1)).other (c := w.heap.size) (i := 2) (by omega) (.int .i64 i2)).other (c := w.heap.size) (i := 3) (by omega) (.int .i64 i3)).other (c := w.heap.size) (i := 4) (by omega) (.int .u32 i4)).set 0 (.int .i64 (xf : Int))).set 1 (.int .i64 (xp : Int))).adds (Adds.drew _)
  have hA := Adds.trans A1.out A7.out
  have hA2 := Adds.trans (Adds.set (Adds.set (Adds.set (Adds.set (Adds.set (Adds.set (Adds.set hA (b := w.heap.size) (by omega) 0 (.int .i64 i0)) (b := w.heap.size) (by omega) 1 (.int .i64 i1)) (b := w.heap.size) (by omega) 2 (.int .i64 i2)) (b := w.heap.size) (by omega) 3 (.int .i64 i3)) (b := w.heap.size) (by omega) 4 (.int .u32 i4)) (b := w.heap.size + 1) (by omega) 0 (.int .i64 (xf : Int))) (b := w.heap.size + 1) (by omega) 1 (.int .i64 (xp : Int))) (Adds.drew _)
  (try simp only [Exit.inBlock, Exit.then])
  refine bodyPost_ret (res_bbt rfl _ _ _ _ _ _ _ _ _ _ _ _ rfl rfl G1 G2 Tryz.underlying56 rfl (by kernel_rfl) Tryz.underlying58 rfl (by kernel_rfl)) rfl ?_
  exact ⟨rfl, hA2⟩
end
end Go.Proofs.YtdkgehhlikaocaaGreat
