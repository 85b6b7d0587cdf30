/- Merged: Loose2, InvIn, Pair2, MTwo, MTwo2, MR1, MR2, MR3, MR4. -/
import Derived.Test.YtleihmmkonakhaaDoorLoose
import Derived.OrdersIn
import Derived.TacticsIn
import Derived.Laws.AppendOwn
import Derived.OwnWalk
import Derived.OwnWalkIn
import Derived.OneCell
import Derived.RangeFuncBox
import Derived.RangeFuncNested
import Derived.Test.YtleihmmkonakhaaDoorLib
import Derived.Laws.BitsAllLaws
import Derived.Sort.QuietIn
import Derived.Test.YtleihmmkonakhaaDoorMW1
import Derived.Deep.DeepMust
import Derived.Test.YtleihmmkonakhaaDoorML1
namespace Go.Proofs.YtleihmmkonakhaaDoor
open Go
section
variable {P : Program} {ops : Array Oper} {C : World → Prop} {R : World → World → Prop} {keys : List Tmp} {F : Tmp → Value → World → Prop}
/-- An operation that makes memory at once: of its value the predicate alone is known. -/
theorem stepL_mk {o : Oper} {A : Act} {K : Act → Prop} (d : Tmp) (hd : o.dst = some d) (hk : isKey keys o = true) (hl : lk ops keys o = []) (hw : Region.wanted o (yielded ops A.tmps) = true)
    (hrun : ∀ w, C w → ∃ u w', (execOp A.eval o).run P w = .ok (.value u) w' ∧ F d u w' ∧ R w w') (h : K A) : stepL P ops C R keys F o A K := by
  unfold stepL
  rw [if_pos hk]
  refine ⟨fun w hcw => ?_, h⟩
  rw [hl, hd]
  refine ⟨hw, ?_⟩
  obtain ⟨u, w', hr, hf, hR⟩ := hrun w hcw
  rw [hr]
  exact ⟨hf, hR⟩
/-- A call with a known value that is handed one slot of which the predicate alone is known. -/
theorem stepL_call1 {o : Oper} {A : Act} {K : Act → Prop} {v : Value} {f : FuncId} {d : Tmp} (args : Value → Array Value) (hk : isKey keys o = false) (hl : lk ops keys o = [d])
    (hrun : ∀ w u, C w → F d u w → Region.wanted o (yielded ops (A.put (some d) u).tmps) = true ∧ (execOp (A.put (some d) u).eval o).run P w = .ok (.enter f (args u)) w)
    (hc : ∀ w u, C w → F d u w → Calls P f (args u) w fun e w' => e = .returned v ∧ R w w') (h : K (A.put o.dst v)) : stepL P ops C R keys F o A K := by
  unfold stepL
  rw [if_neg (by rw [hk]; simp)]
  refine ⟨v, fun w hcw => ?_, h⟩
  rw [hl]
  intro u hu
  obtain ⟨h1, h2⟩ := hrun w u hcw hu
  show if _ then _ else _
  rw [if_pos h1, h2]
  exact (hc w u hcw hu).mono fun e w' ⟨he, hr⟩ => ⟨v, he, rfl, hr⟩
end
end Go.Proofs.YtleihmmkonakhaaDoor
namespace Go.Proofs.YtleihmmkonakhaaDoor
open Go

section
variable {F : Fence} {n : Nat} {P : Program}

theorem oper_exits {o : Oper} {a : Act} {w : World} {K K' : Act → World → Prop} {Q Q' : Exit → Act → World → Prop} (h : ∀ a w, K a w → K' a w) (hq : ∀ e a w, e ≠ .normal → Q e a w → Q' e a w)
    (hh : o.wpIn F n P a w K Q) : o.wpIn F n P a w K' Q' := by
  have hl : LetsOut Q → LetsOut Q' := fun ⟨a, w, hx⟩ => ⟨a, w, hq _ _ _ (by simp) hx⟩
  unfold Oper.wpIn at *
  refine ⟨hh.1, ?_⟩
  have hh := hh.2
  generalize (o.semAt F.round a.eval).run P w = r at *
  cases r with
  | ok x w' =>
    cases x <;> simp only [Oper.uponIn] at hh ⊢ <;>
      first
        | exact h _ _ hh
        | exact ⟨hh.1, CallsIn.mono hh.2 (fun e w'' he => by cases e <;> first | exact h _ _ he | exact hq _ _ _ (by simp) he | exact hl he)⟩
        | exact ⟨hh.1, RowsIn.mono hh.2 (fun _ _ he => h _ _ he)⟩
        | exact ⟨hh.1, RoundIn.mono hh.2 (fun e w'' he => by cases e <;> first | exact h _ _ he | exact hq _ _ _ (by simp) he | exact hl he)⟩
  | halt x w' =>
    cases x <;> simp only [Oper.uponIn] at hh ⊢ <;> first | exact hh | exact hq _ _ _ (by simp) hh

/-- A slot's value, once its operation has come up. -/
def sel (c : Bool) (v : Value) : Value := if c then v else undef
theorem sel_t (v : Value) : sel true v = v := rfl
theorem sel_f (v : Value) : sel false v = undef := rfl
/-- An invariant by the frame (which depends on what has come up, and on what a yield answered) and a word on the world. -/
def InvT (tmps : (Nat → Bool) → Bool → Array Value) (Rel : (Nat → Bool) → Bool → World → Prop) (L : Nat → Bool) (b : Act) (w : World) : Prop := ∃ tb : Bool, b = { tmps := tmps L tb, defers := [] } ∧ Rel L tb w

/-- What the kernel checks: edges lead back. -/
def okBack (ops : Array Oper) : Bool :=
  (List.range ops.size).all fun i => match ops[i]? with
    | none => true
    | some o => o.after.all fun e => !Region.binds .any e || decide (e.on < i)
theorem okBack_at {ops : Array Oper} (h : okBack ops = true) {i : Nat} {o : Oper} (ho : ops[i]? = some o) : ∀ e ∈ o.after, Region.binds .any e = true → e.on < i := by
  unfold okBack at h
  rw [List.all_eq_true] at h
  have := h i (List.mem_range.2 (Array.getElem?_eq_some_iff.1 ho).1)
  simp only [ho] at this
  intro e he hb
  rw [Array.all_eq_true_iff_forall_mem] at this
  simpa [hb] using this e he

/-- Closed under edges. -/
def Closed (ops : Array Oper) (L : Nat → Bool) : Prop := ∀ (k : Nat) (ok : Oper), ops[k]? = some ok → L k = true → ∀ e ∈ ok.after, Region.binds .any e = true → L e.on = true

theorem invIn_all {ops : Array Oper} {Inv : (Nat → Bool) → Act → World → Prop} {Q : Exit → Act → World → Prop} (hE : okBack ops = true)
    (hstep : ∀ (L : Nat → Bool) (b : Act) (w : World) (i : Nat) (o : Oper), ops[i]? = some o → L i = false → Closed ops L → (∀ e ∈ o.after, Region.binds .any e = true → L e.on = true) → Inv L b w →
      wpListIn F n P ops (fun e b' w' => match e with | .normal => Inv (fun k => if k = i then true else L k) b' w' | e => Q e b' w') [o] b w)
    (hend : ∀ b w', Inv (fun k => decide (k < ops.size)) b w' → Q .normal b w') :
    ∀ (fuel : Nat) (listed : Array Bool) (b : Act) (w : World), leftOver ops listed ≤ fuel → listed.size = ops.size → Closed ops (fun k => listed.getD k false) → Inv (fun k => listed.getD k false) b w → wpAnyIn F n P .any ops Q fuel listed b w := by
  have fin : ∀ (listed : Array Bool) (b : Act) (w : World), listed.size = ops.size → Inv (fun k => listed.getD k false) b w → (∀ (i : Nat), i < ops.size → listed.getD i false = true) → Q .normal b w := fun listed b w hlen h hl => by
    have hL : (fun k => listed.getD k false) = fun k => decide (k < ops.size) := by
      funext k
      by_cases hks : k < ops.size
      · rw [hl k hks]; simp [hks]
      · simp [hks, Array.getElem?_eq_none (show listed.size ≤ k by rw [hlen]; omega)]
    rw [hL] at h
    exact hend _ _ h
  have ready_nil : ∀ (listed : Array Bool), listed.size = ops.size → Region.ready .any ops listed = [] → ∀ (i : Nat), i < ops.size → listed.getD i false = true := fun listed hlen hr i => by
    induction i using Nat.strongRecOn with
    | _ i ih =>
      intro hi
      cases hl : listed.getD i false with
      | true => rfl
      | false =>
        have ho : ops[i]? = some ops[i] := by rw [Array.getElem?_eq_getElem]
        have : i ∈ Region.ready .any ops listed := mem_ready.2 ⟨by
          have hs : i < listed.size := by rw [hlen]; exact hi
          simp only [Array.getD_eq_getD_getElem?, Array.getElem?_eq_getElem hs, Option.getD_some] at hl ⊢
          exact hl, _, ho, fun e he hb => by
            have := okBack_at hE ho e he hb
            exact ih e.on this (by omega)⟩
        rw [hr] at this
        cases this
  intro fuel
  induction fuel with
  | zero =>
    intro listed b w hf hlen _ h
    have hl : ∀ (i : Nat), i < ops.size → listed.getD i false = true := fun i hi => by
      have : leftOver ops listed = 0 := by omega
      have := List.countP_eq_zero.1 this i (List.mem_range.2 hi)
      simpa using this
    refine ⟨?_, fin listed b w hlen h hl⟩
    cases hr : Region.ready .any ops listed with
    | nil => rfl
    | cons i _ =>
      have hi : i ∈ Region.ready .any ops listed := by rw [hr]; simp
      obtain ⟨h1, o, ho, _⟩ := mem_ready.1 hi
      have hs : i < ops.size := (Array.getElem?_eq_some_iff.1 ho).1
      have := hl i hs
      have hs' : i < listed.size := by rw [hlen]; exact hs
      simp only [Array.getD_eq_getD_getElem?, Array.getElem?_eq_getElem hs', Option.getD_some] at h1 this
      rw [h1] at this; cases this
  | succ fuel ih =>
    intro listed b w hf hlen hcl h
    refine ⟨fun hr => fin listed b w hlen h (ready_nil listed hlen hr), fun i hi => ?_⟩
    obtain ⟨hun, o, ho, hall⟩ := mem_ready.1 hi
    have hs : i < ops.size := (Array.getElem?_eq_some_iff.1 ho).1
    have hs' : i < listed.size := by rw [hlen]; exact hs
    have hun' : listed.getD i false = false := by
      simp only [Array.getD_eq_getD_getElem?, Array.getElem?_eq_getElem hs', Option.getD_some] at hun ⊢
      exact hun
    have hL : (fun k => (listed.setIfInBounds i true).getD k false) = fun k => if k = i then true else listed.getD k false := by
      funext k
      by_cases hki : k = i
      · subst hki; simp [hs']
      · rw [if_neg hki, getD_set_ne false (Ne.symm hki)]
    have next : ∀ (b' : Act) (w' : World), Inv (fun k => if k = i then true else listed.getD k false) b' w' → wpAnyIn F n P .any ops Q fuel (listed.setIfInBounds i true) b' w' := fun b' w' hinv => by
      refine ih _ _ _ ?_ (by simp [hlen]) (fun k ok hok hl e he hb => ?_) (by rw [hL]; exact hinv)
      · have := leftOver_set (ops := ops) (listed := listed) hs hun' hlen
        omega
      · by_cases hki : k = i
        · subst hki
          rw [ho] at hok; cases hok
          exact getD_set_true (hall e he hb)
        · have hl' : listed.getD k false = true := by
            have hl2 : (listed.setIfInBounds i true).getD k false = true := hl
            rwa [getD_set_ne false (Ne.symm hki)] at hl2
          exact getD_set_true (hcl k ok hok hl' e he hb)
    have hst := hstep _ b w i o ho hun' hcl (fun e he hb => hall e he hb) h
    unfold wpOpIn
    simp only [ho]
    simp only [wpListIn] at hst
    by_cases hwt : Region.wanted o (yielded ops b.tmps) = true
    · rw [if_pos hwt] at hst ⊢
      refine oper_exits (fun b' w' h' => next b' w' h') (fun e b' w' he h' => ?_) hst
      cases e <;> first | exact absurd rfl he | exact h'
    · rw [if_neg hwt] at hst ⊢
      exact ⟨hst.1, next _ _ hst.2⟩

/-- A REGION THAT DRAWS, INSIDE A FENCE, BY AN INVARIANT: L k: operation k has come up. -/
theorem wpIn_region_inv {id : Nat} {Q : Exit → Act → World → Prop} {a : Act} {w : World} {l : List Oper} (Inv : (Nat → Bool) → Act → World → Prop)
    (hm : P.follows .mixedOrders = true) (hE : okBack l.toArray = true) (h0 : Inv (fun _ => false) a w.drew)
    (hstep : ∀ (L : Nat → Bool) (b : Act) (w : World) (i : Nat) (o : Oper), l[i]? = some o → L i = false → Closed l.toArray L → (∀ e ∈ o.after, Region.binds .any e = true → L e.on = true) → Inv L b w →
      wpListIn F n P l.toArray (fun e b' w' => match e with | .normal => Inv (fun k => if k = i then true else L k) b' w' | e => Q e b' w') [o] b w)
    (hend : ∀ b w', Inv (fun k => decide (k < l.length)) b w' → Q .normal b w') : (Code.region id l.toArray true).wpIn F n P Q a w := by
  refine wpIn_region_any hm ?_
  refine invIn_all (Inv := Inv) hE (fun L b w i o ho => hstep L b w i o (by simpa using ho)) (fun b w' h => hend b w' (by simpa using h)) _ _ _ _ ?_ (by simp) ?_ ?_
  · exact Nat.le_trans List.countP_le_length (by simp)
  · intro k ok _ hl
    exfalso
    simp only [Array.getD_eq_getD_getElem?, Array.getElem?_replicate] at hl
    split at hl <;> simp at hl
  · have : (fun k => (Array.replicate l.toArray.size false).getD k false) = fun _ => false := by
      funext k
      simp only [Array.getD_eq_getD_getElem?, Array.getElem?_replicate]
      split <;> rfl
    rw [this]
    exact h0
end
end Go.Proofs.YtleihmmkonakhaaDoor
namespace Go.Proofs.YtleihmmkonakhaaDoor
open Go Go.RowKit

theorem row_form {w : World} {base : Nat} {e : TypeId} {v : Value} {n : Nat} {xs : List Value} (h : w.ownsRow base e 1 v n xs) (hn : 0 < n) : ∃ g cap, v = .slice (some ⟨g, 0, none⟩) n cap := by
  rcases h.2 with ⟨_, h0⟩ | ⟨g, cap, cur, hv, _⟩
  · omega
  · exact ⟨g, cap, hv⟩
theorem rows_apart {w : World} {n0 m0 : Nat} {e7 e8 : TypeId} {v7 v8 : Value} {j k : Nat} {xs ys : List Value} (h7 : w.ownsRow n0 e7 1 v7 j xs) (h8 : w.ownsRow m0 e8 1 v8 k ys) (he : e7 ≠ e8) : v8.ownBlock = none ∨ v8.ownBlock ≠ v7.ownBlock := by
  rcases h8.2 with ⟨rfl, _⟩ | ⟨g, cap, cur, rfl, _, hg, _⟩
  · exact .inl rfl
  · rcases h7.2 with ⟨rfl, _⟩ | ⟨g', cap', cur', rfl, _, hg', _⟩
    · exact .inr (by simp [Value.ownBlock])
    · refine .inr fun e => he ?_
      simp only [Value.ownBlock, Option.some.injEq] at e
      subst e
      rw [hg] at hg'
      simp only [Option.some.injEq, Obj.cells.injEq] at hg'
      exact hg'.2.1.symm

/-- A slot's value: the new one once its operation has come up, else what it held. -/
def sel2 (c : Bool) (v o : Value) : Value := cond c v o
theorem sel2_t (v o : Value) : sel2 true v o = v := rfl
theorem sel2_f (v o : Value) : sel2 false v o = o := rfl

structure PairR (n0 m0 : Nat) (w0 : World) (B7 B8 : Nat) (t7 t8 e7 e8 : TypeId) (v7 v8 x7 x8 : Value) (j : Nat) (xs7 xs8 : List Value) (a2 a3 a8 a6 a7 a9 : Bool) (s7 c7 s8 c8 : Value) (w : World) : Prop where
  hb : Below n0 w0 w
  hs : m0 ≤ w.heap.size
  one7 : a2 = true → a3 = false → ∃ g, s7 = .slice (some ⟨g, 0, none⟩) 1 1 ∧ w.cell? ⟨g, 0, none⟩ = some x7 ∧ m0 ≤ g
  one8 : a6 = true → a7 = false → ∃ g, s8 = .slice (some ⟨g, 0, none⟩) 1 1 ∧ w.cell? ⟨g, 0, none⟩ = some x8 ∧ m0 ≤ g
  row7 : w.ownsRow n0 e7 1 c7 (cond a3 (j + 1) j) (cond a3 (xs7 ++ [x7]) xs7)
  row8 : w.ownsRow n0 e8 1 c8 (cond a7 (j + 1) j) (cond a7 (xs8 ++ [x8]) xs8)
  old7 : a3 = false → c7 = v7
  old8 : a7 = false → c8 = v8
  low7 : ∀ g, v7.ownBlock = some g → g < m0
  low8 : ∀ g, v8.ownBlock = some g → g < m0
  box7 : Boxed w B7 t7 (cond a8 c7 v7)
  box8 : Boxed w B8 t8 (cond a9 c8 v8)

section
variable {n0 m0 : Nat} {w0 w w' : World} {B7 B8 : Nat} {t7 t8 e7 e8 : TypeId} {v7 v8 x7 x8 : Value} {j : Nat} {xs7 xs8 : List Value} {a2 a3 a8 a6 a7 a9 : Bool} {s7 c7 s8 c8 : Value}
theorem PairR.swap (h : PairR n0 m0 w0 B7 B8 t7 t8 e7 e8 v7 v8 x7 x8 j xs7 xs8 a2 a3 a8 a6 a7 a9 s7 c7 s8 c8 w) : PairR n0 m0 w0 B8 B7 t8 t7 e8 e7 v8 v7 x8 x7 j xs8 xs7 a6 a7 a9 a2 a3 a8 s8 c8 s7 c7 w :=
  ⟨h.hb, h.hs, h.one8, h.one7, h.row8, h.row7, h.old8, h.old7, h.low8, h.low7, h.box8, h.box7⟩
theorem PairR.mk7 (hn : n0 ≤ m0) (tb : TypeId) (h : PairR n0 m0 w0 B7 B8 t7 t8 e7 e8 v7 v8 x7 x8 j xs7 xs8 a2 a3 a8 a6 a7 a9 s7 c7 s8 c8 w) :
    PairR n0 m0 w0 B7 B8 t7 t8 e7 e8 v7 v8 x7 x8 j xs7 xs8 true a3 a8 a6 a7 a9 (.slice (some ⟨w.heap.size, 0, none⟩) 1 1) c7 s8 c8 (w.alloc (.cells #[x7] tb)) := by
  refine ⟨h.hb.alloc (Nat.le_trans hn h.hs) _, by have := h.hs; simp; omega, fun _ _ => ⟨_, rfl, by simp, h.hs⟩, fun h6 h7 => ?_, h.row7.alloc _, h.row8.alloc _, h.old7, h.old8, h.low7, h.low8, h.box7.alloc _, h.box8.alloc _⟩
  obtain ⟨g, h1, h2, h3⟩ := h.one8 h6 h7
  have hlt : g < w.heap.size := World.block_lt_of_cell? w _ h2
  exact ⟨g, h1, by rw [World.cell?_alloc_old _ _ _ (show g ≠ w.heap.size by omega)]; exact h2, h3⟩
theorem PairR.app7 (hn : n0 ≤ m0) (hte : t7 ≠ e7) (hte8 : t8 ≠ e7) (he : e7 ≠ e8) (h : PairR n0 m0 w0 B7 B8 t7 t8 e7 e8 v7 v8 x7 x8 j xs7 xs8 true false false a6 a7 a9 s7 c7 s8 c8 w)
    {v' : Value} (hrow : w'.ownsRow n0 e7 1 v' (j + 1) (xs7 ++ [x7])) (hg : w.grownBy w' v7.ownBlock) :
    PairR n0 m0 w0 B7 B8 t7 t8 e7 e8 v7 v8 x7 x8 j xs7 xs8 true true false a6 a7 a9 s7 v' s8 c8 w' := by
  have e7' := h.old7 rfl
  have r7 : w.ownsRow n0 e7 1 v7 j xs7 := by have := h.row7; rw [e7'] at this; exact this
  refine ⟨h.hb.grown hg (Nat.le_trans hn h.hs) fun k hk => (r7.lt k hk.symm.symm).1, Nat.le_trans h.hs hg.size, fun _ h3 => (by cases h3), fun h6 h7 => ?_, hrow, h.row8.kept hg (rows_apart r7 h.row8 he), fun h3 => (by cases h3), h.old8, h.low7, h.low8, h.box7.kept hg (h.box7.not_row hte r7), h.box8.kept hg (h.box8.not_row hte8 r7)⟩
  obtain ⟨g, h1, h2, h3⟩ := h.one8 h6 h7
  have hlt := World.block_lt_of_cell? w _ h2
  refine ⟨g, h1, ?_, h3⟩
  rw [World.cell?_of_block (w := w) (hg.block g hlt fun e => by have := h.low7 g e.symm; omega)]
  exact h2
theorem PairR.put7 (hn : n0 ≤ B7) (hBB : B8 ≠ B7) (hte : t7 ≠ e7) (hte8 : t7 ≠ e8) (h : PairR n0 m0 w0 B7 B8 t7 t8 e7 e8 v7 v8 x7 x8 j xs7 xs8 true true false a6 a7 a9 s7 c7 s8 c8 w) (hB7 : B7 < m0) :
    PairR n0 m0 w0 B7 B8 t7 t8 e7 e8 v7 v8 x7 x8 j xs7 xs8 true true true a6 a7 a9 s7 c7 s8 c8 (w.setCell ⟨B7, 0, none⟩ c7) := by
  refine ⟨h.hb.setCell (by simpa using hn) _, by have := h.hs; simpa using this, fun _ h3 => (by cases h3), fun h6 h7 => ?_, ownsRow_setCell_other h.row7 (fun e => h.box7.not_row hte h.row7 e.symm) _, ownsRow_setCell_other h.row8 (fun e => h.box7.not_row hte8 h.row8 e.symm) _, h.old7, h.old8, h.low7, h.low8, h.box7.set _, h.box8.other hBB _⟩
  obtain ⟨g, h1, h2, h3⟩ := h.one8 h6 h7
  refine ⟨g, h1, ?_, h3⟩
  rw [World.cell?_setCell_other _ _ _ _ (by simp; try omega)]
  exact h2
theorem PairR.r7 (h : PairR n0 m0 w0 B7 B8 t7 t8 e7 e8 v7 v8 x7 x8 j xs7 xs8 a2 false a8 a6 a7 a9 s7 c7 s8 c8 w) : w.ownsRow n0 e7 1 v7 j xs7 := by
  have h1 := h.old7 rfl
  have h2 := h.row7
  rw [h1] at h2
  exact h2
end

/-- One append of the region: what is left to show is what holds after it. -/
theorem pair_append {F : Fence} {n : Nat} {P : Program} {ops : Array Oper} {o : Oper} {a : Act} {Q : Exit → Act → World → Prop}
    {n0 m0 : Nat} {w0 w : World} {B7 B8 : Nat} {t7 t8 e7 e8 : TypeId} {v7 v8 x7 x8 : Value} {j : Nat} {xs7 xs8 : List Value} {a6 a7 a9 : Bool} {s7 c7 s8 c8 : Value}
    (h : PairR n0 m0 w0 B7 B8 t7 t8 e7 e8 v7 v8 x7 x8 j xs7 xs8 true false false a6 a7 a9 s7 c7 s8 c8 w)
    (hg : o.guard = none) (s x : Operand) (hop : o.op = Op.call { callee := Callee.builtin Builtin.append, args := #[s, x], argTypes := #[t7, t7] })
    (z : Value) (h1 : P.underlying t7 = some (.slice e7)) (hi : (P.info? e7).map (fun i => (i.zero, i.size, i.bytes)) = some (some z, 1, 8)) (h6 : z.cells.size = 1)
    (hs : a.eval s = v7) (hx : a.eval x = s7) (h1c : x7.oneCell' = true) (hj : j < 1000000) (hn : n0 ≤ m0) (hte : t7 ≠ e7) (hte8 : t8 ≠ e7) (he : e7 ≠ e8)
    (hK : ∀ v' w', PairR n0 m0 w0 B7 B8 t7 t8 e7 e8 v7 v8 x7 x8 j xs7 xs8 true true false a6 a7 a9 s7 v' s8 c8 w' → Q .normal (a.put o.dst v') w') :
    wpListIn F n P ops Q [o] a w := by
  cases hi' : P.info? e7 with
  | none => rw [hi'] at hi; cases hi
  | some i =>
    rw [hi'] at hi
    simp only [Option.map_some, Option.some.injEq, Prod.mk.injEq] at hi
    obtain ⟨g, hs7, hc, _⟩ := h.one7 rfl rfl
    refine wpListIn_append_own w hg s x t7 hop n0 e7 i z 1 8 h1 hi' hi.1 hi.2.1 hi.2.2 h6 (by decide) v7 j xs7 hs h.r7 ⟨g, 0, none⟩ 1 1 [x7] (hx.trans hs7) rfl ?_ (by simpa using h1c) (by unfold maxLen; omega) (by omega) (Nat.le_trans hn h.hs) ?_
    · intro k u hk
      rcases k with _ | k
      · simp only [List.getElem?_cons_zero, Option.some.injEq] at hk
        subst hk
        exact hc
      · simp at hk
    · intro v' w' r1 r2 _
      exact hK v' w' (h.app7 hn hte hte8 he r1 r2)
end Go.Proofs.YtleihmmkonakhaaDoor
namespace Go.Proofs.YtleihmmkonakhaaDoor
open Go Go.RowKit Go.Shelf Go.Maps

/-- Two memories of blocks laid since w0, of which none is shared. -/
structure TwoM (w0 w : World) (vm vo : Value) (S T : Nat → Nat) : Prop where
  ex : ∃ bm b L bo bb K, MemP w vm S bm b L ∧ MemP w vo T bo bb K ∧ (∀ k, footP bm b L k → w0.heap.size ≤ k) ∧ (∀ k, footP bo bb K k → w0.heap.size ≤ k) ∧ (∀ k, footP bm b L k → ¬ footP bo bb K k)
  low : Adds w0 w
theorem TwoM.swap {w0 w : World} {vm vo : Value} {S T : Nat → Nat} (h : TwoM w0 w vm vo S T) : TwoM w0 w vo vm T S := by
  obtain ⟨⟨bm, b, L, bo, bb, K, h1, h2, h3, h4, h5⟩, h6⟩ := h
  exact ⟨⟨bo, bb, K, bm, b, L, h2, h1, h4, h3, fun k hk hf => h5 k hf hk⟩, h6⟩
theorem TwoM.adds {w0 w w' : World} {vm vo : Value} {S T : Nat → Nat} (h : TwoM w0 w vm vo S T) (ha : Adds w w') : TwoM w0 w' vm vo S T := by
  obtain ⟨⟨bm, b, L, bo, bb, K, h1, h2, h3, h4, h5⟩, h6⟩ := h
  exact ⟨⟨bm, b, L, bo, bb, K, h1.adds ha, h2.adds ha, h3, h4, h5⟩, Adds.trans h6 ha⟩
theorem TwoM.same {w0 w w' : World} {vm vo : Value} {S T : Nat → Nat} (h : TwoM w0 w vm vo S T) (hb : Adds w w') : TwoM w0 w' vm vo S T := h.adds hb
/-- A store into the second one. -/
theorem TwoM.stored {w0 w1 w : World} {vm vo lv : Value} {S T : Nat → Nat} {l : List (Nat × Nat)} (h : TwoM w0 w1 vm vo S T) (ha : Adds w1 w) (hl : CellsW (fun g => g < w0.heap.size ∨ w1.heap.size ≤ g) w lv l) (hok : cellsOk l) :
    Calls Tryd.prog 12 #[vo, lv] w fun e w' => e = .returned (.int .i64 0) ∧ TwoM w0 w' vm vo S (storeAll T l) := by
  obtain ⟨⟨bm, b, L, bo, bb, K, h1, h2, h3, h4, h5⟩, h6⟩ := h
  have k1 := h1.adds ha
  have k2 := h2.adds ha
  have k6 := Adds.trans h6 ha
  refine (storeM_any bo bb vo lv l T K w k2 (hl.mono fun g hg hx hf => ?_) hok).mono ?_
  · rcases hx with hx | hx
    · have := h4 g hf; omega
    · have := h2.foot_lt hf; omega
  · rintro e w' ⟨he, K', m1, f1, n1⟩
    refine ⟨he, ⟨bm, b, L, bo, bb, K', k1.frm f1 (fun k hk hf => h5 k hk (.inr hf)), m1, h3, fun k hk => ?_, fun k hk hf => ?_⟩, Frm.adds k6 f1 (fun i hi => h4 i (.inr hi))⟩
    · rcases hk with rfl | hk
      · exact h4 _ (.inl rfl)
      · rcases n1 k hk with hk | hk
        · exact h4 k (.inr hk)
        · exact Nat.le_trans k6.size hk
    · rcases hf with rfl | hf
      · exact h5 _ hk (.inl rfl)
      · rcases n1 k hf with hf | hf
        · exact h5 k hk (.inr hf)
        · have := k1.foot_lt hk; omega
theorem TwoM.load {w0 w : World} {vm vo : Value} {S T : Nat → Nat} (h : TwoM w0 w vm vo S T) (a : Nat) (ha : a < 4294967296) :
    Calls Tryd.prog 22 #[vm, .int .u32 ((a : Nat) : Int)] w fun e w' => e = .returned (.int .u32 ((S a : Nat) : Int)) ∧ w = w' := by
  obtain ⟨⟨bm, b, L, bo, bb, K, h1, _⟩, _⟩ := h
  exact loadM_any bm b a vm S L w ha h1
theorem TwoM.sameCall {w0 w : World} {vm vo : Value} {S T : Nat → Nat} (h : TwoM w0 w vm vo S T) :
    Calls Tryd.prog 14 #[vm, vo] w fun e w' => e = .returned (.bool (sameB S T)) ∧ Adds w w' := by
  obtain ⟨⟨bm, b, L, bo, bb, K, h1, h2, _⟩, _⟩ := h
  exact sameM_any vm vo bm b bo bb S T L K w h1 h2
theorem TwoM.digest {w0 w : World} {vm vo : Value} {S T : Nat → Nat} (h : TwoM w0 w vm vo S T) (hw : Widths w) {cs : List (Nat × Nat)} (hc : IsCells S cs) :
    Calls Tryd.prog 15 #[vm] w fun e w' => e = .returned (.int .u64 ((sumS (cellsB cs) : Nat) : Int)) ∧ Adds w w' := by
  obtain ⟨⟨bm, b, L, bo, bb, K, h1, h2, _⟩, _⟩ := h
  exact digestM_any bm b vm S L cs w h1 hc hw
theorem TwoM.len {w0 w : World} {vm vo : Value} {S T : Nat → Nat} (h : TwoM w0 w vm vo S T) {cs : List (Nat × Nat)} (hc : IsCells S cs) :
    Calls Tryd.prog 23 #[vm] w fun e w' => e = .returned (.int .i64 ((cs.length : Nat) : Int)) ∧ Adds w w' := by
  obtain ⟨⟨bm, b, L, bo, bb, K, h1, h2, _⟩, _⟩ := h
  have e := sumL_cells h1.mem hc
  exact e ▸ lenM_any bm b vm S L w h1
theorem TwoM.cells {w0 w : World} {vm vo : Value} {S T : Nat → Nat} (h : TwoM w0 w vm vo S T) : ∃ cs, IsCells S cs := by
  obtain ⟨⟨bm, b, L, bo, bb, K, h1, h2, _⟩, _⟩ := h
  exact ⟨_, isCells_of h1.mem⟩
theorem TwoM.word {w0 w : World} {vm vo : Value} {S T : Nat → Nat} (h : TwoM w0 w vm vo S T) : ∀ a, S a < 4294967296 := by
  obtain ⟨⟨bm, b, L, bo, bb, K, h1, h2, _⟩, _⟩ := h
  exact h1.mem.word
/-! ### The plain side -/
/-- Where the list's end from i on has an address, its word; elsewhere 0. -/
def endT (S : Nat → Nat) (l : List (Nat × Nat)) (i a : Nat) : Nat := if a ∈ (l.drop i).map (·.1) then S a else 0
def atL (l : List (Nat × Nat)) (i : Nat) : Nat × Nat := l.getD i (0, 0)
theorem drop_at {l : List (Nat × Nat)} {i : Nat} (h : i < l.length) : l.drop i = atL l i :: l.drop (i + 1) := by
  rw [List.drop_eq_getElem_cons h]
  simp [atL, List.getD_eq_getElem?_getD, h]
theorem mem_drop_at {l : List (Nat × Nat)} {i : Nat} (h : i < l.length) (a : Nat) : a ∈ (l.drop i).map (·.1) ↔ a = (atL l i).1 ∨ a ∈ (l.drop (i + 1)).map (·.1) := by
  rw [drop_at h, List.map_cons, List.mem_cons]
theorem endT_yes (S : Nat → Nat) {l : List (Nat × Nat)} {i a : Nat} (h : a ∈ (l.drop i).map (·.1)) : endT S l i a = S a := if_pos h
theorem endT_no (S : Nat → Nat) {l : List (Nat × Nat)} {i a : Nat} (h : a ∉ (l.drop i).map (·.1)) : endT S l i a = 0 := if_neg h
theorem endT_later (S : Nat → Nat) (l : List (Nat × Nat)) (i : Nat) (h : i < l.length) (hl : (atL l i).1 ∈ (l.drop (i + 1)).map (·.1)) : endT S l i = endT S l (i + 1) := by
  funext a
  by_cases hb : a ∈ (l.drop (i + 1)).map (·.1)
  · rw [endT_yes S hb, endT_yes S ((mem_drop_at h a).2 (.inr hb))]
  · rw [endT_no S hb, endT_no S (fun hh => ((mem_drop_at h a).1 hh).elim (fun e => hb (by rw [e]; exact hl)) hb)]
theorem storeAll_cons (S : Nat → Nat) (x : Nat × Nat) (l : List (Nat × Nat)) : storeAll S (x :: l) = storeAll (setW S x.1 x.2) l := rfl
theorem storeAll_not (l : List (Nat × Nat)) : ∀ (S : Nat → Nat) (a : Nat), a ∉ l.map (·.1) → storeAll S l a = S a := by
  induction l with
  | nil => intro S a _; rfl
  | cons x t ih =>
    intro S a h
    simp only [List.map_cons, List.mem_cons, not_or] at h
    rw [storeAll_cons, ih _ _ h.2]
    simp [setW, h.1]
/-- The word that was stored last. -/
theorem storeAll_last (S : Nat → Nat) (l : List (Nat × Nat)) (i : Nat) (h : i < l.length) (hl : (atL l i).1 ∉ (l.drop (i + 1)).map (·.1)) : storeAll S l (atL l i).1 = (atL l i).2 := by
  have e : l = l.take i ++ (atL l i :: l.drop (i + 1)) := by rw [← drop_at h, List.take_append_drop]
  have e2 : storeAll S l = storeAll (storeAll S (l.take i)) (atL l i :: l.drop (i + 1)) := by
    conv => lhs; rw [e]
    unfold storeAll
    rw [List.foldl_append]
  rw [e2, storeAll_cons, storeAll_not _ _ _ hl]
  simp [setW]
/-- What the inner loop has made of U behind the words es. -/
def innerU (U : Nat → Nat) (b s : Nat) (es : List (Nat × Nat)) : Nat → Nat := if b ∈ es.map (·.1) then setW U b s else U
theorem innerU_no (U : Nat → Nat) (b s : Nat) (es : List (Nat × Nat)) (x : Nat × Nat) (h : x.1 ≠ b) : innerU U b s (es ++ [x]) = innerU U b s es := by
  unfold innerU
  have : b ∈ (es ++ [x]).map (·.1) ↔ b ∈ es.map (·.1) := by
    rw [List.map_append, List.mem_append]
    simp [Ne.symm h]
  by_cases hb : b ∈ es.map (·.1)
  · rw [if_pos hb, if_pos (this.2 hb)]
  · rw [if_neg hb, if_neg (fun hh => hb (this.1 hh))]
theorem setW_twice (U : Nat → Nat) (b s t : Nat) : setW (setW U b s) b t = setW U b t := by
  funext x
  unfold setW
  split <;> rfl
theorem innerU_yes (U : Nat → Nat) (b s : Nat) (es : List (Nat × Nat)) (x : Nat × Nat) (h : x.1 = b) : innerU U b s (es ++ [x]) = setW (innerU U b s es) b s := by
  unfold innerU
  rw [if_pos (by rw [List.map_append]; simp [h])]
  by_cases hb : b ∈ es.map (·.1)
  · rw [if_pos hb, setW_twice]
  · rw [if_neg hb]
theorem take_drop_at {l : List (Nat × Nat)} {i k : Nat} (hk : k < l.length) (hi : i + 1 ≤ k) : (l.drop (i + 1)).take (k + 1 - (i + 1)) = (l.drop (i + 1)).take (k - (i + 1)) ++ [atL l k] := by
  obtain ⟨d, rfl⟩ : ∃ d, k = i + 1 + d := ⟨k - (i + 1), by omega⟩
  rw [show i + 1 + d + 1 - (i + 1) = d + 1 by omega, show i + 1 + d - (i + 1) = d by omega, List.take_add_one]
  have : (l.drop (i + 1))[d]? = some (atL l (i + 1 + d)) := by
    rw [List.getElem?_drop, List.getElem?_eq_getElem hk]
    simp [atL, List.getD_eq_getElem?_getD, hk]
  rw [this]; rfl
theorem xor5_ne (a : Nat) : a ^^^ 5 ≠ a := fun h => by
  have h1 : (a ^^^ 5) ^^^ a = a ^^^ a := by rw [h]
  rw [Nat.xor_self, Nat.xor_comm a 5, Nat.xor_assoc, Nat.xor_self] at h1
  simp at h1
/-- A round of the outer loop, whole. -/
theorem endT_step (S : Nat → Nat) (l : List (Nat × Nat)) (i : Nat) (h : i < l.length) (_hn : (atL l i).1 ∉ (l.drop (i + 1)).map (·.1)) (hS : S (atL l i).1 = (atL l i).2) :
    innerU (storeAll (endT S l (i + 1)) [((atL l i).1 ^^^ 5, 0), atL l i, ((atL l i).1, (atL l i).2)]) ((atL l i).1 ^^^ 5) (S ((atL l i).1 ^^^ 5)) (l.drop (i + 1)) = endT S l i := by
  have hx := xor5_ne (atL l i).1
  have hx' : ¬ (atL l i).1 = (atL l i).1 ^^^ 5 := fun e => hx e.symm
  funext a
  unfold innerU
  by_cases hm : (atL l i).1 ^^^ 5 ∈ (l.drop (i + 1)).map (·.1)
  · rw [if_pos hm]
    by_cases ha : a = (atL l i).1
    · rw [endT_yes S ((mem_drop_at h a).2 (.inl ha)), ha]
      simp [storeAll, setW, hS, hx']
    · by_cases hb : a = (atL l i).1 ^^^ 5
      · rw [endT_yes S ((mem_drop_at h a).2 (.inr (by rw [hb]; exact hm))), hb]
        simp [setW]
      · by_cases hc : a ∈ (l.drop (i + 1)).map (·.1)
        · rw [endT_yes S ((mem_drop_at h a).2 (.inr hc)), ← endT_yes S hc]
          simp [storeAll, setW, ha, hb]
        · rw [endT_no S (fun hh => ((mem_drop_at h a).1 hh).elim ha hc), ← endT_no S hc]
          simp [storeAll, setW, ha, hb]
  · rw [if_neg hm]
    by_cases ha : a = (atL l i).1
    · rw [endT_yes S ((mem_drop_at h a).2 (.inl ha)), ha]
      simp [storeAll, setW, hS]
    · by_cases hb : a = (atL l i).1 ^^^ 5
      · rw [endT_no S (fun hh => ((mem_drop_at h a).1 hh).elim ha (by rw [hb]; exact hm)), hb]
        simp [storeAll, setW, hx]
      · by_cases hc : a ∈ (l.drop (i + 1)).map (·.1)
        · rw [endT_yes S ((mem_drop_at h a).2 (.inr hc)), ← endT_yes S hc]
          simp [storeAll, setW, ha, hb]
        · rw [endT_no S (fun hh => ((mem_drop_at h a).1 hh).elim ha hc), ← endT_no S hc]
          simp [storeAll, setW, ha, hb]
theorem endT_all (l : List (Nat × Nat)) : endT (storeAll (fun _ => 0) l) l 0 = storeAll (fun _ => 0) l := by
  funext a
  unfold endT
  rw [List.drop_zero]
  split
  · rfl
  · rename_i h; rw [storeAll_not l _ a h]
theorem endT_none (S : Nat → Nat) (l : List (Nat × Nat)) : endT S l l.length = fun _ => 0 := by
  funext a
  unfold endT
  rw [List.drop_length]
  simp
end Go.Proofs.YtleihmmkonakhaaDoor
namespace Go.Proofs.YtleihmmkonakhaaDoor
open Go Go.RowKit Go.Shelf Go.Maps

section
variable {P : Program} {ops : Array Oper} {C : World → Prop} {R : World → World → Prop} {keys : List Tmp} {F : Tmp → Value → World → Prop}
/-- A call that is handed one slot of which the predicate alone is known, and of whose value the predicate alone is known. -/
theorem stepL_key1 {o : Oper} {A : Act} {K : Act → Prop} {f : FuncId} (d0 d : Tmp) (args : Value → Array Value) (hd : o.dst = some d) (hk : isKey keys o = true) (hl : lk ops keys o = [d0])
    (hrun : ∀ w u, C w → F d0 u w → Region.wanted o (yielded ops (A.put (some d0) u).tmps) = true ∧ (execOp (A.put (some d0) u).eval o).run P w = .ok (.enter f (args u)) w)
    (hc : ∀ w u, C w → F d0 u w → Calls P f (args u) w fun e w' => ∃ x, e = .returned x ∧ F d x w' ∧ R w w') (h : K A) : stepL P ops C R keys F o A K := by
  unfold stepL
  rw [if_pos hk]
  refine ⟨fun w hcw => ?_, h⟩
  rw [hl, hd]
  intro u hu
  obtain ⟨h1, h2⟩ := hrun w u hcw hu
  refine ⟨h1, ?_⟩
  rw [h2]
  exact (hc w u hcw hu).mono fun e w' ⟨x, he, hf, hr⟩ => ⟨x, he, hf, hr⟩
end

def KeepA (x y : World) : Prop := ∀ (g : Nat) (vals : Array Value), x.heap[g]? = some (.cells vals 31 (0, 0)) → y.heap[g]? = some (.cells vals 31 (0, 0))
theorem KeepA.of_adds {x y : World} (h : Adds x y) : KeepA x y := fun g _ hg => (h.block g (Array.getElem?_eq_some_iff.1 hg).1).trans hg
theorem foot_not_cell {w : World} {b : Nat} {S : Nat → Nat} {L : List (Nat × Nat)} (h : MemL w b S L) {g : Nat} {vals : Array Value} (hg : w.heap[g]? = some (.cells vals 31 (0, 0))) : ¬ foot b L g := by
  rintro (rfl | hk)
  · obtain ⟨n, es, ⟨es0, clock, h0, _⟩, _⟩ := h.map
    rw [h0] at hg; cases hg
  · obtain ⟨x, hx, rfl⟩ := List.mem_map.1 hk
    have hp := (h.page x hx).2.1
    unfold PBlk at hp
    rw [hp] at hg
    have h2 : (76 : Nat) = 31 := by
      have := Option.some.inj hg
      injection this
    exact absurd h2 (by decide)
def flatC (l : List (Nat × Nat)) : Array Value := (l.flatMap fun x => [u32V x.1, u32V x.2]).toArray
theorem flatC_at : ∀ (l : List (Nat × Nat)) (i : Nat), i < l.length → (l.flatMap fun x => [u32V x.1, u32V x.2])[i * 2]? = some (u32V (l.getD i (0, 0)).1) ∧ (l.flatMap fun x => [u32V x.1, u32V x.2])[i * 2 + 1]? = some (u32V (l.getD i (0, 0)).2)
  | x :: t, 0, _ => by simp
  | x :: t, i + 1, h => by
    have ih := flatC_at t i (by simpa using h)
    simp only [List.flatMap_cons, List.cons_append, List.nil_append, List.getD_cons_succ]
    rw [show (i + 1) * 2 = i * 2 + 1 + 1 by omega]
    simpa using ih
theorem cells_flat {w : World} {g : Nat} {l : List (Nat × Nat)} (B : Nat → Prop) (hB : B g) (h : w.heap[g]? = some (.cells (flatC l) 31 (0, 0))) (hn : l.length ≤ 1000) : CellsW B w (.slice (some ⟨g, 0, none⟩) l.length l.length) l := by
  refine ⟨_, l.length, rfl, Nat.le_refl _, by unfold maxLen; omega, fun _ => ⟨g, 0, rfl, hB, fun i hi => ?_⟩⟩
  obtain ⟨h1, h2⟩ := flatC_at l i hi
  rw [cell_of_row w g _ _ _ _ h, cell_of_row w g _ _ _ _ h, Nat.zero_add]
  unfold flatC
  exact ⟨by simpa using h1, by simpa using h2⟩
theorem storeAll_in : ∀ (c : List (Nat × Nat)) (U V : Nat → Nat) (a : Nat), a ∈ c.map (·.1) → storeAll U c a = storeAll V c a
  | x :: t, U, V, a, h => by
    rw [storeAll_cons, storeAll_cons]
    by_cases hm : a ∈ t.map (·.1)
    · exact storeAll_in t _ _ a hm
    · rw [storeAll_not _ _ _ hm, storeAll_not _ _ _ hm]
      have : a = x.1 := by
        rcases List.mem_cons.1 h with h | h
        · exact h
        · exact absurd h hm
      simp [setW, this]
theorem storeAll_idem (U : Nat → Nat) (c : List (Nat × Nat)) : storeAll (storeAll U c) c = storeAll U c := by
  funext a
  by_cases h : a ∈ c.map (·.1)
  · exact storeAll_in c _ _ a h
  · rw [storeAll_not _ _ _ h]

theorem frm_keepA {w w' : World} {b : Nat} {S : Nat → Nat} {L : List (Nat × Nat)} (h : MemL w b S L) (f : Frm (foot b L) w w') : KeepA w w' := fun g _ hg =>
  (f.block g (Array.getElem?_eq_some_iff.1 hg).1 (foot_not_cell h hg)).trans hg
/-- A store into the second one, the cells in a block of cells. -/
theorem TwoM.storedA {w0 w : World} {vm vo : Value} {S T : Nat → Nat} {c : List (Nat × Nat)} {g : Nat} (h : TwoM w0 w vm vo S T) (hg : w.heap[g]? = some (.cells (flatC c) 31 (0, 0))) (hok : cellsOk c) (hn : c.length ≤ 1000) :
    Calls Tryd.prog 12 #[vo, .slice (some ⟨g, 0, none⟩) c.length c.length] w fun e w' => e = .returned (.int .i64 0) ∧ TwoM w0 w' vm vo S (storeAll T c) ∧ KeepA w w' := by
  obtain ⟨⟨bm, b, L, bo, bb, K, h1, h2, h3, h4, h5⟩, h6⟩ := h
  have hnf : ¬ footP bo bb K g := by
    rintro (rfl | hf)
    · rw [h2.cell] at hg
      have h9 : (52 : Nat) = 31 := by
        have := Option.some.inj hg
        injection this
      exact absurd h9 (by decide)
    · exact foot_not_cell h2.mem hg hf
  refine (storeM_any bo bb vo _ c T K w h2 (cells_flat _ hnf hg hn) hok).mono ?_
  rintro e w' ⟨he, K', m1, f1, n1⟩
  refine ⟨he, ⟨⟨bm, b, L, bo, bb, K', h1.frm f1 (fun k hk hf => h5 k hk (.inr hf)), m1, h3, fun k hk => ?_, fun k hk hf => ?_⟩, Frm.adds h6 f1 (fun i hi => h4 i (.inr hi))⟩, frm_keepA h2.mem f1⟩
  · rcases hk with rfl | hk
    · exact h4 _ (.inl rfl)
    · rcases n1 k hk with hk | hk
      · exact h4 k (.inr hk)
      · exact Nat.le_trans h6.size hk
  · rcases hf with rfl | hf
    · exact h5 _ hk (.inl rfl)
    · rcases n1 k hf with hf | hf
      · exact h5 k hk (.inr hf)
      · have := h1.foot_lt hk; omega

/-- What a region that stores c may do. -/
structure RelS (w0 : World) (vm vo : Value) (S T : Nat → Nat) (c : List (Nat × Nat)) (x y : World) : Prop where
  zero : TwoM w0 x vm vo S T → TwoM w0 y vm vo S T ∨ TwoM w0 y vm vo S (storeAll T c)
  one : TwoM w0 x vm vo S (storeAll T c) → TwoM w0 y vm vo S (storeAll T c)
  keep : KeepA x y
theorem RelS.of_adds {w0 : World} {vm vo : Value} {S T : Nat → Nat} {c : List (Nat × Nat)} {x y : World} (h : Adds x y) : RelS w0 vm vo S T c x y := ⟨fun hU => .inl (hU.adds h), fun hU => hU.adds h, KeepA.of_adds h⟩
theorem RelS.trans {w0 : World} {vm vo : Value} {S T : Nat → Nat} {c : List (Nat × Nat)} {x y z : World} (h : RelS w0 vm vo S T c x y) (k : RelS w0 vm vo S T c y z) : RelS w0 vm vo S T c x z :=
  ⟨fun hU => (h.zero hU).elim k.zero fun h1 => .inr (k.one h1), fun hU => k.one (h.one hU), fun g vals hg => k.keep g vals (h.keep g vals hg)⟩
/-- What is known of the slots of such a region: the slice d0, the answer d1. -/
def KeyS (d0 d1 : Nat) (w0 : World) (vm vo : Value) (S T : Nat → Nat) (c : List (Nat × Nat)) (d : Tmp) (u : Value) (w : World) : Prop :=
  (d = d0 → ∃ g, u = .slice (some ⟨g, 0, none⟩) c.length c.length ∧ w.heap[g]? = some (.cells (flatC c) 31 (0, 0))) ∧ (d = d1 → u = .int .i64 0 ∧ TwoM w0 w vm vo S (storeAll T c))
theorem KeyS.stay {d0 d1 : Nat} {w0 : World} {vm vo : Value} {S T : Nat → Nat} {c : List (Nat × Nat)} (d : Tmp) (u : Value) (x y : World) (h : RelS w0 vm vo S T c x y) (k : KeyS d0 d1 w0 vm vo S T c d u x) : KeyS d0 d1 w0 vm vo S T c d u y :=
  ⟨fun e => by obtain ⟨g, h1, h2⟩ := k.1 e; exact ⟨g, h1, h.keep g _ h2⟩, fun e => ⟨(k.2 e).1, h.one (k.2 e).2⟩⟩
theorem low_in {w0 V W : World} {vm vo : Value} {S T : Nat → Nat} {c : List (Nat × Nat)} (h : TwoM w0 V vm vo S T) (r : RelS w0 vm vo S T c V W) : Adds w0 W := (r.zero h).elim (·.low) (·.low)
theorem load_in {w0 V W : World} {vm vo : Value} {S T : Nat → Nat} {c : List (Nat × Nat)} (h : TwoM w0 V vm vo S T) (r : RelS w0 vm vo S T c V W) (a : Nat) (ha : a < 4294967296) :
    Calls Tryd.prog 22 #[vm, .int .u32 ((a : Nat) : Int)] W fun e w' => e = .returned (.int .u32 ((S a : Nat) : Int)) ∧ RelS w0 vm vo S T c W w' := by
  have h1 : ∃ U, TwoM w0 W vm vo S U := (r.zero h).elim (fun h => ⟨_, h⟩) (fun h => ⟨_, h⟩)
  obtain ⟨U, hU⟩ := h1
  exact (hU.load a ha).mono fun e w' ⟨he, hw⟩ => ⟨he, hw ▸ RelS.of_adds (Adds.refl _)⟩
theorem mk_in {d0 d1 : Nat} {w0 W : World} {vm vo : Value} {S T : Nat → Nat} {c : List (Nat × Nat)} (hne : d0 ≠ d1) : KeyS d0 d1 w0 vm vo S T c d0 (.slice (some ⟨W.heap.size, 0, none⟩) c.length c.length) (W.alloc (.cells (flatC c) 31)) :=
  ⟨fun _ => ⟨_, rfl, heap_alloc_new W _⟩, fun e => absurd e hne⟩
theorem storedS {w0 V W : World} {vm vo u : Value} {S T : Nat → Nat} {c : List (Nat × Nat)} {d0 d1 : Nat} (hne : d0 ≠ d1) (h : TwoM w0 V vm vo S T) (r : RelS w0 vm vo S T c V W) (hk : KeyS d0 d1 w0 vm vo S T c d0 u W) (hok : cellsOk c) (hn : c.length ≤ 1000) :
    Calls Tryd.prog 12 #[vo, u] W fun e w' => ∃ x, e = .returned x ∧ KeyS d0 d1 w0 vm vo S T c d1 x w' ∧ RelS w0 vm vo S T c W w' := by
  obtain ⟨g, rfl, hg⟩ := hk.1 rfl
  have fin : ∀ (e : Ending) (w' : World), e = .returned (.int .i64 0) → TwoM w0 w' vm vo S (storeAll T c) → KeepA W w' → ∃ x, e = .returned x ∧ KeyS d0 d1 w0 vm vo S T c d1 x w' ∧ RelS w0 vm vo S T c W w' :=
    fun e w' he hT hK => ⟨_, he, ⟨fun e => absurd e.symm hne, fun _ => ⟨rfl, hT⟩⟩, ⟨fun _ => .inr hT, fun _ => hT, hK⟩⟩
  rcases r.zero h with hT | hT
  · exact (hT.storedA hg hok hn).mono fun e w' ⟨he, h1, h2⟩ => fin e w' he h1 h2
  · exact (hT.storedA hg hok hn).mono fun e w' ⟨he, h1, h2⟩ => fin e w' he (by rw [storeAll_idem] at h1; exact h1) h2
end Go.Proofs.YtleihmmkonakhaaDoor
namespace Go.Proofs.YtleihmmkonakhaaDoor
open Go Go.RowKit Go.Shelf Go.Maps

def flatV (l : List (Nat × Nat)) : List Value := l.flatMap fun x => [u32V x.1, u32V x.2]
theorem flatV_length (l : List (Nat × Nat)) : (flatV l).length = l.length * 2 := by
  induction l with
  | nil => rfl
  | cons x t ih => simp [flatV] at ih ⊢; omega
theorem flatV_append (l m : List (Nat × Nat)) : flatV (l ++ m) = flatV l ++ flatV m := by simp [flatV]
/-- A slice of cells that the call has made: it reads l. -/
def OwnC (base : Nat) (w : World) (v : Value) (l : List (Nat × Nat)) : Prop := w.ownsRow base 31 2 v l.length (flatV l)
theorem OwnC.nil (base : Nat) (w : World) : OwnC base w (.slice none 0 0) [] := ⟨rfl, .inl ⟨rfl, rfl⟩⟩
theorem OwnC.base {base base' : Nat} {w : World} {v : Value} {l : List (Nat × Nat)} (h : OwnC base w v l) (hb : base' ≤ base) : OwnC base' w v l :=
  ⟨h.1, h.2.elim .inl (fun ⟨g, cap, cur, h1, h2, h3⟩ => .inr ⟨g, cap, cur, h1, Nat.le_trans hb h2, h3⟩)⟩
theorem OwnC.keepA {base : Nat} {w w' : World} {v : Value} {l : List (Nat × Nat)} (h : OwnC base w v l) (hk : KeepA w w') : OwnC base w' v l :=
  ⟨h.1, h.2.elim .inl (fun ⟨g, cap, cur, h1, h2, h3, h4⟩ => .inr ⟨g, cap, cur, h1, h2, hk g cur h3, h4⟩)⟩
theorem OwnC.adds {base : Nat} {w w' : World} {v : Value} {l : List (Nat × Nat)} (h : OwnC base w v l) (ha : Adds w w') : OwnC base w' v l := h.keepA (KeepA.of_adds ha)
theorem OwnC.cells {base : Nat} {w : World} {v : Value} {l : List (Nat × Nat)} (h : OwnC base w v l) : CellsW (fun g => base ≤ g) w v l := by
  rcases h.2 with ⟨rfl, h0⟩ | ⟨g, cap, cur, rfl, hb, hg, hnc, hcm, _, ht⟩
  · rw [List.eq_nil_of_length_eq_zero h0]; exact CellsW.nil _ _
  · refine ⟨_, cap, rfl, hnc, hcm, fun _ => ⟨g, 0, rfl, hb, fun i hi => ?_⟩⟩
    obtain ⟨h1, h2⟩ := flatC_at l i hi
    have at_ : ∀ j, j < l.length * 2 → cur[j]? = (flatV l)[j]? := fun j hj => by
      rw [← ht, List.getElem?_take_of_lt hj]; simp
    rw [cell_of_row w g _ _ _ _ hg, cell_of_row w g _ _ _ _ hg, Nat.zero_add, at_ _ (by omega), at_ _ (by omega)]
    exact ⟨h1, h2⟩
theorem infoC : (Tryd.prog.info? 31).map (fun i => (i.zero, i.size, i.bytes)) = some (some (.agg #[.int .u32 0, .int .u32 0]), 2, 8) := by kernel_rfl
theorem cell_two_new (w : World) (x y : Value) (t : TypeId) : ∀ j u, [x, y][j]? = some u → (w.alloc (.cells #[x, y] t)).cell? (Addr.add ⟨w.heap.size, 0, none⟩ j) = some u := by
  intro j u h
  match j with
  | 0 => simp at h; subst h; simp [Addr.add]
  | 1 => simp at h; subst h; simp [Addr.add]
  | j + 2 => simp at h
/-- One cell: it lies in a block of its own first. -/
theorem wpC_append1 {w : World} {ops : Array Oper} {rest : List Oper} {o : Oper} {a : Act} {Q : Exit → Act → World → Prop} (hgd : o.guard = none) (s x : Operand)
    (ho : o.op = .call { callee := .builtin .append, args := #[s, x], argTypes := #[22, 22] }) (base : Nat) (v : Value) (pre : List (Nat × Nat)) (c : Nat × Nat) (hs : a.eval s = v) (hown : OwnC base w v pre)
    (k : Nat) (hx : a.eval x = .slice (some ⟨k, 0, none⟩) 1 1) (hk : k = w.heap.size)
    (hlen : pre.length + 1 ≤ 8589934592) (hbase : base ≤ w.heap.size)
    (h : ∀ v' w', OwnC base w' v' (pre ++ [c]) → Below base w w' → (∀ k, k < w.heap.size → v.ownBlock ≠ some k → w'.heap[k]? = w.heap[k]?) → wpList Tryd.prog ops Q rest (a.put o.dst v') w') : wpList Tryd.prog ops Q (o :: rest) a (w.alloc (.cells #[.int .u32 ((c.1 : Nat) : Int), .int .u32 ((c.2 : Nat) : Int)] 31)) := by
  subst hk
  obtain ⟨i0, hi, hz0, hz1, hz2⟩ := info_parts infoC
  refine wpList_append_own _ hgd s x 22 ho base 31 i0 (.agg #[.int .u32 0, .int .u32 0]) 2 8 Tryd.underlying22 hi hz0 hz1 hz2 rfl (by decide) v pre.length (flatV pre) hs (World.ownsRow.alloc hown _) ⟨w.heap.size, 0, none⟩ 1 1 [u32V c.1, u32V c.2] hx rfl (cell_two_new _ _ _ _)
    (fun u hu => by simp at hu; rcases hu with rfl | rfl <;> rfl) (by unfold maxLen; omega) (by omega) (by simp; omega) fun v' w' h1 h2 _ => h v' w' ?_ ?_ (fun k hk hne => (h2.block k (by simp; omega) (fun e => hne e.symm)).trans (Below.heap_alloc _ _ k hk))
  · unfold OwnC; rw [List.length_append, flatV_append]; exact h1
  · refine (((Below.refl base w).alloc hbase _).grown h2 (by simp; omega) fun k hk => ?_)
    exact (World.ownsRow.lt hown k hk.symm.symm).1

/-! ### The plain side -/
def ins (a v : Nat) : Bool → List (Nat × Nat) → List (Nat × Nat)
  | th, [] => if th then [] else [(a, v)]
  | th, x :: t => if th = false ∧ a ≤ x.1 then (a, v) :: (if x.1 = a then ins a v true t else x :: ins a v true t) else if x.1 = a then ins a v th t else x :: ins a v th t
theorem ins_true (a v : Nat) : ∀ l : List (Nat × Nat), ins a v true l = l.filter (fun x => x.1 ≠ a)
  | [] => rfl
  | x :: t => by
    unfold ins
    by_cases h : x.1 = a <;> simp [h, ins_true a v t]
theorem ins_len (a v : Nat) : ∀ (th : Bool) (l : List (Nat × Nat)), (ins a v th l).length ≤ l.length + 1
  | th, [] => by unfold ins; split <;> simp
  | th, x :: t => by
    have h1 := ins_len a v true t
    have h2 := ins_len a v th t
    have h3 : (ins a v true t).length ≤ t.length := by rw [ins_true]; exact List.length_filter_le _ _
    unfold ins
    split
    · split <;> simp <;> omega
    · split <;> simp <;> omega
theorem ins_mem (a v : Nat) : ∀ (l : List (Nat × Nat)) (y : Nat × Nat), y ∈ ins a v false l ↔ y = (a, v) ∨ (y ∈ l ∧ y.1 ≠ a)
  | [], y => by simp [ins]
  | x :: t, y => by
    have ih := ins_mem a v t y
    unfold ins
    by_cases h : a ≤ x.1
    · rw [if_pos ⟨rfl, h⟩, ins_true]
      by_cases e : x.1 = a
      · rw [if_pos e]
        simp only [List.mem_cons, List.mem_filter, decide_eq_true_eq]
        constructor
        · rintro (h | ⟨h1, h2⟩)
          · exact .inl h
          · exact .inr ⟨.inr h1, by simpa using h2⟩
        · rintro (h | ⟨rfl | h1, h2⟩)
          · exact .inl h
          · exact absurd e h2
          · exact .inr ⟨h1, by simpa using h2⟩
      · rw [if_neg e]
        simp only [List.mem_cons, List.mem_filter, decide_eq_true_eq]
        constructor
        · rintro (h | rfl | ⟨h1, h2⟩)
          · exact .inl h
          · exact .inr ⟨.inl rfl, e⟩
          · exact .inr ⟨.inr h1, by simpa using h2⟩
        · rintro (h | ⟨rfl | h1, h2⟩)
          · exact .inl h
          · exact .inr (.inl rfl)
          · exact .inr (.inr ⟨h1, by simpa using h2⟩)
    · rw [if_neg (fun hh => h hh.2)]
      by_cases e : x.1 = a
      · omega
      · rw [if_neg e, List.mem_cons, ih, List.mem_cons]
        constructor
        · rintro (rfl | h | ⟨h1, h2⟩)
          · exact .inr ⟨.inl rfl, e⟩
          · exact .inl h
          · exact .inr ⟨.inr h1, h2⟩
        · rintro (h | ⟨rfl | h1, h2⟩)
          · exact .inr (.inl h)
          · exact .inl rfl
          · exact .inr (.inr ⟨h1, h2⟩)
theorem ins_sorted (a v : Nat) : ∀ l : List (Nat × Nat), l.Pairwise (fun x y => x.1 < y.1) → (ins a v false l).Pairwise (fun x y => x.1 < y.1)
  | [], _ => by simp [ins]
  | x :: t, h => by
    obtain ⟨h1, h2⟩ := List.pairwise_cons.1 h
    have ih := ins_sorted a v t h2
    unfold ins
    by_cases hx : a ≤ x.1
    · rw [if_pos ⟨rfl, hx⟩, ins_true]
      have hf : (t.filter (fun x => x.1 ≠ a)).Pairwise (fun x y => x.1 < y.1) := h2.filter _
      by_cases e : x.1 = a
      · rw [if_pos e]
        refine List.pairwise_cons.2 ⟨fun y hy => ?_, hf⟩
        have := h1 y ((List.mem_filter.1 hy).1)
        simp only; omega
      · rw [if_neg e]
        refine List.pairwise_cons.2 ⟨fun y hy => ?_, List.pairwise_cons.2 ⟨fun y hy => h1 y ((List.mem_filter.1 hy).1), hf⟩⟩
        rcases List.mem_cons.1 hy with rfl | hy
        · simp only; omega
        · have := h1 y ((List.mem_filter.1 hy).1)
          simp only; omega
    · rw [if_neg (fun hh => hx hh.2), if_neg (by omega)]
      refine List.pairwise_cons.2 ⟨fun y hy => ?_, ih⟩
      rcases (ins_mem a v t y).1 hy with rfl | ⟨hy, _⟩
      · simp only; omega
      · exact h1 y hy
/-- What the document's Store makes of a list. -/
def stC (a v : Nat) (cs : List (Nat × Nat)) : List (Nat × Nat) := ins a v (decide (v = 0)) cs
theorem IsCells.store {S : Nat → Nat} {cs : List (Nat × Nat)} (h : IsCells S cs) (a v : Nat) (ha : a < 4294967296) : IsCells (setW S a v) (stC a v cs) := by
  unfold stC
  by_cases hv : v = 0
  · subst hv
    rw [decide_eq_true rfl, ins_true]
    refine ⟨h.rise.filter _, fun x => ?_⟩
    rw [List.mem_filter, h.mem]
    unfold setW
    by_cases e : x.1 = a
    · simp [e]
    · simp [e]
  · rw [decide_eq_false hv]
    refine ⟨ins_sorted a v cs h.rise, fun x => ?_⟩
    rw [ins_mem, h.mem]
    unfold setW
    by_cases e : x.1 = a
    · simp only [e, if_true]
      constructor
      · rintro (rfl | ⟨_, h2⟩)
        · exact ⟨ha, rfl, hv⟩
        · exact absurd rfl h2
      · rintro ⟨_, h2, _⟩
        exact .inl (Prod.ext e h2)
    · simp only [e, if_false]
      constructor
      · rintro (rfl | ⟨h1, _⟩)
        · exact absurd rfl e
        · exact h1
      · intro h1
        exact .inr ⟨h1, e⟩
/-- What is read at a place of such a list. -/
theorem cells_read {B : Nat → Prop} {w W : World} {ao : Option Addr} {cap : Nat} {l : List (Nat × Nat)} (h : CellsW B w (.slice ao l.length cap) l) (ha : Adds w W) {k : Nat} (hk : k < l.length) :
    ∃ g off, ao = some ⟨g, off, none⟩ ∧ W.cell? ⟨g, off + k * 2, none⟩ = some (.int .u32 (((atL l k).1 : Nat) : Int)) ∧ W.cell? ⟨g, off + k * 2 + 1, none⟩ = some (.int .u32 (((atL l k).2 : Nat) : Int)) := by
  obtain ⟨ao', cap', e, _, _, h3⟩ := h
  cases e
  obtain ⟨g, off, rfl, hg, hc⟩ := h3 (by rintro rfl; simp at hk)
  obtain ⟨k0, k1⟩ := hc k hk
  exact ⟨g, off, rfl, ha.cellAt k0, ha.cellAt k1⟩
theorem OwnC.slice {base : Nat} {w : World} {v : Value} {l : List (Nat × Nat)} (h : OwnC base w v l) : ∃ p n c, v = .slice p n c := by
  rcases h.2 with ⟨rfl, _⟩ | ⟨g, cap, cur, rfl, _⟩ <;> exact ⟨_, _, _, rfl⟩
theorem OwnC.ne {base : Nat} {w : World} {v : Value} {l : List (Nat × Nat)} (h : OwnC base w v l) : v.ownBlock ≠ some w.heap.size := fun e => by
  have := (World.ownsRow.lt h _ e).2; omega
theorem KeepA.turn {w w' : World} {b : Nat} {cur : Array Value} {t : TypeId} (h : w.grownBy w' (some b)) (hb : w.heap[b]? = some (.cells cur t (0, 0))) (ht : t ≠ 31) : KeepA w w' := fun g vals hg =>
  (h.block g (Array.getElem?_eq_some_iff.1 hg).1 (fun e => by cases e; rw [hb] at hg; injection hg with e; injection e with _ e; exact ht e)).trans hg
theorem box_reads {w w' : World} (x y : Nat) (h : w'.heap[w.heap.size]? = (w.alloc (.cells #[.int .u32 ((x : Nat) : Int), .int .u32 ((y : Nat) : Int)] 31)).heap[w.heap.size]?) :
    w'.cell? ⟨w.heap.size, 0, none⟩ = some (.int .u32 ((x : Nat) : Int)) ∧ w'.cell? ⟨w.heap.size, 1, none⟩ = some (.int .u32 ((y : Nat) : Int)) := by
  rw [heap_alloc_new] at h
  rw [cell_of_row w' _ _ _ _ _ h, cell_of_row w' _ _ _ _ _ h]
  exact ⟨rfl, rfl⟩
theorem results_ref {w : World} {n1 : Nat} {v : Value} {fn : Func} {p : Tmp} (h : fn.results = #[.cell p 27]) (tmps : Array Value) (hp : tmps.getD p undef = .pointer (some ⟨n1, 0, none⟩)) (hz : w.heap[n1]? = some (.cells #[v] 27 (0, 0))) :
    (results fn tmps).run Tryd.prog w = .ok (.agg #[v]) w := by
  have hp' : tmps[p]?.getD undef = .pointer (some ⟨n1, 0, none⟩) := by simpa using hp
  simp [results, h, hp', asAddr, run_loadVar_row (P := Tryd.prog) w n1 27 27 #[v] (0, 0) _ hz Tryd.underlying27 rfl (by kernel_rfl)]
theorem ins_out {a v : Nat} {th : Bool} {out r tot : List (Nat × Nat)} (h : out ++ ins a v th r = tot) {n : Nat} (hn : tot.length ≤ n) : out.length ≤ n := by
  rw [← h, List.length_append] at hn; omega
set_option maxRecDepth 100000 in
set_option maxHeartbeats 8000000 in
theorem refStore_any (rv : Value) (cs : List (Nat × Nat)) (a x : Nat) (w : World) (hc : CellsW (fun _ => True) w rv cs) (hn : cs.length ≤ 4294967296) :
    Calls Tryd.prog 10 #[.agg #[rv], .int .u32 ((a : Nat) : Int), .int .u32 ((x : Nat) : Int)] w fun e w' => ∃ v', e = .returned (.agg #[v']) ∧ OwnC w.heap.size w' v' (stC a x cs) ∧ Adds w w' := by
  have HC := Lib.hid hc
  have HTl := Lib.hid (show (stC a x cs).length ≤ 4294967297 from Nat.le_trans (ins_len a x _ cs) (by omega))
  have HN := Lib.hid hn
  obtain ⟨ao, cap, rfl, h1, h2, _⟩ := hc
  unfold maxLen at h2
  clear hn
  go_enter Tryd.func10, Tryd.ntmps10
  go_wp2_with fail
  have hb0 : (((x : Nat) : Int) == 0) = decide (x = 0) := by by_cases h : x = 0 <;> simp [h]
  rw [hb0]
  clear hb0
  obtain ⟨W1, hW1⟩ : ∃ W1, (w.alloc (.cells #[.slice ao cs.length cap] 27)).alloc (.cells #[.slice none 0 0] 27) = W1 := ⟨_, rfl⟩
  have HA1 := Lib.hid (show Adds w W1 by rw [← hW1]; exact Adds.trans (Adds.new _ _) (Adds.new _ _))
  have HS1 := Lib.hid (show W1.heap.size = w.heap.size + 2 by rw [← hW1]; simp)
  have HBx := Lib.hid (show W1.cell? ⟨w.heap.size, 0, none⟩ = some (.slice ao cs.length cap) by rw [← hW1]; exact (Adds.new _ _).cellAt (by simp))
  have HBy := Lib.hid (show W1.heap[w.heap.size + 1]? = some (.cells #[.slice none 0 0] 27 (0, 0)) by rw [← hW1]; have := heap_alloc_new (w.alloc (.cells #[.slice ao cs.length cap] 27)) (.cells #[.slice none 0 0] 27); simpa using this)
  rw [hW1]; clear hW1
  obtain ⟨n0, hn0⟩ : ∃ n0, w.heap.size = n0 := ⟨_, rfl⟩
  have HN0 := Lib.hid hn0
  rw [hn0] at HS1 HBx HBy ⊢
  obtain ⟨n1, hn1⟩ : ∃ n1, n0 + 1 = n1 := ⟨_, rfl⟩
  rw [hn1] at HBy ⊢
  have HN1 := Lib.hid hn1
  clear hn0 hn1
  go_loopw [7, 8, 9] (fun t7 t8 t9 wr => ∃ (i : Nat) (out : List (Nat × Nat)) (th : Bool), i ≤ cs.length ∧ t9 = .int .i64 i ∧ t8 = .bool th ∧ OwnC (n0 + 2) wr t7 out ∧ Below (n0 + 2) W1 wr ∧ out ++ ins a x th (cs.drop i) = stC a x cs) (fun _ _ t9 _ => cs.length - (intOf t9).toNat)
  case atStart => exact ⟨0, [], decide (x = 0), Nat.zero_le _, rfl, rfl, OwnC.nil _ _, Below.refl _ _, rfl⟩
  case round =>
    obtain ⟨i, out, th, hi, rfl, rfl, ho, hb, he⟩ := hrel
    have HO := Lib.hid ho; have HB := Lib.hid hb; have HE := Lib.hid he; have HI := Lib.hid hi
    have HLen := Lib.hid (ins_out he HTl.out)
    have HSz := Lib.hid (show n0 + 2 ≤ wr.heap.size by have := hb.size; have := HS1.out; omega)
    have HAr := Lib.hid (show Adds w wr from Adds.trans HA1.out (show Below W1.heap.size W1 wr from HS1.out ▸ hb))
    clear ho hb he hi
    have cx := Adds.cellAt (show Adds W1 wr from (show Below W1.heap.size W1 wr from HS1.out ▸ HB.out)) HBx.out
    by_cases hlt : i < cs.length
    · have hltI : (i : Int) < (cs.length : Int) := by omega
      obtain ⟨g, off, rfl, k0, k1⟩ := cells_read HC.out HAr.out hlt
      have HE2 := HE
      rw [drop_at hlt] at HE2
      have HLt := Lib.hid hlt
      clear hlt
      obtain ⟨y, hy⟩ : ∃ y, atL cs i = y := ⟨_, rfl⟩
      rw [hy] at k0 k1 HE2
      clear hy
      obtain ⟨ya, yv⟩ := y
      simp only at k0 k1
      have HW2 := Lib.hid (fun (_ : Unit) => Adds.new wr (.cells #[.int .u32 ((ya : Nat) : Int), .int .u32 ((yv : Nat) : Int)] 31))
      have HO2 := Lib.hid (HO.out.adds (HW2.out ()))
      have HS2 := Lib.hid (show n0 + 2 ≤ (wr.alloc (.cells #[.int .u32 ((ya : Nat) : Int), .int .u32 ((yv : Nat) : Int)] 31)).heap.size by have := HSz.out; simp; omega)
      have HB2 := Lib.hid (Below.trans HB.out (Below.mono (HW2.out ()) HSz.out))
      have HOut := Lib.hid (OwnC.ne HO.out)
      cases th with
      | true =>
        by_cases hay : ya = a
        · have HF := Lib.hid (show (out) ++ ins a x true (cs.drop (i + 1)) = stC a x cs by have := HE2.out; unfold ins at this; simpa [hay] using this)
          subst hay
          go_wp2_with fail
          go_roundw
          case rel => exact ⟨i + 1, out, true, HLt.out, rfl, rfl, HO2.out, HB2.out, HF.out⟩
          case measure => simp [intOf]; have := HLt.out; omega
        · have HF := Lib.hid (show (out ++ [(ya, yv)]) ++ ins a x true (cs.drop (i + 1)) = stC a x cs by have := HE2.out; unfold ins at this; simpa [hay] using this)
          have hyI : ¬ ((ya : Nat) : Int) = ((a : Nat) : Int) := by omega
          clear hay
          go_wp2_with (at_builtin; (fail_if_success (show wpList _ _ _ ({ dst := some 16, op := _, type := _, pos := _, after := _, guard := _ } :: _) _ _)); go_must (refine wpC_append1 rfl _ _ rfl (n0 + 2) _ (out) (ya, yv) rfl (by exact HO2.out) _ rfl (by simp) (by have := HLen.out; simp; omega) (by have := HS2.out; simp at this ⊢; omega) ?_; intro v1 w1 hown1 hb1 hk1; have HO1 := Lib.hid hown1; have HB1 := Lib.hid hb1; have HSz1 := Lib.hid (Nat.le_trans HS2.out hb1.size); clear hown1 hb1 hk1))
          go_roundw
          case rel => exact ⟨i + 1, out ++ [(ya, yv)], true, HLt.out, rfl, rfl, HO1.out, (Below.trans HB2.out HB1.out), HF.out⟩
          case measure => simp [intOf]; have := HLt.out; omega
      | false =>
        by_cases hle : a ≤ ya
        · have hleI : ((a : Nat) : Int) ≤ ((ya : Nat) : Int) := by omega
          by_cases hay : ya = a
          · have HF := Lib.hid (show (out ++ [(a, x)]) ++ ins a x true (cs.drop (i + 1)) = stC a x cs by have := HE2.out; unfold ins at this; simpa [hay, hle] using this)
            subst hay
            clear hle
            go_wp2_with (at_builtin; (fail_if_success (show wpList _ _ _ ({ dst := some 16, op := _, type := _, pos := _, after := _, guard := _ } :: _) _ _)); go_must (refine wpC_append1 rfl _ _ rfl (n0 + 2) _ (out) (ya, x) rfl (by exact HO2.out) _ rfl (by simp) (by have := HLen.out; simp; omega) (by have := HS2.out; simp at this ⊢; omega) ?_; intro v1 w1 hown1 hb1 hk1; have HO1 := Lib.hid hown1; have HB1 := Lib.hid hb1; have HSz1 := Lib.hid (Nat.le_trans HS2.out hb1.size); have d := box_reads ya yv (hk1 wr.heap.size (by simp) (by exact HOut.out)); obtain ⟨d0, d1⟩ := d; clear hown1 hb1 hk1))
            go_roundw
            case rel => exact ⟨i + 1, out ++ [(ya, x)], true, HLt.out, rfl, rfl, HO1.out, (Below.trans HB2.out HB1.out), HF.out⟩
            case measure => simp [intOf]; have := HLt.out; omega
          · have HF := Lib.hid (show (out ++ [(a, x), (ya, yv)]) ++ ins a x true (cs.drop (i + 1)) = stC a x cs by have := HE2.out; unfold ins at this; simpa [hay, hle] using this)
            have hyI : ¬ ((ya : Nat) : Int) = ((a : Nat) : Int) := by omega
            clear hay hle
            go_wp2_with (first
              | (at_builtin; (fail_if_success (show wpList _ _ _ ({ dst := some 16, op := _, type := _, pos := _, after := _, guard := _ } :: _) _ _)); refine wpC_append1 rfl _ _ rfl (n0 + 2) _ (out) (a, x) rfl (by exact HO2.out) _ rfl (by simp) (by have := HLen.out; simp; omega) (by have := HS2.out; simp at this ⊢; omega) ?_; intro v1 w1 hown1 hb1 hk1; have HO1 := Lib.hid hown1; have HB1 := Lib.hid hb1; have HSz1 := Lib.hid (Nat.le_trans HS2.out hb1.size); have d := box_reads ya yv (hk1 wr.heap.size (by simp) (by exact HOut.out)); obtain ⟨d0, d1⟩ := d; clear HOut; clear hown1 hb1 hk1)
              | (at_builtin; (fail_if_success (show wpList _ _ _ ({ dst := some 16, op := _, type := _, pos := _, after := _, guard := _ } :: _) _ _)); refine wpC_append1 rfl _ _ rfl (n0 + 2) _ (out ++ [(a, x)]) (ya, yv) rfl (by exact HO1.out) _ rfl (by simp) (by have := HLen.out; simp; omega) (by have := HSz1.out; simp at this ⊢; omega) ?_; intro v2 w2 hown1 hb1 hk1; have HO2x := Lib.hid hown1; have HB9 := Lib.hid hb1; have HSz2 := Lib.hid (Nat.le_trans HSz1.out hb1.size); clear hown1 hb1 hk1))
            have HO9 := Lib.hid (show OwnC (n0 + 2) w2 v2 (out ++ [(a, x), (ya, yv)]) by have := HO2x.out; simpa using this)
            go_roundw
            case rel => exact ⟨i + 1, out ++ [(a, x), (ya, yv)], true, HLt.out, rfl, rfl, HO9.out, (Below.trans HB2.out (Below.trans HB1.out HB9.out)), HF.out⟩
            case measure => simp [intOf]; have := HLt.out; omega
        · have hay : ¬ ya = a := by omega
          have HF := Lib.hid (show (out ++ [(ya, yv)]) ++ ins a x false (cs.drop (i + 1)) = stC a x cs by have := HE2.out; unfold ins at this; simpa [hay, hle] using this)
          have hyI : ¬ ((ya : Nat) : Int) = ((a : Nat) : Int) := by omega
          have hleI : ¬ ((a : Nat) : Int) ≤ ((ya : Nat) : Int) := by omega
          clear hay hle
          go_wp2_with (at_builtin; (fail_if_success (show wpList _ _ _ ({ dst := some 16, op := _, type := _, pos := _, after := _, guard := _ } :: _) _ _)); go_must (refine wpC_append1 rfl _ _ rfl (n0 + 2) _ (out) (ya, yv) rfl (by exact HO2.out) _ rfl (by simp) (by have := HLen.out; simp; omega) (by have := HS2.out; simp at this ⊢; omega) ?_; intro v1 w1 hown1 hb1 hk1; have HO1 := Lib.hid hown1; have HB1 := Lib.hid hb1; have HSz1 := Lib.hid (Nat.le_trans HS2.out hb1.size); clear hown1 hb1 hk1))
          go_roundw
          case rel => exact ⟨i + 1, out ++ [(ya, yv)], false, HLt.out, rfl, rfl, HO1.out, (Below.trans HB2.out HB1.out), HF.out⟩
          case measure => simp [intOf]; have := HLt.out; omega
    · obtain rfl : i = cs.length := by have := HI.out; omega
      rw [List.drop_length] at HE
      clear hlt
      have hY : wr.heap[n1]? = some (.cells #[.slice none 0 0] 27 (0, 0)) := (HB.out.block n1 (by have := HN1.out; omega)).trans HBy.out
      have HY := Lib.hid hY
      have cy := (cell_of_box_a hY).1
      have fy := (cell_of_box_a hY).2
      clear hY
      cases th with
      | true =>
        have HF := Lib.hid (show out = stC a x cs by have := HE.out; simpa [ins] using this)
        obtain ⟨p, n, c, rfl⟩ := HO.out.slice
        go_wp2_with fail
        have HT := Lib.hid (Turns.setCell n1 0 wr (.slice p n c))
        have HO9 := Lib.hid (HO.out.keepA (KeepA.turn HT.out HY.out (by decide)))
        have HA9 := Lib.hid (Below.grown HAr.out HT.out (Below.size HAr.out) (fun k e => by cases e; have := HN1.out; have := HN0.out; omega))
        have hz9 : (wr.setCell ⟨n1, 0, none⟩ (.slice p n c)).heap[n1]? = some (.cells #[.slice p n c] 27 (0, 0)) := heap_setCell_box_a _ HY.out
        generalize wr.setCell ⟨n1, 0, none⟩ (.slice p n c) = w9 at HO9 HA9 HT hz9 ⊢
        have HZ9 := Lib.hid hz9
        clear hz9
        go_wp2_with fail
        (try simp only [Exit.inBlock, Exit.then])
        rw [HF.out] at HO9
        refine bodyPost_ret (v := .agg #[.slice p n c]) (results_ref rfl _ rfl HZ9.out) rfl ?_
        exact ⟨_, rfl, OwnC.base HO9.out (by have := HN0.out; omega), HA9.out⟩
      | false =>
        have HF := Lib.hid (show out ++ [(a, x)] = stC a x cs by have := HE.out; simpa [ins] using this)
        go_wp2_with (at_builtin; (fail_if_success (show wpList _ _ _ ({ dst := some 16, op := _, type := _, pos := _, after := _, guard := _ } :: _) _ _)); go_must (refine wpC_append1 rfl _ _ rfl (n0 + 2) _ out (a, x) rfl (by exact HO.out) _ rfl (by simp) (by have := HLen.out; simp; omega) (by have := HSz.out; simp at this ⊢; omega) ?_; intro v1 w1 hown1 hb1 hk1; obtain ⟨p, n, c, rfl⟩ := hown1.slice; have HO1 := Lib.hid hown1; have HB1 := Lib.hid hb1; have HY1 := Lib.hid ((hb1.block n1 (by have := HN1.out; omega)).trans HY.out); have cy1 := (cell_of_box_a HY1.out).1; have fy1 := (cell_of_box_a HY1.out).2; clear hown1 hb1 hk1 cy fy))
        have HA1 := Lib.hid (show Adds w w1 from Below.trans HAr.out (Below.mono HB1.out (by have := HN0.out; omega)))
        have HT := Lib.hid (Turns.setCell n1 0 w1 (.slice p n c))
        have HO9 := Lib.hid (HO1.out.keepA (KeepA.turn HT.out HY1.out (by decide)))
        have HA9 := Lib.hid (Below.grown HA1.out HT.out (Below.size HA1.out) (fun k e => by cases e; have := HN1.out; have := HN0.out; omega))
        have hz9 : (w1.setCell ⟨n1, 0, none⟩ (.slice p n c)).heap[n1]? = some (.cells #[.slice p n c] 27 (0, 0)) := heap_setCell_box_a _ HY1.out
        generalize w1.setCell ⟨n1, 0, none⟩ (.slice p n c) = w9 at HO9 HA9 HT hz9 ⊢
        have HZ9 := Lib.hid hz9
        clear hz9
        go_wp2_with fail
        (try simp only [Exit.inBlock, Exit.then])
        rw [HF.out] at HO9
        refine bodyPost_ret (v := .agg #[.slice p n c]) (results_ref rfl _ rfl HZ9.out) rfl ?_
        exact ⟨_, rfl, OwnC.base HO9.out (by have := HN0.out; omega), HA9.out⟩
end Go.Proofs.YtleihmmkonakhaaDoor
namespace Go.Proofs.YtleihmmkonakhaaDoor
open Go Go.RowKit Go.Shelf Go.Maps

theorem atL_mem {l : List (Nat × Nat)} {i : Nat} (h : i < l.length) : atL l i ∈ l := by
  unfold atL; rw [List.getD_eq_getElem?_getD, List.getElem?_eq_getElem h]; exact List.getElem_mem h
theorem mem_atL {l : List (Nat × Nat)} {x : Nat × Nat} (h : x ∈ l) : ∃ i, i < l.length ∧ atL l i = x := by
  obtain ⟨i, hi, e⟩ := List.mem_iff_getElem.1 h
  exact ⟨i, hi, by unfold atL; rw [List.getD_eq_getElem?_getD, List.getElem?_eq_getElem hi]; exact e⟩
set_option maxRecDepth 100000 in
set_option maxHeartbeats 4000000 in
theorem refLoad_any (rv : Value) (S : Nat → Nat) (cs : List (Nat × Nat)) (a : Nat) (w : World) (hc : CellsW (fun _ => True) w rv cs) (hS : IsCells S cs) (ha : a < 4294967296) :
    Calls Tryd.prog 29 #[.agg #[rv], .int .u32 ((a : Nat) : Int)] w fun e w' => e = .returned (.int .u32 ((S a : Nat) : Int)) ∧ Adds w w' := by
  have HC := Lib.hid hc
  obtain ⟨ao, cap, rfl, h1, h2, _⟩ := hc
  have HSS := Lib.hid hS; have HAa := Lib.hid ha
  clear hS ha
  unfold maxLen at h2
  go_enter Tryd.func29, Tryd.ntmps29
  go_wp2_with fail
  obtain ⟨W1, hW1⟩ : ∃ W1, w.alloc (.cells #[.slice ao cs.length cap] 27) = W1 := ⟨_, rfl⟩
  have HA1 := Lib.hid (show Adds w W1 by rw [← hW1]; exact Adds.new _ _)
  have cx : W1.cell? ⟨w.heap.size, 0, none⟩ = some (.slice ao cs.length cap) := by rw [← hW1]; simp
  rw [hW1]; clear hW1
  obtain ⟨n0, hn0⟩ : ∃ n0, w.heap.size = n0 := ⟨_, rfl⟩
  rw [hn0] at cx ⊢
  clear hn0
  go_loopw [5] (fun t5 wr => wr = W1 ∧ ∃ i : Nat, i ≤ cs.length ∧ t5 = .int .i64 i ∧ ∀ j, j < i → (atL cs j).1 ≠ a) (fun t5 _ => cs.length - (intOf t5).toNat)
  case atStart => exact ⟨rfl, 0, Nat.zero_le _, rfl, fun _ h => absurd h (by omega)⟩
  case round =>
    obtain ⟨rfl, i, hi, rfl, hno⟩ := hrel
    have HNo := Lib.hid hno; have HI := Lib.hid hi
    clear hno hi
    by_cases hlt : i < cs.length
    · have hltI : (i : Int) < (cs.length : Int) := by omega
      obtain ⟨g, off, rfl, k0, k1⟩ := cells_read HC.out HA1.out hlt
      have HMem := Lib.hid (atL_mem hlt)
      have HNo2 := Lib.hid (fun (h : (atL cs i).1 ≠ a) (j : Nat) (hj : j < i + 1) => if e : j = i then by subst e; exact h else HNo.out j (by omega))
      have HLt := Lib.hid hlt
      clear hlt
      obtain ⟨y, hy⟩ : ∃ y, atL cs i = y := ⟨_, rfl⟩
      rw [hy] at k0 k1 HMem HNo2
      clear hy
      obtain ⟨ya, yv⟩ := y
      simp only at k0 k1 HNo2
      by_cases hay : ya = a
      · subst hay
        have HV := Lib.hid ((HSS.out.mem _).1 HMem.out).2.1
        simp only at HV
        go_wp2_with fail
        go_ret
        exact ⟨by rw [HV.out]; rfl, HA1.out⟩
      · have hyI : ¬ ((ya : Nat) : Int) = ((a : Nat) : Int) := by omega
        have HNo3 := Lib.hid (HNo2.out hay)
        clear hay
        go_wp2_with fail
        go_roundw
        case rel => exact ⟨trivial, i + 1, HLt.out, rfl, HNo3.out⟩
        case measure => simp [intOf]; have := HLt.out; omega
    · obtain rfl : i = cs.length := by have := HI.out; omega
      have HV := Lib.hid (show S a = 0 by
        by_cases h0 : S a = 0
        · exact h0
        · obtain ⟨i, hi, e⟩ := mem_atL ((HSS.out.mem (a, S a)).2 ⟨HAa.out, rfl, h0⟩)
          exact absurd (by rw [e]) (HNo.out i hi))
      clear hlt
      go_wp2_with fail
      go_ret
      exact ⟨by rw [HV.out]; rfl, HA1.out⟩

theorem drop_filter : ∀ (cs : List (Nat × Nat)) (a i : Nat), cs.Pairwise (fun x y => x.1 < y.1) → i ≤ cs.length → (∀ j, j < i → (atL cs j).1 < a) → (i < cs.length → a ≤ (atL cs i).1) → cs.drop i = cs.filter (fun x => decide (a ≤ x.1))
  | [], a, i, _, _, _, _ => by simp
  | x :: t, a, 0, h, _, _, h2 => by
    obtain ⟨h3, _⟩ := List.pairwise_cons.1 h
    have h4 := h2 (by simp)
    have h5 : a ≤ x.1 := by simpa [atL] using h4
    rw [List.drop_zero]
    symm
    rw [List.filter_eq_self]
    intro y hy
    rcases List.mem_cons.1 hy with rfl | hy
    · simpa using h5
    · have := h3 y hy; simp; omega
  | x :: t, a, i + 1, h, hi, h1, h2 => by
    obtain ⟨_, h3⟩ := List.pairwise_cons.1 h
    have h4 : ¬ a ≤ x.1 := by have := h1 0 (by omega); simp [atL] at this; omega
    rw [List.drop_succ_cons, List.filter_cons, if_neg (by simpa using h4)]
    refine drop_filter t a i h3 (by simpa using hi) (fun j hj => ?_) (fun hh => ?_)
    · have := h1 (j + 1) (by omega); simpa [atL] using this
    · have := h2 (by simpa using hh); simpa [atL] using this
theorem cells_adds {B : Nat → Prop} {w w' : World} {v : Value} {l : List (Nat × Nat)} (h : CellsW B w v l) (ha : Adds w w') : CellsW B w' v l := h.frm (Frm.of_adds (fun _ => False) ha) (fun _ _ => id)
theorem nil_read {B : Nat → Prop} {w : World} (ao : Option Addr) (c : Nat) (hc : c ≤ maxLen) : CellsW B w (.slice ao 0 c) [] := ⟨ao, c, rfl, Nat.zero_le _, hc, fun h => absurd rfl h⟩
theorem slice_read {B : Nat → Prop} {w : World} {g off cap : Nat} {l : List (Nat × Nat)} (h : CellsW B w (.slice (some ⟨g, off, none⟩) l.length cap) l) {i : Nat} (hi : i ≤ l.length) (ao : Option Addr) (hne : i < l.length → ao = some ⟨g, off + i * 2, none⟩) {n c : Nat} (hn : n = l.length - i) (hc : c = cap - i) :
    CellsW B w (.slice ao n c) (l.drop i) := by
  obtain ⟨ao', cap', e, h1, h2, h3⟩ := h
  cases e
  subst hn hc
  refine ⟨ao, cap - i, by simp, by simp; omega, by omega, fun hd => ?_⟩
  have hlt : i < l.length := by
    rcases Nat.lt_or_ge i l.length with h | h
    · exact h
    · exact absurd (List.drop_eq_nil_of_le h) hd
  obtain ⟨g', off', e, hg, hcl⟩ := h3 (by rintro rfl; simp at hlt)
  cases e
  refine ⟨g, off + i * 2, hne hlt, hg, fun j hj => ?_⟩
  rw [List.length_drop] at hj
  have := hcl (i + j) (by omega)
  rw [show (l.drop i).getD j (0, 0) = l.getD (i + j) (0, 0) by simp [List.getD_eq_getElem?_getD], show off + i * 2 + j * 2 = off + (i + j) * 2 by omega]
  exact this
set_option maxRecDepth 100000 in
set_option maxHeartbeats 4000000 in
theorem refFrom_any (rv : Value) (cs : List (Nat × Nat)) (a : Nat) (w : World) (hc : CellsW (fun _ => True) w rv cs) (hS : cs.Pairwise (fun x y => x.1 < y.1)) :
    Calls Tryd.prog 19 #[.agg #[rv], .int .u32 ((a : Nat) : Int)] w fun e w' => ∃ v, e = .returned v ∧ CellsW (fun _ => True) w' v (cs.filter fun x => decide (a ≤ x.1)) ∧ Adds w w' := by
  have HC := Lib.hid hc
  obtain ⟨ao, cap, rfl, h1, h2, _⟩ := hc
  have HSS := Lib.hid hS
  clear hS
  unfold maxLen at h2
  go_enter Tryd.func19, Tryd.ntmps19
  go_wp2_with fail
  obtain ⟨W1, hW1⟩ : ∃ W1, w.alloc (.cells #[.slice ao cs.length cap] 27) = W1 := ⟨_, rfl⟩
  have HA1 := Lib.hid (show Adds w W1 by rw [← hW1]; exact Adds.new _ _)
  have cx : W1.cell? ⟨w.heap.size, 0, none⟩ = some (.slice ao cs.length cap) := by rw [← hW1]; simp
  rw [hW1]; clear hW1
  obtain ⟨n0, hn0⟩ : ∃ n0, w.heap.size = n0 := ⟨_, rfl⟩
  rw [hn0] at cx ⊢
  clear hn0
  go_loopw [5] (fun t5 wr => wr = W1 ∧ ∃ i : Nat, i ≤ cs.length ∧ t5 = .int .i64 i ∧ ∀ j, j < i → (atL cs j).1 < a) (fun t5 _ => cs.length - (intOf t5).toNat)
  case atStart => exact ⟨rfl, 0, Nat.zero_le _, rfl, fun _ h => absurd h (by omega)⟩
  case round =>
    obtain ⟨rfl, i, hi, rfl, hno⟩ := hrel
    have HNo := Lib.hid hno; have HI := Lib.hid hi
    clear hno hi
    by_cases hlt : i < cs.length
    · have hltI : (i : Int) < (cs.length : Int) := by omega
      obtain ⟨g, off, rfl, k0, k1⟩ := cells_read HC.out HA1.out hlt
      have HNo2 := Lib.hid (fun (h : (atL cs i).1 < a) (j : Nat) (hj : j < i + 1) => if e : j = i then by subst e; exact h else HNo.out j (by omega))
      have HDr := Lib.hid (fun (h : a ≤ (atL cs i).1) => drop_filter cs a i HSS.out HI.out HNo.out (fun _ => id h))
      have HLt := Lib.hid hlt
      clear hlt
      obtain ⟨y, hy⟩ : ∃ y, atL cs i = y := ⟨_, rfl⟩
      rw [hy] at k0 k1 HNo2 HDr
      clear hy
      obtain ⟨ya, yv⟩ := y
      simp only at k0 k1 HNo2 HDr
      by_cases hay : ya < a
      · have hyI : ((ya : Nat) : Int) < ((a : Nat) : Int) := by omega
        have HNo3 := Lib.hid (HNo2.out hay)
        clear hay
        go_wp2_with fail
        go_roundw
        case rel => exact ⟨trivial, i + 1, HLt.out, rfl, HNo3.out⟩
        case measure => simp [intOf]; have := HLt.out; omega
      · have hyI : ¬ ((ya : Nat) : Int) < ((a : Nat) : Int) := by omega
        have HD := Lib.hid (HDr.out (by omega))
        clear hay
        go_wp2_with fail
        go_ret
        refine ⟨_, rfl, ?_, HA1.out⟩
        rw [← HD.out]
        have HC2 : CellsW (fun _ => True) wr (.slice (some ⟨g, off, none⟩) cs.length cap) cs := cells_adds HC.out HA1.out
        refine slice_read HC2 (Nat.le_of_lt HLt.out) _ (fun _ => rfl) (by have := HLt.out; omega) (by omega)
    · obtain rfl : i = cs.length := by have := HI.out; omega
      have HD := Lib.hid (drop_filter cs a cs.length HSS.out (Nat.le_refl _) HNo.out (fun h => absurd h (by omega)))
      clear hlt
      go_wp2_with fail
      all_goals
        go_ret
        refine ⟨_, rfl, ?_, HA1.out⟩
        rw [← HD.out, List.drop_length]
        exact nil_read _ _ (by unfold maxLen; omega)
/-! ### Pages -/
def pgStep (out : List Nat) (p : Nat) : List Nat := if out = [] ∨ out.getD (out.length - 1) 0 ≠ p then out ++ [p] else out
def pgC (cs : List (Nat × Nat)) : List Nat := (cs.map fun x => x.1 / 4096).foldl pgStep []
theorem pgC_take {cs : List (Nat × Nat)} {i : Nat} (h : i < cs.length) : pgC (cs.take (i + 1)) = pgStep (pgC (cs.take i)) ((atL cs i).1 / 4096) := by
  unfold pgC
  rw [List.take_succ_eq_append_getElem h, List.map_append, List.foldl_append]
  simp [atL, List.getD_eq_getElem?_getD, h]
theorem pgStep_len (out : List Nat) (p : Nat) : (pgStep out p).length ≤ out.length + 1 := by unfold pgStep; split <;> simp
theorem pgC_len (cs : List (Nat × Nat)) : ∀ i, i ≤ cs.length → (pgC (cs.take i)).length ≤ i
  | 0, _ => by simp [pgC]
  | i + 1, h => by
    rw [pgC_take (by omega)]
    have := pgC_len cs i (by omega)
    have := pgStep_len (pgC (cs.take i)) ((atL cs i).1 / 4096)
    omega
structure PgOk (cs : List (Nat × Nat)) (i : Nat) : Prop where
  rise : (pgC (cs.take i)).Pairwise (· < ·)
  mem : ∀ p, p ∈ pgC (cs.take i) ↔ ∃ j, j < i ∧ (atL cs j).1 / 4096 = p
  last : ∀ p ∈ pgC (cs.take i), p ≤ (pgC (cs.take i)).getD ((pgC (cs.take i)).length - 1) 0
theorem pgC_ok {cs : List (Nat × Nat)} (hs : cs.Pairwise (fun x y => x.1 < y.1)) : ∀ i, i ≤ cs.length → PgOk cs i
  | 0, _ => ⟨by simp [pgC], fun p => by simp [pgC], fun p h => by simp [pgC] at h⟩
  | i + 1, h => by
    have ih := pgC_ok hs i (by omega)
    have hlt : i < cs.length := by omega
    have up : ∀ p ∈ pgC (cs.take i), p ≤ (atL cs i).1 / 4096 := fun p hp => by
      obtain ⟨j, hj, rfl⟩ := (ih.mem p).1 hp
      have : (atL cs j).1 < (atL cs i).1 := by
        have := List.pairwise_iff_getElem.1 hs j i (by omega) hlt hj
        simpa [atL, List.getD_eq_getElem?_getD, hlt, show j < cs.length by omega] using this
      exact Nat.div_le_div_right (Nat.le_of_lt this)
    obtain ⟨out, ho⟩ : ∃ out, pgC (cs.take i) = out := ⟨_, rfl⟩
    obtain ⟨q, hq⟩ : ∃ q, (atL cs i).1 / 4096 = q := ⟨_, rfl⟩
    have hm : ∀ p, (∃ j, j < i + 1 ∧ (atL cs j).1 / 4096 = p) ↔ p ∈ out ∨ p = q := fun p => by
      rw [← ho, ih.mem]
      constructor
      · rintro ⟨j, hj, rfl⟩
        by_cases e : j = i
        · subst e; exact .inr hq
        · exact .inl ⟨j, by omega, rfl⟩
      · rintro (⟨j, hj, rfl⟩ | rfl)
        · exact ⟨j, by omega, rfl⟩
        · exact ⟨i, by omega, hq⟩
    have h1 := ih.rise; have h2 := ih.last
    rw [ho] at h1 h2 up
    rw [hq] at up
    have e := pgC_take hlt
    rw [ho, hq] at e
    by_cases hc : out = [] ∨ out.getD (out.length - 1) 0 ≠ q
    · have e2 : pgStep out q = out ++ [q] := if_pos hc
      rw [e2] at e
      refine ⟨?_, fun p => ?_, ?_⟩
      · rw [e]
        refine List.pairwise_append.2 ⟨h1, by simp, fun x hx y hy => ?_⟩
        simp at hy; subst hy
        have a1 := h2 x hx
        have a2 := up x hx
        rcases hc with rfl | hc
        · simp at hx
        · have hl : out.getD (out.length - 1) 0 ∈ out := by
            have : 0 < out.length := List.length_pos_of_mem hx
            rw [List.getD_eq_getElem?_getD, List.getElem?_eq_getElem (by omega)]; exact List.getElem_mem _
          have a3 := up _ hl
          omega
      · rw [e, hm]; simp
      · rw [e]
        intro p hp
        simp at hp
        simp
        rcases hp with hp | rfl
        · exact up p hp
        · exact Nat.le_refl _
    · have e2 : pgStep out q = out := if_neg hc
      rw [e2] at e
      simp only [not_or, Decidable.not_not] at hc
      refine ⟨by rw [e]; exact h1, fun p => ?_, by rw [e]; exact h2⟩
      rw [e, hm]
      constructor
      · exact .inl
      · rintro (h | rfl)
        · exact h
        · have : 0 < out.length := List.length_pos_iff.2 hc.1
          rw [← hc.2, List.getD_eq_getElem?_getD, List.getElem?_eq_getElem (by omega)]; exact List.getElem_mem _
/-- The pages that have words are those that the document tells. -/
theorem pages_ref {w : World} {b : Nat} {S : Nat → Nat} {L : List (Nat × Nat)} (h : MemL w b S L) {cs : List (Nat × Nat)} (hc : IsCells S cs) : sortU (L.map (·.1)) = pgC cs := by
  have k := pgC_ok hc.rise cs.length (Nat.le_refl _)
  have k1 := k.rise; have k2 := k.mem
  rw [List.take_length] at k1 k2
  refine pages_cells h hc k1 fun p => ?_
  rw [k2]
  constructor
  · rintro ⟨j, hj, rfl⟩; exact ⟨_, atL_mem hj, rfl⟩
  · rintro ⟨x, hx, rfl⟩
    obtain ⟨i, hi, rfl⟩ := mem_atL hx
    exact ⟨i, hi, rfl⟩
/-- One number of 32 bits: it lies in a block of its own first. -/
theorem wpU_append1 {w : World} {ops : Array Oper} {rest : List Oper} {o : Oper} {a : Act} {Q : Exit → Act → World → Prop} (hgd : o.guard = none) (s x : Operand)
    (ho : o.op = .call { callee := .builtin .append, args := #[s, x], argTypes := #[55, 55] }) (base : Nat) (v : Value) (pre : List Nat) (c : Nat) (hs : a.eval s = v) (hown : RowU base w v pre)
    (k : Nat) (hx : a.eval x = .slice (some ⟨k, 0, none⟩) 1 1) (hk : k = w.heap.size)
    (hlen : pre.length + 1 ≤ 8589934592) (hbase : base ≤ w.heap.size)
    (h : ∀ v' w', RowU base w' v' (pre ++ [c]) → Below base w w' → wpList Tryd.prog ops Q rest (a.put o.dst v') w') : wpList Tryd.prog ops Q (o :: rest) a (w.alloc (.cells #[.int .u32 ((c : Nat) : Int)] 29)) := by
  subst hk
  obtain ⟨i0, hi, hz0, hz1, hz2⟩ := info_parts infoU32
  refine wpList_append_own _ hgd s x 55 ho base 29 i0 (.int .u32 0) 1 4 Tryd.underlying55 hi hz0 hz1 hz2 rfl (by decide) v pre.length (pre.map u32V) hs (World.ownsRow.alloc hown.1 _) ⟨w.heap.size, 0, none⟩ 1 1 [u32V c] hx rfl (cell_one_new _ _ _)
    (fun u hu => by simp at hu; subst hu; rfl) (by unfold maxLen; omega) (by omega) (by simp; omega) fun v' w' h1 h2 h3 => h v' w' ⟨by rw [List.length_append, List.map_append]; exact h1, ?_⟩ ?_
  · constructor
    · intro e; have := (h3.1 e).2; omega
    · intro e; simp at e
  · refine (((Below.refl base w).alloc hbase _).grown h2 (by simp; omega) fun k hk => ?_)
    exact (World.ownsRow.lt hown.1 k hk.symm.symm).1
set_option maxRecDepth 100000 in
set_option maxHeartbeats 4000000 in
theorem refPages_any (rv : Value) (cs : List (Nat × Nat)) (w : World) (hc : CellsW (fun _ => True) w rv cs) (hn : cs.length ≤ 4294967296) (hok : cellsOk cs) :
    Calls Tryd.prog 28 #[.agg #[rv]] w fun e w' => ∃ v, e = .returned v ∧ RowU w.heap.size w' v (pgC cs) ∧ Adds w w' := by
  have HC := Lib.hid hc; have HN := Lib.hid hn; have HOK := Lib.hid hok
  obtain ⟨ao, cap, rfl, h1, h2, _⟩ := hc
  unfold maxLen at h2
  clear hn hok
  obtain ⟨i0, hi, hz0, hz1, hz2⟩ := info_parts infoU32
  go_enter Tryd.func28, Tryd.ntmps28
  go_wp2_with fail
  obtain ⟨W1, hW1⟩ : ∃ W1, w.alloc (.cells #[.slice ao cs.length cap] 27) = W1 := ⟨_, rfl⟩
  have HA1 := Lib.hid (show Adds w W1 by rw [← hW1]; exact Adds.new _ _)
  have HS1 := Lib.hid (show W1.heap.size = w.heap.size + 1 by rw [← hW1]; simp)
  have HBx := Lib.hid (show W1.cell? ⟨w.heap.size, 0, none⟩ = some (.slice ao cs.length cap) by rw [← hW1]; simp)
  rw [hW1]; clear hW1
  obtain ⟨n0, hn0⟩ : ∃ n0, w.heap.size = n0 := ⟨_, rfl⟩
  have HN0 := Lib.hid hn0
  rw [hn0] at HBx HS1 ⊢
  clear hn0
  go_loopw [3, 4] (fun t3 t4 wr => ∃ i : Nat, i ≤ cs.length ∧ t4 = .int .i64 i ∧ RowU (n0 + 1) wr t3 (pgC (cs.take i)) ∧ Below (n0 + 1) W1 wr) (fun _ t4 _ => cs.length - (intOf t4).toNat)
  case atStart => exact ⟨0, Nat.zero_le _, rfl, ⟨⟨rfl, .inl ⟨rfl, rfl⟩⟩, by simp [pgC]⟩, Below.refl _ _⟩
  case round =>
    obtain ⟨i, hi, rfl, hr, hb⟩ := hrel
    have HR := Lib.hid hr; have HB := Lib.hid hb; have HI := Lib.hid hi
    have HSz := Lib.hid (show n0 + 1 ≤ wr.heap.size by have := hb.size; have := HS1.out; omega)
    have HAr := Lib.hid (show Adds w wr from Adds.trans HA1.out (show Below W1.heap.size W1 wr from HS1.out ▸ hb))
    have HLen := Lib.hid (pgC_len cs i hi)
    clear hr hb hi
    have cx := Adds.cellAt (show Adds W1 wr from (show Below W1.heap.size W1 wr from HS1.out ▸ HB.out)) HBx.out
    by_cases hlt : i < cs.length
    · have hltI : (i : Int) < (cs.length : Int) := by omega
      obtain ⟨g, off, rfl, k0, k1⟩ := cells_read HC.out HAr.out hlt
      have HTk := Lib.hid (pgC_take hlt)
      have HX := Lib.hid (HOK.out.at i).1
      have HLt := Lib.hid hlt
      have HAt := Lib.hid (show cs.getD i (0, 0) = atL cs i from rfl)
      rw [HAt.out] at HX
      clear hlt k1
      obtain ⟨y, hy⟩ : ∃ y, (atL cs i).1 = y := ⟨_, rfl⟩
      rw [hy] at k0 HTk HX
      clear hy
      obtain ⟨out, ho⟩ : ∃ out, pgC (cs.take i) = out := ⟨_, rfl⟩
      rw [ho] at HR HLen HTk
      clear ho
      obtain ⟨ro, rcap, rfl, r1, r2, r3⟩ := rowU_cells HR.out
      have HRc := Lib.hid r3
      unfold maxLen at r2
      clear r3
      have hq : ((y : Nat) : Int) / 4096 % 4294967296 = ((y / 4096 : Nat) : Int) := by have := HX.out; omega
      obtain ⟨q, hqq⟩ : ∃ q, y / 4096 = q := ⟨_, rfl⟩
      rw [hqq] at hq HTk
      clear hqq
      by_cases h0 : out = []
      · subst h0
        have HF := Lib.hid (show pgC (cs.take (i + 1)) = [] ++ [q] by rw [HTk.out]; rfl)
        have hnil := HR.out.2.2 rfl
        simp only [Value.slice.injEq, List.length_nil, true_and] at hnil
        obtain ⟨rfl, rfl⟩ := hnil
        go_wp2_with (at_builtin; (fail_if_success (show wpList _ _ _ ({ dst := some 9, op := _, type := _, pos := _, after := _, guard := _ } :: _) _ _)); (fail_if_success (show wpList _ _ _ ({ dst := some 21, op := _, type := _, pos := _, after := _, guard := _ } :: _) _ _)); (fail_if_success (show wpList _ _ _ ({ dst := some 26, op := _, type := _, pos := _, after := _, guard := _ } :: _) _ _)); go_must (refine wpU_append1 rfl _ _ rfl (n0 + 1) _ ([]) q rfl (by exact HR.out) _ rfl (by simp) (by have := HLen.out; have := HLt.out; have := HN.out; simp; try omega) (by have := HSz.out; omega) ?_; intro v1 w1 hown1 hb1; have HR1 := Lib.hid hown1; have HB1 := Lib.hid hb1; clear hown1 hb1))
        go_roundw
        case rel => exact ⟨i + 1, HLt.out, rfl, by rw [HF.out]; exact HR1.out, Below.trans HB.out HB1.out⟩
        case measure => simp [intOf]; have := HLt.out; omega
      · have hpos : 0 < out.length := List.length_pos_iff.2 h0
        obtain ⟨g2, rfl, _, hrd⟩ := HRc.out h0
        have r0 := hrd (out.length - 1) (by omega)
        have HF := Lib.hid (show pgC (cs.take (i + 1)) = if out.getD (out.length - 1) 0 ≠ q then out ++ [q] else out by rw [HTk.out]; unfold pgStep; simp [h0])
        obtain ⟨z, hz⟩ : ∃ z, out.getD (out.length - 1) 0 = z := ⟨_, rfl⟩
        rw [hz] at r0 HF
        unfold u32V at r0
        have hposI : ¬ ((out.length : Nat) : Int) = 0 := by omega
        clear hz hrd
        by_cases hzq : z = q
        · subst hzq
          rw [if_neg (by simp)] at HF
          go_wp2_with fail
          exact ⟨⟨i + 1, HLt.out, rfl, by rw [HF.out]; exact HR.out, HB.out⟩, by have := HLt.out; simp [intOf]; omega⟩
        · rw [if_pos hzq] at HF
          have hzI : ¬ ((z : Nat) : Int) = ((q : Nat) : Int) := by omega
          have hzB : (((z : Nat) : Int) != ((q : Nat) : Int)) = true := by simp [bne, hzI]
          have h0B : (((out.length : Nat) : Int) == 0) = false := beq_eq_false_iff_ne.2 hposI
          clear hzq
          go_wp2_with (at_builtin; (fail_if_success (show wpList _ _ _ ({ dst := some 9, op := _, type := _, pos := _, after := _, guard := _ } :: _) _ _)); (fail_if_success (show wpList _ _ _ ({ dst := some 21, op := _, type := _, pos := _, after := _, guard := _ } :: _) _ _)); (fail_if_success (show wpList _ _ _ ({ dst := some 26, op := _, type := _, pos := _, after := _, guard := _ } :: _) _ _)); go_must (refine wpU_append1 rfl _ _ rfl (n0 + 1) _ (out) q rfl (by exact HR.out) _ rfl (by simp) (by have := HLen.out; have := HLt.out; have := HN.out; simp; try omega) (by have := HSz.out; omega) ?_; intro v1 w1 hown1 hb1; have HR1 := Lib.hid hown1; have HB1 := Lib.hid hb1; clear hown1 hb1))
          go_roundw
          case rel => exact ⟨i + 1, HLt.out, rfl, by rw [HF.out]; exact HR1.out, Below.trans HB.out HB1.out⟩
          case measure => simp [intOf]; have := HLt.out; omega
    · obtain rfl : i = cs.length := by have := HI.out; omega
      rw [List.take_length] at HR
      clear hlt
      go_wp2_with fail
      go_ret
      exact ⟨_, rfl, HR.out.base (by have := HN0.out; omega), HAr.out⟩
end Go.Proofs.YtleihmmkonakhaaDoor
namespace Go.Proofs.YtleihmmkonakhaaDoor
open Go Go.RowKit Go.Shelf Go.Maps
attribute [local go_sem] Oper.semAt_some

/-- A memory that holds S; all of it is new since w0. -/
structure HasM (w0 w : World) (v : Value) (S : Nat → Nat) : Prop where
  ex : ∃ bm b L, MemP w v S bm b L ∧ ∀ k, footP bm b L k → w0.heap.size ≤ k
  low : Adds w0 w
theorem HasM.adds {w0 w w' : World} {v : Value} {S : Nat → Nat} (h : HasM w0 w v S) (ha : Adds w w') : HasM w0 w' v S := by
  obtain ⟨⟨bm, b, L, h1, h2⟩, h3⟩ := h
  exact ⟨⟨bm, b, L, h1.adds ha, h2⟩, Adds.trans h3 ha⟩
theorem HasM.pages {w0 w : World} {v : Value} {S : Nat → Nat} {cs : List (Nat × Nat)} (h : HasM w0 w v S) (hc : IsCells S cs) :
    Calls Tryd.prog 24 #[v] w fun e w' => ∃ u, e = .returned u ∧ RowU 0 w' u (pgC cs) ∧ Adds w w' := by
  obtain ⟨⟨bm, b, L, h1, h2⟩, h3⟩ := h
  have e := pages_ref h1.mem hc
  refine (pagesM_any bm b v S L w h1).mono ?_
  rintro e' w' ⟨u, h4, h5, h6⟩
  rw [e] at h5
  exact ⟨u, h4, h5.base (Nat.zero_le _), h6⟩
theorem HasM.load {w0 w : World} {v : Value} {S : Nat → Nat} (h : HasM w0 w v S) (a : Nat) (ha : a < 4294967296) :
    Calls Tryd.prog 22 #[v, .int .u32 ((a : Nat) : Int)] w fun e w' => e = .returned (.int .u32 ((S a : Nat) : Int)) ∧ w = w' := by
  obtain ⟨⟨bm, b, L, h1, h2⟩, h3⟩ := h
  exact loadM_any bm b a v S L w ha h1
theorem HasM.len {w0 w : World} {v : Value} {S : Nat → Nat} {cs : List (Nat × Nat)} (h : HasM w0 w v S) (hc : IsCells S cs) :
    Calls Tryd.prog 23 #[v] w fun e w' => e = .returned (.int .i64 ((cs.length : Nat) : Int)) ∧ Adds w w' := by
  obtain ⟨⟨bm, b, L, h1, h2⟩, h3⟩ := h
  exact sumL_cells h1.mem hc ▸ lenM_any bm b v S L w h1
theorem HasM.from {w0 w : World} {v : Value} {S : Nat → Nat} (h : HasM w0 w v S) (a : Nat) :
    Calls Tryd.prog 18 #[v, .int .u32 ((a : Nat) : Int)] w (FromPost S a w) := by
  obtain ⟨⟨bm, b, L, h1, h2⟩, h3⟩ := h
  exact fromM_any bm b a v S L w h1
theorem HasM.word {w0 w : World} {v : Value} {S : Nat → Nat} (h : HasM w0 w v S) : ∀ a, S a < 4294967296 := by
  obtain ⟨⟨bm, b, L, h1, h2⟩, h3⟩ := h
  exact h1.mem.word
theorem isCells_ok {S : Nat → Nat} {cs : List (Nat × Nat)} (h : IsCells S cs) (hS : ∀ a, S a < 4294967296) : cellsOk cs := fun x hx => by
  obtain ⟨h1, h2, _⟩ := (h.mem x).1 hx
  exact ⟨h1, by rw [h2]; exact hS _⟩
theorem cellsW_slice {B : Nat → Prop} {w : World} {v : Value} {l : List (Nat × Nat)} (h : CellsW B w v l) : ∃ p n c, v = .slice p n c := by
  obtain ⟨ao, cap, rfl, _⟩ := h; exact ⟨_, _, _, rfl⟩

theorem cellsW_turn {B : Nat → Prop} {w w' : World} {v s : Value} {l : List (Nat × Nat)} {b : Nat} {t : TypeId} (h : CellsW B w v l) (ht : w.grownBy w' (some b)) (hb : w.heap[b]? = some (.cells #[s] t (0, 0))) : CellsW B w' v l := by
  obtain ⟨ao, cap, h1, h2, h3, h4⟩ := h
  refine ⟨ao, cap, h1, h2, h3, fun hl => ?_⟩
  obtain ⟨g, off, e, hg, hc⟩ := h4 hl
  have hne : some g ≠ some b := fun e => by
    have e' : g = b := Option.some.inj e
    have := (hc 0 (List.length_pos_iff.2 hl)).2
    rw [e', cell_of_row w b _ _ _ _ hb, Array.getElem?_eq_none (by simp)] at this
    cases this
  refine ⟨g, off, e, hg, fun i hi => ?_⟩
  have hlt := World.block_lt_of_cell? w _ (hc i hi).1
  have hbl := ht.block g hlt hne
  unfold World.cell? at hc ⊢
  simp only at hc ⊢
  rw [hbl]
  exact hc i hi
def RegIs (w1 : World) (fl : List (Nat × Nat)) (pg : List Nat) (L2 L4 L6 L7 L8 : Bool) (s9 s19 s21 s23 : Value) (b' fr : Act) (w2 : World) : Prop :=
  b' = fr ∧ Adds w1 w2 ∧ (L2 = true → CellsW (fun _ => True) w2 s19 fl) ∧ (L4 = true → RowU 0 w2 s21 pg) ∧ (L6 = true → RowU 0 w2 s23 pg) ∧
    (L7 = true → ∃ g, s9 = .pointer (some ⟨g, 0, none⟩) ∧ w1.heap.size ≤ g ∧ w2.heap[g]? = some (.cells #[cond L8 s19 (.slice none 0 0)] 22 (0, 0)))

set_option maxRecDepth 100000 in
set_option maxHeartbeats 16000000 in
theorem is_any (vm rv : Value) (S : Nat → Nat) (cs : List (Nat × Nat)) (a : Nat) (ha : a < 4294967296) (m : Int) (w00 w : World) (hM : HasM w00 w vm S) (hR : CellsW (fun _ => True) w rv cs) (hc : IsCells S cs) :
    Calls Tryd.prog 13 #[vm, .agg #[rv], .int .u32 ((a : Nat) : Int), .int .i64 m] w (TrueM w) := by
  have hmo : Tryd.prog.follows .mixedOrders = true := by kernel_rfl
  have HM := Lib.hid hM; have HR := Lib.hid hR; have HC := Lib.hid hc; have HAa := Lib.hid ha
  have HOK := Lib.hid (isCells_ok hc hM.word)
  have HFew := Lib.hid (cells_few hc)
  have HRF := Lib.hid (fun (W : World) (h : Adds w W) => refFrom_any rv cs a W (cells_adds hR h) hc.rise)
  have HPg := Lib.hid (fun (W : World) (h : Adds w W) => (hM.adds h).pages hc)
  have HRP := Lib.hid (fun (W : World) (h : Adds w W) => (refPages_any rv cs W (cells_adds hR h) HFew.out HOK.out).mono (fun e w' ⟨v, h1, h2, h3⟩ => (⟨v, h1, h2.base (Nat.zero_le _), h3⟩ : ∃ v, e = Ending.returned v ∧ RowU 0 w' v (pgC cs) ∧ Adds W w')))
  obtain ⟨fl, hfl⟩ : ∃ fl, (cs.filter fun x => decide (a ≤ x.1)) = fl := ⟨_, rfl⟩
  obtain ⟨pg, hpg⟩ : ∃ pg, pgC cs = pg := ⟨_, rfl⟩
  rw [hfl] at HRF
  rw [hpg] at HPg HRP
  have HFL := Lib.hid hfl
  have HRR := Lib.hid (fun (W : World) (h : Adds w W) => cells_adds hR h)
  obtain ⟨rp, rc, rfl, _⟩ := id hR
  clear hM hc ha hR hfl hpg
  refine (callsIn_wide (n := 9)).1 ?_
  refine callsIn_of_wp_marks Tryd.func13 rfl trivial ?_ rfl
  simp only [Tryd.ntmps13, List.size_toArray, List.length_cons, List.length_nil, Nat.reduceAdd, Nat.reduceSub, Array.replicate_succ, Array.replicate_zero, List.push_toArray, List.append_toArray, List.nil_append, List.cons_append]
  gi_wp2
  obtain ⟨w1, hw1⟩ : ∃ w1, ((w.alloc (.cells #[Value.slice rp cs.length rc] 27)).alloc (.cells #[.int .i64 m] 3)).alloc (.cells #[.bool false] 4) = w1 := ⟨_, rfl⟩
  have A1 := Lib.hid (show Adds w w1 by rw [← hw1]; exact Adds.trans (Adds.new _ _) (Adds.trans (Adds.new _ _) (Adds.new _ _)))
  have HS1 := Lib.hid (show w1.heap.size = w.heap.size + 1 + 1 + 1 by rw [← hw1]; simp)
  have HB0 := Lib.hid (show w1.cell? ⟨w.heap.size, 0, none⟩ = some (Value.slice rp cs.length rc) by rw [← hw1]; exact Adds.cellAt (Adds.trans (Adds.new _ _) (Adds.new _ _)) (by simp))
  have HB1 := Lib.hid (show w1.cell? ⟨w.heap.size + 1, 0, none⟩ = some (.int .i64 m) by rw [← hw1]; refine Adds.cellAt (Adds.new _ _) (cell_of_box_a (t := 3) ?_).1; have := heap_alloc_new (w.alloc (.cells #[Value.slice rp cs.length rc] 27)) (.cells #[.int .i64 m] 3); simpa using this)
  have HB2 := Lib.hid (show w1.heap[w.heap.size + 1 + 1]? = some (.cells #[.bool false] 4 (0, 0)) by rw [← hw1]; have := heap_alloc_new ((w.alloc (.cells #[Value.slice rp cs.length rc] 27)).alloc (.cells #[.int .i64 m] 3)) (.cells #[.bool false] 4); simpa using this)
  rw [hw1]; clear hw1
  obtain ⟨n0, hn0⟩ : ∃ n0, w.heap.size = n0 := ⟨_, rfl⟩
  have HN0 := Lib.hid hn0
  rw [hn0] at HS1 HB0 HB1 HB2 ⊢
  obtain ⟨n1, hn1⟩ : ∃ n1, n0 + 1 = n1 := ⟨_, rfl⟩
  have HN1 := Lib.hid hn1
  rw [hn1] at HS1 HB1 HB2 ⊢
  obtain ⟨n2, hn2⟩ : ∃ n2, n1 + 1 = n2 := ⟨_, rfl⟩
  have HN2 := Lib.hid hn2
  rw [hn2] at HS1 HB2 ⊢
  clear hn0 hn1 hn2
  refine wpIn_region_inv (fun L b' w2 => ∃ s9 s19 s21 s23 : Value, RegIs w1 fl pg (L 2) (L 4) (L 6) (L 7) (L 8) s9 s19 s21 s23 b' ({ tmps := #[vm, Value.agg #[Value.slice rp cs.length rc], Value.int IntKind.u32 ((a : Nat) : Int), Value.int IntKind.i64 m, undef, Value.pointer (some { block := n0, off := 0 }), undef, Value.pointer (some { block := n1, off := 0 }), Value.pointer (some { block := n2, off := 0 }), sel2 (L 7) (s9) (undef), sel2 (L 9) (s21) (undef), sel2 (L 10) (s23) (undef), undef, undef, undef, undef, undef, sel2 (L 0) (Value.agg #[Value.slice rp cs.length rc]) (undef), sel2 (L 1) (Value.int IntKind.u32 ((a : Nat) : Int)) (undef), sel2 (L 2) (s19) (undef), sel2 (L 3) (vm) (undef), sel2 (L 4) (s21) (undef), sel2 (L 5) (Value.agg #[Value.slice rp cs.length rc]) (undef), sel2 (L 6) (s23) (undef), undef, undef, undef, undef, undef, undef, undef, undef, undef, undef, undef, undef, undef, undef, undef, undef, undef, undef, undef, undef, undef, undef, undef, undef, undef, undef, undef, undef, undef, undef, undef, undef, undef, undef, undef, undef, undef, undef, undef, undef, undef, undef, undef, undef, undef, undef, undef, undef, undef, undef, undef, undef, undef, undef, undef, undef, undef, undef, undef, undef, undef, undef, undef, undef, undef, undef, undef, undef, undef, undef, undef, undef, undef, undef, undef, undef, undef, undef, undef, undef, undef], defers := [] }) w2) hmo (by kernel_rfl) ?inv0 ?step ?fin
  case inv0 => exact ⟨undef, undef, undef, undef, rfl, Adds.drew _, fun h => (by cases h), fun h => (by cases h), fun h => (by cases h), fun h => (by cases h)⟩
  case step =>
    rintro L b' w2 i o ho hL hC he ⟨s9, s19, s21, s23, rfl, hA, hP⟩
    have q8 := hC 8 _ rfl
    have q9 := hC 9 _ rfl
    have q10 := hC 10 _ rfl
    simp [Region.binds] at q8 q9 q10
    clear hC
    have HA := Lib.hid hA; have HP := Lib.hid hP
    have d0 := Adds.cellAt (Adds.trans (Adds.refl w1) hA) HB0.out
    clear hA hP
    rcases i with _ | _ | _ | _ | _ | _ | _ | _ | _ | _ | _ | i
    · simp only [List.getElem?_cons_zero, Option.some.injEq] at ho
      subst ho
      try simp [Region.binds] at he
      clear q8 q9 q10
      try simp only []
      gi_wp2
      refine ⟨s9, s19, s21, s23, by simp [sel2, *], HA.out, (by first | exact HP.out.1 | simpa [he] using HP.out.1), (by first | exact HP.out.2.1 | simpa [he] using HP.out.2.1), (by first | exact HP.out.2.2.1 | simpa [he] using HP.out.2.2.1), (by first | exact HP.out.2.2.2 | simpa [he] using HP.out.2.2.2)⟩
    · simp only [List.getElem?_cons_zero, List.getElem?_cons_succ, Option.some.injEq] at ho
      subst ho
      try simp [Region.binds] at he
      clear q8 q9 q10
      try simp only []
      gi_wp2
      refine ⟨s9, s19, s21, s23, by simp [sel2, *], HA.out, (by first | exact HP.out.1 | simpa [he] using HP.out.1), (by first | exact HP.out.2.1 | simpa [he] using HP.out.2.1), (by first | exact HP.out.2.2.1 | simpa [he] using HP.out.2.2.1), (by first | exact HP.out.2.2.2 | simpa [he] using HP.out.2.2.2)⟩
    · simp only [List.getElem?_cons_zero, List.getElem?_cons_succ, Option.some.injEq] at ho
      subst ho
      try simp [Region.binds] at he
      have z8 : L 8 = false := by cases h : L 8 with | false => rfl | true => (have := q8 h; simp [hL] at this)
      clear q8 q9 q10
      simp only [he, sel2_t]
      gi_wp2_with (refine ⟨trivial, ?_⟩; gi_at_call 19; refine (callsIn_wide.2 (HRF.out w2 (Adds.trans A1.out HA.out))).mono ?_; rintro e w3 ⟨s, rfl, hs, hA3⟩; have HA3 := Lib.hid hA3; have HS := Lib.hid hs; clear hs hA3)
      refine ⟨s9, s, s21, s23, by simp [sel2, *], Adds.trans HA.out HA3.out, (fun _ => HS.out), (fun h => (HP.out.2.1 (by first | exact h | simp [he])).adds HA3.out), (fun h => (HP.out.2.2.1 (by first | exact h | simp [he])).adds HA3.out), (fun h => by obtain ⟨g, e1, e2, e3⟩ := HP.out.2.2.2 (by first | exact h | simp [he]); refine ⟨g, e1, e2, ?_⟩; have e4 := (Below.block HA3.out g (Array.getElem?_eq_some_iff.1 e3).1).trans e3; rw [z8] at e4; simpa [z8] using e4)⟩
    · simp only [List.getElem?_cons_zero, List.getElem?_cons_succ, Option.some.injEq] at ho
      subst ho
      try simp [Region.binds] at he
      clear q8 q9 q10
      try simp only []
      gi_wp2
      refine ⟨s9, s19, s21, s23, by simp [sel2, *], HA.out, (by first | exact HP.out.1 | simpa [he] using HP.out.1), (by first | exact HP.out.2.1 | simpa [he] using HP.out.2.1), (by first | exact HP.out.2.2.1 | simpa [he] using HP.out.2.2.1), (by first | exact HP.out.2.2.2 | simpa [he] using HP.out.2.2.2)⟩
    · simp only [List.getElem?_cons_zero, List.getElem?_cons_succ, Option.some.injEq] at ho
      subst ho
      try simp [Region.binds] at he
      have z9 : L 9 = false := by cases h : L 9 with | false => rfl | true => (have := q9 h; simp [hL] at this)
      clear q8 q9 q10
      simp only [he, sel2_t]
      gi_wp2_with (refine ⟨trivial, ?_⟩; gi_at_call 24; refine (callsIn_wide.2 (HPg.out w2 (Adds.trans A1.out HA.out))).mono ?_; rintro e w3 ⟨s, rfl, hs, hA3⟩; have HA3 := Lib.hid hA3; have HS := Lib.hid hs; clear hs hA3)
      refine ⟨s9, s19, s, s23, by simp [sel2, *], Adds.trans HA.out HA3.out, (fun h => cells_adds (HP.out.1 (by first | exact h | simp [he])) HA3.out), (fun _ => HS.out), (fun h => (HP.out.2.2.1 (by first | exact h | simp [he])).adds HA3.out), (fun h => by obtain ⟨g, e1, e2, e3⟩ := HP.out.2.2.2 (by first | exact h | simp [he]); exact ⟨g, e1, e2, (Below.block HA3.out g (Array.getElem?_eq_some_iff.1 e3).1).trans e3⟩)⟩
    · simp only [List.getElem?_cons_zero, List.getElem?_cons_succ, Option.some.injEq] at ho
      subst ho
      try simp [Region.binds] at he
      clear q8 q9 q10
      try simp only []
      gi_wp2
      refine ⟨s9, s19, s21, s23, by simp [sel2, *], HA.out, (by first | exact HP.out.1 | simpa [he] using HP.out.1), (by first | exact HP.out.2.1 | simpa [he] using HP.out.2.1), (by first | exact HP.out.2.2.1 | simpa [he] using HP.out.2.2.1), (by first | exact HP.out.2.2.2 | simpa [he] using HP.out.2.2.2)⟩
    · simp only [List.getElem?_cons_zero, List.getElem?_cons_succ, Option.some.injEq] at ho
      subst ho
      try simp [Region.binds] at he
      have z10 : L 10 = false := by cases h : L 10 with | false => rfl | true => (have := q10 h; simp [hL] at this)
      clear q8 q9 q10
      simp only [he, sel2_t]
      gi_wp2_with (refine ⟨trivial, ?_⟩; gi_at_call 28; refine (callsIn_wide.2 (HRP.out w2 (Adds.trans A1.out HA.out))).mono ?_; rintro e w3 ⟨s, rfl, hs, hA3⟩; have HA3 := Lib.hid hA3; have HS := Lib.hid hs; clear hs hA3)
      refine ⟨s9, s19, s21, s, by simp [sel2, *], Adds.trans HA.out HA3.out, (fun h => cells_adds (HP.out.1 (by first | exact h | simp [he])) HA3.out), (fun h => (HP.out.2.1 (by first | exact h | simp [he])).adds HA3.out), (fun _ => HS.out), (fun h => by obtain ⟨g, e1, e2, e3⟩ := HP.out.2.2.2 (by first | exact h | simp [he]); exact ⟨g, e1, e2, (Below.block HA3.out g (Array.getElem?_eq_some_iff.1 e3).1).trans e3⟩)⟩
    · simp only [List.getElem?_cons_zero, List.getElem?_cons_succ, Option.some.injEq] at ho
      subst ho
      try simp [Region.binds] at he
      have z8 : L 8 = false := by cases h : L 8 with | false => rfl | true => (have := q8 h; simp [hL] at this)
      clear q8 q9 q10
      gi_wp2
      refine ⟨.pointer (some ⟨w2.heap.size, 0, none⟩), s19, s21, s23, by simp [sel2, *], Adds.trans HA.out (Adds.new _ _), (fun h => cells_adds (HP.out.1 (by first | exact h | simp [he])) (Adds.new _ _)), (fun h => (HP.out.2.1 (by first | exact h | simp [he])).adds (Adds.new _ _)), (fun h => (HP.out.2.2.1 (by first | exact h | simp [he])).adds (Adds.new _ _)), (fun _ => ⟨_, rfl, Below.size HA.out, by have e := heap_alloc_new w2 (.cells #[.slice none 0 0] 22); simpa [z8] using e⟩)⟩
    · simp only [List.getElem?_cons_zero, List.getElem?_cons_succ, Option.some.injEq] at ho
      subst ho
      try simp [Region.binds] at he
      clear q8 q9 q10
      have p7 : L 7 = true := by simp [he]
      have p2 : L 2 = true := by simp [he]
      obtain ⟨g, rfl, e2, e3⟩ := HP.out.2.2.2 p7
      rw [hL] at e3
      obtain ⟨p, k, c, rfl⟩ := cellsW_slice (HP.out.1 p2)
      simp only [p7, p2, sel2_t]
      have HE3 := Lib.hid (show w2.heap[g]? = some (.cells #[.slice none 0 0] 22 (0, 0)) by simpa using e3)
      have c9 := (cell_of_box_a HE3.out).1
      have f9 := (cell_of_box_a HE3.out).2
      have HE2 := Lib.hid e2
      clear e2 e3
      gi_wp2
      have HT := Lib.hid (Turns.setCell g 0 w2 (.slice p k c))
      have HK := Lib.hid (fun (xs : List Nat) (s : Value) (h : RowU 0 w2 s xs) => (h.kept HT.out (fun r e => by cases e; exact ⟨_, HE3.out, fun cur e => by injection e with _ h; exact absurd h (by decide)⟩) : RowU 0 (w2.setCell ⟨g, 0, none⟩ (.slice p k c)) s xs))
      have HCK := Lib.hid (cellsW_turn (HP.out.1 p2) HT.out HE3.out)
      have hbx := heap_setCell_box_a (.slice p k c) HE3.out
      refine ⟨.pointer (some ⟨g, 0, none⟩), .slice p k c, s21, s23, by simp [sel2, *], Below.grown HA.out HT.out (Below.size HA.out) (fun k e => by cases e; exact HE2.out), (fun _ => HCK.out), (fun h => HK.out _ _ (HP.out.2.1 (by first | exact h | simp [he]))), (fun h => HK.out _ _ (HP.out.2.2.1 (by first | exact h | simp [he]))), (fun _ => ⟨g, rfl, HE2.out, by simpa using hbx⟩)⟩
    · simp only [List.getElem?_cons_zero, List.getElem?_cons_succ, Option.some.injEq] at ho
      subst ho
      try simp [Region.binds] at he
      clear q8 q9 q10
      try simp only [he, sel2_t]
      gi_wp2
      refine ⟨s9, s19, s21, s23, by simp [sel2, *], HA.out, (by first | exact HP.out.1 | simpa [he] using HP.out.1), (by first | exact HP.out.2.1 | simpa [he] using HP.out.2.1), (by first | exact HP.out.2.2.1 | simpa [he] using HP.out.2.2.1), (by first | exact HP.out.2.2.2 | simpa [he] using HP.out.2.2.2)⟩
    · simp only [List.getElem?_cons_zero, List.getElem?_cons_succ, Option.some.injEq] at ho
      subst ho
      try simp [Region.binds] at he
      clear q8 q9 q10
      try simp only [he, sel2_t]
      gi_wp2
      refine ⟨s9, s19, s21, s23, by simp [sel2, *], HA.out, (by first | exact HP.out.1 | simpa [he] using HP.out.1), (by first | exact HP.out.2.1 | simpa [he] using HP.out.2.1), (by first | exact HP.out.2.2.1 | simpa [he] using HP.out.2.2.1), (by first | exact HP.out.2.2.2 | simpa [he] using HP.out.2.2.2)⟩
    · simp at ho
  case fin =>
    rintro b w2 ⟨s9, s19, s21, s23, rfl, hA, h19, h21, h23, h9⟩
    simp only [List.length_cons, List.length_nil, Nat.reduceAdd, Nat.reduceLT, decide_true, sel2_t]
    obtain ⟨g9, rfl, hg9, hx9⟩ := h9 rfl
    simp only [] at hx9
    have H19 := Lib.hid (h19 rfl); have H21 := Lib.hid (h21 rfl); have H23 := Lib.hid (h23 rfl); have HA2 := Lib.hid hA; have HX9 := Lib.hid hx9; have HG9 := Lib.hid hg9
    obtain ⟨ao9, cap9, rfl, _⟩ := id (h19 rfl)
    obtain ⟨ao21, cap21, rfl, hl21, hm21, hc21⟩ := rowU_cells (h21 rfl)
    obtain ⟨ao23, cap23, rfl, hl23, hm23, hc23⟩ := rowU_cells (h23 rfl)
    have HC21 := Lib.hid hc21; have HC23 := Lib.hid hc23
    unfold maxLen at hm21 hm23
    clear h19 h21 h23 h9 hA hx9 hg9 hc21 hc23
    have HFr := Lib.hid ((HM.out.adds (Adds.trans A1.out HA2.out)).from a)
    gi_wp2_with (refine ⟨trivial, ?_⟩; gi_at_call 18; refine (callsIn_wide.2 HFr.out).mono ?_; rintro e w3 ⟨fv, rfl, h4, h5⟩; obtain ⟨b, L, B1, B2, rfl, q1, q2, q3, _⟩ := h4; have Q1 := Lib.hid q1; have Q2 := Lib.hid (And.intro q2 q3); have HA3 := Lib.hid h5; clear q1 q2 q3 h5)
    have HAll := Lib.hid (Adds.trans A1.out (Adds.trans HA2.out HA3.out))
    have HA13 := Lib.hid (Adds.trans HA2.out HA3.out)
    have HLn := Lib.hid (fun (W : World) (h : Adds w3.drew W) => (HM.out.adds (Adds.trans HAll.out (Adds.trans (Adds.drew w3) h))).len HC.out)
    have HLd := Lib.hid (fun (W : World) (h : Adds w3.drew W) => ((HM.out.adds (Adds.trans HAll.out (Adds.trans (Adds.drew w3) h))).load a HAa.out).mono (fun e w' ⟨h1, h2⟩ => (⟨h1, h2 ▸ Adds.refl _⟩ : e = Ending.returned (.int .u32 ((S a : Nat) : Int)) ∧ Adds W w')))
    have HRl := Lib.hid (fun (W : World) (h : Adds w3.drew W) => refLoad_any (.slice rp cs.length rc) S cs a W (HRR.out W (Adds.trans HAll.out (Adds.trans (Adds.drew w3) h))) HC.out HAa.out)
    have HD0 := Lib.hid (fun (W : World) (h : Adds w3.drew W) => (Adds.trans HA13.out (Adds.trans (Adds.drew w3) h)).cellAt HB0.out)
    refine wpIn_wide.2 ?_
    refine wp_region_loose [] (fun _ _ _ => True) Adds (by kernel_rfl) (by kernel_rfl) (by simp) Adds.refl (fun _ _ _ h k => Adds.trans h k) (fun _ _ _ _ _ _ => trivial) ?_
    repeat (refine wpL_step (fun K hK => ?_); first
      | (refine stepL_ex rfl rfl rfl Adds.refl (fun w' hw' => rfl) ?_; go_simp; refine hK _ ?_; clear hK K)
      | (refine stepL_ex (v := .slice rp cs.length rc) rfl rfl rfl Adds.refl ?_ ?_; (· (intro w' hw'; clear hK; have hc := HD0.out w' hw'; go_simp)); go_simp; refine hK _ ?_; clear hK K)
      | (refine stepL_ex (v := .int .i64 ((cs.length : Nat) : Int)) rfl rfl rfl Adds.refl ?_ ?_; (· (intro w' hw'; clear hK; go_simp)); go_simp; refine hK _ ?_; clear hK K)
      | (refine stepL_ex (v := .int .i64 ((pg.length : Nat) : Int)) rfl rfl rfl Adds.refl ?_ ?_; (· (intro w' hw'; clear hK; go_simp)); go_simp; refine hK _ ?_; clear hK K)
      | (refine stepL_ex (v := .agg #[.slice rp cs.length rc]) rfl rfl rfl Adds.refl ?_ ?_; (· (intro w' hw'; clear hK; have hc := HD0.out w' hw'; go_simp)); go_simp; refine hK _ ?_; clear hK K)
      | (refine stepL_call (f := 23) (args := #[vm]) rfl rfl rfl ?_ (fun w' hw' => HLn.out w' hw') ?_; (· (intro w'; clear hK; go_simp)); go_simp; refine hK _ ?_; clear hK K)
      | (refine stepL_call (f := 22) (args := #[vm, .int .u32 ((a : Nat) : Int)]) rfl rfl rfl ?_ (fun w' hw' => HLd.out w' hw') ?_; (· (intro w'; clear hK; go_simp)); go_simp; refine hK _ ?_; clear hK K)
      | (refine stepL_call (f := 29) (args := #[.agg #[.slice rp cs.length rc], .int .u32 ((a : Nat) : Int)]) rfl rfl rfl ?_ (fun w' hw' => HRl.out w' hw') ?_; (· (intro w'; clear hK; go_simp)); go_simp; refine hK _ ?_; clear hK K))
    refine wpL_nil ?_
    intro w4 a4
    simp only [forL]
    have HA4 := Lib.hid (Adds.trans HA13.out (Adds.trans (Adds.drew w3) a4))
    have HA34 := Lib.hid (Adds.trans (Adds.drew w3) a4)
    clear a4 HLn HLd HRl HD0 HFr HPg HRF HRP
    gi_wp2
    gi_loopw [13] (fun t13 wr => ∃ i : Nat, i ≤ pg.length ∧ t13 = .int .i64 i ∧ Adds w4 wr) (fun t13 _ => pg.length - (intOf t13).toNat)
    case atStart => exact ⟨0, Nat.zero_le _, rfl, Adds.refl _⟩
    case round =>
      obtain ⟨i, hi, rfl, hA⟩ := hrel
      have HI := Lib.hid hi; have HAr := Lib.hid hA
      clear hi hA
      by_cases hlt : i < pg.length
      · have hltI : (i : Int) < (pg.length : Int) := by omega
        have hne : pg ≠ [] := by rintro rfl; simp at hlt
        obtain ⟨g21, rfl, _, c21⟩ := HC21.out hne
        obtain ⟨g23, rfl, _, c23⟩ := HC23.out hne
        have k21 := Adds.cellAt (Adds.trans HA3.out (Adds.trans HA34.out HAr.out)) (c21 i hlt)
        have k23 := Adds.cellAt (Adds.trans HA3.out (Adds.trans HA34.out HAr.out)) (c23 i hlt)
        unfold u32V at k21 k23
        obtain ⟨p, hp⟩ : ∃ p, pg.getD i 0 = p := ⟨_, rfl⟩
        rw [hp] at k21 k23
        have HLt := Lib.hid hlt
        clear hlt hne c21 c23 hp
        gi_wp2
        gi_quiet (fail)
        gi_wp2
        go_roundw
        case rel => exact ⟨i + 1, HLt.out, rfl, Adds.trans HAr.out (Adds.drewN _ _)⟩
        case measure => simp [intOf]; have := HLt.out; omega
      · obtain rfl : i = pg.length := by have := HI.out; omega
        clear hlt
        gi_wp2
        obtain ⟨w5, hw5⟩ : ∃ w5, wr.alloc (.cells #[.int .i64 0] 3) = w5 := ⟨_, rfl⟩
        have HA5 := Lib.hid (show Adds w4 w5 by rw [← hw5]; exact Adds.trans HAr.out (Adds.new _ _))
        have HN5 := Lib.hid (show w5.heap.size = wr.heap.size + 1 by rw [← hw5]; simp)
        have HX5 := Lib.hid (show w5.heap[wr.heap.size]? = some (.cells #[.int .i64 (([] : List (Nat × Nat)).length : Nat)] 3 (0, 0)) by rw [← hw5]; exact heap_alloc_new _ _)
        have HSz := Lib.hid (show w3.heap.size ≤ wr.heap.size from Nat.le_trans HA34.out.size HAr.out.size)
        rw [hw5]; clear hw5
        obtain ⟨B14, hB14⟩ : ∃ B, wr.heap.size = B := ⟨_, rfl⟩
        rw [hB14] at HN5 HX5 HSz ⊢
        clear hB14 HAr HI
        have HA35 := Lib.hid (Adds.trans HA34.out HA5.out)
        have HA25 := Lib.hid (Adds.trans HA3.out HA35.out)
        have HM5 := Lib.hid (Q1.out.adds HA35.out)
        have hfull : psL S a (sortU (L.map (·.1))) = fl := by rw [from_cells Q1.out HC.out a]; exact HFL.out
        have HSQ := Lib.hid (from_seqS 8 (by omega) B1 B2 b (fun k => k = B14) S L a HAa.out w5 (fun k h => by rw [h, HN5.out]; omega) (fun h => by have := World.block_lt_of_cell? w3 _ Q2.out.1; simp at this; have := HSz.out; omega) (fun h => by have := World.block_lt_of_cell? w3 _ Q2.out.2; simp at this; have := HSz.out; omega)
          (fun x hx h => by have := Q1.out.foot_lt (k := x.2) (.inr (List.mem_map.2 ⟨x, hx, rfl⟩)); have := HSz.out; omega) (HA35.out.cellAt Q2.out.1) (HA35.out.cellAt Q2.out.2) HM5.out)
        rw [hfull] at HSQ
        have HBb := Lib.hid (show b < B14 from Nat.lt_of_lt_of_le Q1.out.map.lt HSz.out)
        have HBl := Lib.hid (show B14 < w5.heap.size by rw [HN5.out]; omega)
        have H5 := Lib.hid (cells_adds H19.out HA25.out)
        have HX95 := Lib.hid ((Below.block HA25.out g9 (Array.getElem?_eq_some_iff.1 HX9.out).1).trans HX9.out)
        have HG9B := Lib.hid (show g9 ≠ B14 by have := (Array.getElem?_eq_some_iff.1 HX9.out).1; have := HA3.out.size; have := HSz.out; omega)
        have HB15 := Lib.hid ((Adds.trans HA2.out HA25.out).cellAt HB1.out)
        have HN1B := Lib.hid (show n1 ≠ B14 by have h0 : n1 < w1.heap.size := World.block_lt_of_cell? w1 _ HB1.out; have := HA2.out.size; have := HA3.out.size; have := HSz.out; omega)
        have HB25 := Lib.hid ((Below.block (Adds.trans HA2.out HA25.out) n2 (Array.getElem?_eq_some_iff.1 HB2.out).1).trans HB2.out)
        have HN2B := Lib.hid (show n2 ≠ B14 by have := (Array.getElem?_eq_some_iff.1 HB2.out).1; have := HA2.out.size; have := HA3.out.size; have := HSz.out; omega)
        clear hfull Q1 Q2 H19 HX9 HB1 HB2 HC21 HC23 H21 H23 HM5
        refine' rangeFunc_S rfl (by omega) (gf := 49) (lb := #[.pointer (some ⟨B1, 0, none⟩), .pointer (some ⟨B2, 0, none⟩)]) rfl trivial (enters_of Tryd.func49 (by kernel_rfl) rfl) HSQ.out
          KeepF.trans (fun W l o o' hl h hc _ => KeepF.put W l o o' h hc (by have := HBb.out; have := HBl.out; omega)) (Below.refl _ _) (fun _ => rfl)
          (fun pre V => V.heap[B14]? = some (.cells #[.int .i64 (pre.length : Nat)] 3 (0, 0)) ∧ Turns B14 w5 V ∧ (pre = [] ∨ (pre.length : Int) < m))
          (fun c pre V => c = .exit 2 ∧ V.heap[B14]? = some (.cells #[.int .i64 (pre.length : Nat)] 3 (0, 0)) ∧ Turns B14 w5 V ∧ (pre.length : Int) = max 1 m) ?own ?ownx ?h0 _ ?assign ?body ?done ?stop
        case assign =>
          intro l2 x W2 K hK
          have HK := Lib.hid hK; clear hK
          gi_wp2
          exact HK.out
        case own => exact fun z A C hs hb => ⟨(hb.block B14 HBl.out).trans hs.1, ⟨hb.os.trans hs.2.1.os, hb.tape.trans hs.2.1.tape, hb.output.trans hs.2.1.output, Nat.le_trans hs.2.1.size hb.size, fun k hk hne => (hb.block k hk).trans (hs.2.1.block k hk hne)⟩, hs.2.2⟩
        case ownx => exact fun cc z A C hs hb => ⟨hs.1, (hb.block B14 HBl.out).trans hs.2.1, ⟨hb.os.trans hs.2.2.1.os, hb.tape.trans hs.2.2.1.tape, hb.output.trans hs.2.2.1.output, Nat.le_trans hs.2.2.1.size hb.size, fun k hk hne => (hb.block k hk).trans (hs.2.2.1.block k hk hne)⟩, hs.2.2.2⟩
        case h0 => exact ⟨HX5.out, Turns.refl _ _, .inl rfl⟩
        case body =>
          rintro l2 pre ⟨x1, x2⟩ V ⟨hv1, hv2, hv3⟩ ⟨r, hr⟩
          have hlen : pre.length < fl.length := by rw [hr]; simp
          obtain ⟨g, off, rfl, k0, k1⟩ := cells_read H5.out (Adds.refl _) hlen
          have hat : atL fl pre.length = (x1, x2) := by unfold atL; rw [hr]; simp [List.getD_eq_getElem?_getD]
          rw [hat] at k0 k1
          simp only at k0 k1
          have hgB : g ≠ B14 := fun e => by
            have h1 := HX5.out
            rw [e, cell_of_row w5 _ _ _ _ _ h1] at k1
            rw [Array.getElem?_eq_none (by simp)] at k1
            cases k1
          have k0v := turns_cell hv2 hgB k0
          have k1v := turns_cell hv2 hgB k1
          have c9 := (cell_of_box_a ((hv2.block g9 (Array.getElem?_eq_some_iff.1 HX95.out).1 (fun e => HG9B.out (Option.some.inj e))).trans HX95.out)).1
          have c14 := (cell_of_box_a hv1).1
          have f14 := (cell_of_box_a hv1).2
          have c7 := turns_cell hv2 HN1B.out HB15.out
          have HV := Lib.hid (And.intro hv1 (And.intro hv2 hv3))
          have HR2 := Lib.hid hr
          obtain ⟨n, hn⟩ : ∃ n, pre.length = n := ⟨_, rfl⟩
          have HNn := Lib.hid hn
          obtain ⟨N, hN⟩ : ∃ N, fl.length = N := ⟨_, rfl⟩
          have HNN := Lib.hid hN
          rw [hn] at k0v k1v c14 hlen
          rw [hN] at c9 hlen
          have hlI : ¬ ((N : Int) ≤ (n : Int)) := by omega
          have hlI2 : (n : Int) < (N : Int) := by omega
          have hn9 : (N : Int) ≤ 4294967296 := by have h1 := HFew.out; have h2 : fl.length ≤ cs.length := by rw [← HFL.out]; exact List.length_filter_le _ _
                                                  omega
          have c7s : (V.setCell ⟨B14, 0, none⟩ (.int .i64 ((n : Int) + 1))).cell? ⟨n1, 0, none⟩ = some (.int .i64 m) := turns_cell (Turns.setCell B14 0 V _) HN1B.out c7
          clear hv1 hv2 hv3 hr k0 k1 hat hn hN hlen
          by_cases hmx : m ≤ (n : Int) + 1
          · gi_wp2
            have ht := Turns.setCell B14 0 V (.int .i64 ((n : Int) + 1))
            have hx := heap_setCell_box_a (.int .i64 ((n : Int) + 1)) HV.out.1
            have hln : ((pre ++ [(x1, x2)]).length : Int) = (n : Int) + 1 := by rw [List.length_append, HNn.out]; simp
            have hkf : KeepsFrom w5.heap.size V (V.setCell ⟨B14, 0, none⟩ (.int .i64 ((n : Int) + 1))) := ⟨ht.size, fun k o hk ho hc => (ht.block k (Array.getElem?_eq_some_iff.1 ho).1 (fun e => by cases e; have := HBl.out; omega)).trans ho⟩
            have hp3 := HV.out.2.2
            exact ⟨hkf, rfl, by rw [hln]; exact hx, HV.out.2.1.trans ht, by rw [hln]; rcases hp3 with h | h; (· rw [h] at HNn; have := HNn.out; simp at this; omega); (· rw [HNn.out] at h; omega)⟩
          · gi_wp2
            have ht := Turns.setCell B14 0 V (.int .i64 ((n : Int) + 1))
            have hx := heap_setCell_box_a (.int .i64 ((n : Int) + 1)) HV.out.1
            have hln : ((pre ++ [(x1, x2)]).length : Int) = (n : Int) + 1 := by rw [List.length_append, HNn.out]; simp
            have hkf : KeepsFrom w5.heap.size V (V.setCell ⟨B14, 0, none⟩ (.int .i64 ((n : Int) + 1))) := ⟨ht.size, fun k o hk ho hc => (ht.block k (Array.getElem?_eq_some_iff.1 ho).1 (fun e => by cases e; have := HBl.out; omega)).trans ho⟩
            exact ⟨hkf, ⟨fun k c e f hk hc => (ht.block k (Array.getElem?_eq_some_iff.1 hc).1 (fun e => by cases e; exact hk rfl)).trans hc, ht.block b (by have := HBb.out; have := HBl.out; have := HV.out.2.1.size; omega) (fun e => by cases e; have := HBb.out; omega)⟩, by rw [hln]; exact hx, HV.out.2.1.trans ht, .inr (by rw [hln]; omega)⟩
        case done =>
          rintro D xs W2 hD rfl ⟨hv1, hv2, hv3⟩ hK
          obtain ⟨N, hN⟩ : ∃ N, xs.length = N := ⟨_, rfl⟩
          have hn9 : (N : Int) ≤ 4294967296 := by have h1 := HFew.out; have h2 : xs.length ≤ cs.length := by rw [← HFL.out]; exact List.length_filter_le _ _
                                                  omega
          have hmin : min (N : Int) (max 1 m) = (N : Int) := by
            rcases hv3 with h | h
            · rw [h] at hN; simp at hN; omega
            · omega
          have c9 := (cell_of_box_a ((hv2.block g9 (Array.getElem?_eq_some_iff.1 HX95.out).1 (fun e => HG9B.out (Option.some.inj e))).trans HX95.out)).1
          have c14 := (cell_of_box_a hv1).1
          have c7 := turns_cell hv2 HN1B.out HB15.out
          have hb8 := (hv2.block n2 (Array.getElem?_eq_some_iff.1 HB25.out).1 (fun e => HN2B.out (Option.some.inj e))).trans HB25.out
          have c8 := (cell_of_box_a hb8).1
          have f8 := (cell_of_box_a hb8).2
          have HV := Lib.hid hv2; have HB8 := Lib.hid hb8; have HKD := Lib.hid hK; have HDd := Lib.hid hD
          rw [hN] at c9
          rw [hN] at c14
          clear hv1 hv2 hv3 hb8 hK hD hN
          gi_wp2
          show LeavesInM _ _ _ _ _ _ _ _ _
          have hn2 : n2 < w5.heap.size := (Array.getElem?_eq_some_iff.1 HB25.out).1
          have hne : D ≠ n2 := by have := HDd.out; omega
          have hb9 := heap_setCell_box_a (.bool true) HB8.out
          refine marks_leave (B := w5.heap.size) (C := (W2.setCell ⟨n2, 0, none⟩ (.bool true)).heap.size) _ _ ⟨D, rfl, HDd.out, by simp [World.setCell]; exact (Array.getElem?_eq_some_iff.1 HKD.out).1, (Below.heap_setCell W2 _ _ D hne).trans HKD.out, trivial⟩ fun W' hW' => ⟨.bool true, results_box rfl Tryd.underlying4 _ _ _ (.bool true) rfl (cell_of_box_a ((hW'.block _ hn2).trans hb9)).1, rfl, ?_⟩
          have h1 : Adds w w5 := Adds.trans HAll.out HA35.out
          have h2 : Below w.heap.size w W2 := Below.grown h1 HV.out h1.size (fun k e => by cases e; have := HSz.out; have := HAll.out.size; omega)
          exact (Below.setCell h2 (p := ⟨n2, 0, none⟩) (by show w.heap.size ≤ n2; have := HN0.out; have := HN1.out; have := HN2.out; omega) _).trans (hW'.mono h1.size)
        case stop =>
          rintro D c pre W2 hD ⟨r, hr⟩ ⟨rfl, hv1, hv2, hv3⟩ hK
          have hle : pre.length ≤ fl.length := by rw [hr]; simp
          obtain ⟨N, hN⟩ : ∃ N, fl.length = N := ⟨_, rfl⟩
          have hn9 : (N : Int) ≤ 4294967296 := by have h1 := HFew.out; have h2 : fl.length ≤ cs.length := by rw [← HFL.out]; exact List.length_filter_le _ _
                                                  omega
          obtain ⟨n, hn⟩ : ∃ n, pre.length = n := ⟨_, rfl⟩
          have hmin : min (N : Int) (max 1 m) = (n : Int) := by omega
          have c9 := (cell_of_box_a ((hv2.block g9 (Array.getElem?_eq_some_iff.1 HX95.out).1 (fun e => HG9B.out (Option.some.inj e))).trans HX95.out)).1
          have c14 := (cell_of_box_a hv1).1
          have c7 := turns_cell hv2 HN1B.out HB15.out
          have hb8 := (hv2.block n2 (Array.getElem?_eq_some_iff.1 HB25.out).1 (fun e => HN2B.out (Option.some.inj e))).trans HB25.out
          have c8 := (cell_of_box_a hb8).1
          have f8 := (cell_of_box_a hb8).2
          have HV := Lib.hid hv2; have HB8 := Lib.hid hb8; have HKD := Lib.hid hK; have HDd := Lib.hid hD
          rw [hN] at c9
          rw [hn] at c14
          clear hle hr hn
          clear hv1 hv2 hv3 hb8 hK hD hN
          gi_wp2
          show LeavesInM _ _ _ _ _ _ _ _ _
          have hn2 : n2 < w5.heap.size := (Array.getElem?_eq_some_iff.1 HB25.out).1
          have hne : D ≠ n2 := by have := HDd.out; omega
          have hb9 := heap_setCell_box_a (.bool true) HB8.out
          refine marks_leave (B := w5.heap.size) (C := (W2.setCell ⟨n2, 0, none⟩ (.bool true)).heap.size) _ _ ⟨D, rfl, HDd.out, by simp [World.setCell]; exact (Array.getElem?_eq_some_iff.1 HKD.out).1, (Below.heap_setCell W2 _ _ D hne).trans HKD.out, trivial⟩ fun W' hW' => ⟨.bool true, results_box rfl Tryd.underlying4 _ _ _ (.bool true) rfl (cell_of_box_a ((hW'.block _ hn2).trans hb9)).1, rfl, ?_⟩
          have h1 : Adds w w5 := Adds.trans HAll.out HA35.out
          have h2 : Below w.heap.size w W2 := Below.grown h1 HV.out h1.size (fun k e => by cases e; have := HSz.out; have := HAll.out.size; omega)
          exact (Below.setCell h2 (p := ⟨n2, 0, none⟩) (by show w.heap.size ≤ n2; have := HN0.out; have := HN1.out; have := HN2.out; omega) _).trans (hW'.mono h1.size)
end Go.Proofs.YtleihmmkonakhaaDoor
namespace Go.Proofs.YtleihmmkonakhaaDoor
open Go Go.RowKit Go.Shelf Go.Maps

def KeepT (w w' : World) : Prop := ∀ (g : Nat) (vals : Array Value) (t : TypeId), t ≠ 76 → w.heap[g]? = some (.cells vals t (0, 0)) → w'.heap[g]? = some (.cells vals t (0, 0))
theorem KeepT.a {w w' : World} (h : KeepT w w') : KeepA w w' := fun g vals hg => h g vals _ (by decide) hg
theorem KeepT.trans {u v w : World} (h : KeepT u v) (k : KeepT v w) : KeepT u w := fun g vals t ht hg => k g vals t ht (h g vals t ht hg)
theorem KeepT.of_adds {w w' : World} (h : Adds w w') : KeepT w w' := fun g _ _ _ hg => (Below.block h g (Array.getElem?_eq_some_iff.1 hg).1).trans hg
theorem frm_keepT {w w' : World} {b : Nat} {S : Nat → Nat} {L : List (Nat × Nat)} (h : MemL w b S L) (f : Frm (foot b L) w w') : KeepT w w' := fun g vals t ht hg =>
  (f.block g (Array.getElem?_eq_some_iff.1 hg).1 (by
    rintro (rfl | hk)
    · obtain ⟨n, es, ⟨es0, clock, h0, _⟩, _⟩ := h.map
      rw [h0] at hg; cases hg
    · obtain ⟨x, hx, rfl⟩ := List.mem_map.1 hk
      have hp := (h.page x hx).2.1
      unfold PBlk at hp
      rw [hp] at hg
      have h2 : (76 : Nat) = t := by
        have := Option.some.inj hg
        injection this
      exact ht h2.symm)).trans hg
theorem HasM.turn {w0 w w' : World} {v : Value} {S : Nat → Nat} {n : Nat} {cur : Array Value} (h : HasM w0 w v S) (ht : w.grownBy w' (some n)) (hn : w.heap[n]? = some (.cells cur 27 (0, 0))) (hlow : w0.heap.size ≤ n) : HasM w0 w' v S := by
  obtain ⟨⟨bm, b, L, h1, h2⟩, h3⟩ := h
  refine ⟨⟨bm, b, L, h1.same fun k hk => ht.block k (h1.foot_lt hk) (fun e => ?_), h2⟩, Below.grown h3 ht h3.size (fun k e => by cases e; exact hlow)⟩
  have e' : k = n := Option.some.inj e
  subst e'
  rcases hk with rfl | rfl | hk
  · rw [h1.cell] at hn
    have h9 : (52 : Nat) = 27 := by
      have := Option.some.inj hn
      injection this
    exact absurd h9 (by decide)
  · obtain ⟨n, es, ⟨es0, clock, h0, _⟩, _⟩ := h1.mem.map
    rw [h0] at hn; cases hn
  · obtain ⟨x, hx, rfl⟩ := List.mem_map.1 hk
    have hp := (h1.mem.page x hx).2.1
    unfold PBlk at hp
    rw [hp] at hn
    have h9 : (76 : Nat) = 27 := by
      have := Option.some.inj hn
      injection this
    exact absurd h9 (by decide)
/-- A store into a memory, whatever list of cells. -/
theorem HasM.store {w0 w1 w : World} {vm lv : Value} {S : Nat → Nat} {l : List (Nat × Nat)} (h : HasM w0 w1 vm S) (ha : Adds w1 w) (hl : CellsW (fun g => g < w0.heap.size ∨ w1.heap.size ≤ g) w lv l) (hok : cellsOk l) :
    Calls Tryd.prog 12 #[vm, lv] w fun e w' => e = .returned (.int .i64 0) ∧ HasM w0 w' vm (storeAll S l) ∧ KeepT w w' := by
  obtain ⟨⟨bm, b, L, h1, h2⟩, h3⟩ := h
  have k1 := h1.adds ha
  refine (storeM_any bm b vm lv l S L w k1 (hl.mono fun g hg hx hf => ?_) hok).mono ?_
  · rcases hx with hx | hx
    · have := h2 g hf; omega
    · have := h1.foot_lt hf; omega
  · rintro e w' ⟨he, K', m1, f1, n1⟩
    refine ⟨he, ⟨⟨bm, b, K', m1, fun k hk => ?_⟩, Frm.adds (Adds.trans h3 ha) f1 (fun i hi => h2 i (.inr hi))⟩, frm_keepT k1.mem f1⟩
    rcases hk with rfl | hk
    · exact h2 _ (.inl rfl)
    · rcases n1 k hk with hk | hk
      · exact h2 k (.inr hk)
      · exact Nat.le_trans (Nat.le_trans h3.size ha.size) hk
theorem HasM.new {w w1 : World} {bm b : Nat} {v : Value} (h : MemP w1 v (fun _ => 0) bm b []) (a : Adds w w1) (l1 : w.heap.size ≤ bm) (l2 : w.heap.size ≤ b) : HasM w w1 v (fun _ => 0) :=
  ⟨⟨bm, b, [], h, fun k hk => by
    rcases hk with h | h | h
    · rw [h]; exact l1
    · rw [h]; exact l2
    · simp at h⟩, a⟩
/-- How the two stand behind so many words. -/
structure Both (w0 w : World) (vm rv : Value) (S : Nat → Nat) (cs : List (Nat × Nat)) : Prop where
  mem : HasM w0 w vm S
  ref : OwnC 0 w rv cs
  cells : IsCells S cs
def refC (l : List (Nat × Nat)) : List (Nat × Nat) := l.foldl (fun cs x => stC x.1 x.2 cs) []
theorem refC_take (l : List (Nat × Nat)) (k : Nat) (h : k < l.length) : refC (l.take (k + 1)) = stC (atL l k).1 (atL l k).2 (refC (l.take k)) := by
  unfold refC
  rw [List.take_succ_eq_append_getElem h, List.foldl_append]
  simp [atL, List.getD_eq_getElem?_getD, h]
theorem results_two {w : World} {n1 : Nat} {v : Value} {fn : Func} {t p : Tmp} (h : fn.results = #[.tmp t, .cell p 27]) (tmps : Array Value) (hp : tmps.getD p undef = .pointer (some ⟨n1, 0, none⟩)) (hz : w.heap[n1]? = some (.cells #[v] 27 (0, 0))) :
    (results fn tmps).run Tryd.prog w = .ok (.tuple #[tmps.getD t undef, .agg #[v]]) w := by
  have hp' : tmps[p]?.getD undef = .pointer (some ⟨n1, 0, none⟩) := by simpa using hp
  simp [results, h, hp', asAddr, run_loadVar_row (P := Tryd.prog) w n1 27 27 #[v] (0, 0) _ hz Tryd.underlying27 rfl (by kernel_rfl)]
set_option maxRecDepth 100000 in
set_option maxHeartbeats 8000000 in
theorem played_any (v : Value) (l : List (Nat × Nat)) (w : World) (hl : CellsW (fun g => g < w.heap.size) w v l) (hok : cellsOk l) :
    Calls Tryd.prog 17 #[v] w fun e w' => ∃ vm rv, e = .returned (.tuple #[vm, .agg #[rv]]) ∧ Both w w' vm rv (storeAll (fun _ => 0) l) (refC l) := by
  have HL := Lib.hid hl; have HOK := Lib.hid hok
  obtain ⟨ao, cap, rfl, h1, h2, _⟩ := id hl
  clear hl hok
  unfold maxLen at h2
  go_enter Tryd.func17, Tryd.ntmps17
  go_wp2_with fail
  refine (newM_any _).mono ?_
  rintro e w1 ⟨bm, b, rfl, hm, ha, hbm, hb⟩
  have HA1 := Lib.hid ha; have HM1 := Lib.hid hm; have HB1 := Lib.hid (And.intro hbm hb)
  clear hm ha hbm hb
  go_wp2_with fail
  obtain ⟨vm, hvm⟩ : ∃ vm, Value.pointer (some ⟨bm, 0, none⟩) = vm := ⟨_, rfl⟩
  obtain ⟨W2, hW2⟩ : ∃ W2, w1.alloc (.cells #[.slice none 0 0] 27) = W2 := ⟨_, rfl⟩
  have HA0 := Lib.hid (Adds.new w (.cells #[.slice none 0 0] 27))
  have HM2 := Lib.hid (show HasM w W2 vm (fun _ => 0) by rw [← hW2, ← hvm]; exact (HasM.new HM1.out (Adds.trans HA0.out HA1.out) (Nat.le_trans HA0.out.size HB1.out.1) (Nat.le_trans HA0.out.size HB1.out.2)).adds (Adds.new _ _))
  have HX3 := Lib.hid (show W2.heap[w.heap.size]? = some (.cells #[.slice none 0 0] 27 (0, 0)) by rw [← hW2]; exact (Below.block (Adds.trans HA1.out (Adds.new w1 _)) _ (by simp)).trans (heap_alloc_new w _))
  have HX5 := Lib.hid (show W2.heap[w1.heap.size]? = some (.cells #[.slice none 0 0] 27 (0, 0)) by rw [← hW2]; exact heap_alloc_new w1 _)
  have HL5 := Lib.hid (show w.heap.size + 1 ≤ w1.heap.size by have := HA1.out.size; simp at this; exact this)
  rw [hvm, hW2]
  clear hvm hW2 HM1 HB1
  obtain ⟨n3, hn3⟩ : ∃ n3, w.heap.size = n3 := ⟨_, rfl⟩
  have HN3 := Lib.hid hn3
  obtain ⟨n5, hn5⟩ : ∃ n5, w1.heap.size = n5 := ⟨_, rfl⟩
  rw [hn3] at HX3 HL5 ⊢
  rw [hn5] at HX5 HL5 ⊢
  clear hn3 hn5
  go_loopw [6] (fun t6 wr => ∃ (k : Nat) (rv : Value), k ≤ l.length ∧ t6 = .int .i64 k ∧ HasM w wr vm (storeAll (fun _ => 0) (l.take k)) ∧ OwnC 0 wr rv (refC (l.take k)) ∧ IsCells (storeAll (fun _ => 0) (l.take k)) (refC (l.take k)) ∧
    wr.heap[n3]? = some (.cells #[.slice none 0 0] 27 (0, 0)) ∧ wr.heap[n5]? = some (.cells #[rv] 27 (0, 0))) (fun t6 _ => l.length - (intOf t6).toNat)
  case atStart => exact ⟨0, .slice none 0 0, Nat.zero_le _, rfl, HM2.out, OwnC.nil _ _, none_cells, HX3.out, HX5.out⟩
  case round =>
    obtain ⟨k, rv, hk, rfl, hm, ho, hc, hx3, hx5⟩ := hrel
    have HM := Lib.hid hm; have HO := Lib.hid ho; have HC := Lib.hid hc; have H3 := Lib.hid hx3; have H5 := Lib.hid hx5; have HK := Lib.hid hk
    clear hm ho hc hx3 hx5 hk HM2 HX3 HX5
    by_cases hlt : k < l.length
    · have hltI : (k : Int) < (l.length : Int) := by omega
      obtain ⟨g, off, rfl, k0, k1⟩ := cells_read HL.out HM.out.low hlt
      have HT1 := Lib.hid (storeAll_take (fun _ => 0) l k hlt)
      have HT2 := Lib.hid (refC_take l k hlt)
      have HX := Lib.hid (HOK.out.at k)
      have HAt := Lib.hid (show l.getD k (0, 0) = atL l k from rfl)
      rw [HAt.out] at HX HT1
      have HLt := Lib.hid hlt
      clear hlt HAt
      obtain ⟨y, hy⟩ : ∃ y, atL l k = y := ⟨_, rfl⟩
      have HY := Lib.hid hy
      rw [hy] at k0 k1 HX HT1 HT2
      clear hy
      obtain ⟨ya, yv⟩ := y
      simp only at k0 k1 HX HT1 HT2
      have HCl := Lib.hid (fun (W : World) (h : HasM w W vm (setW (storeAll (fun _ => 0) (l.take k)) ya yv)) => (show W.cell? ⟨g, off + k * 2, none⟩ = some (.int .u32 ((ya : Nat) : Int)) ∧ W.cell? ⟨g, off + k * 2 + 1, none⟩ = some (.int .u32 ((yv : Nat) : Int)) by
        obtain ⟨g', off', e, j0, j1⟩ := cells_read HL.out h.low HLt.out
        simp only [Option.some.injEq, Addr.mk.injEq, and_true] at e
        obtain ⟨rfl, rfl⟩ := e
        rw [HY.out] at j0 j1
        exact ⟨j0, j1⟩))
      obtain ⟨S, hS⟩ : ∃ S, storeAll (fun _ => 0) (l.take k) = S := ⟨_, rfl⟩
      obtain ⟨cs, hcs⟩ : ∃ cs, refC (l.take k) = cs := ⟨_, rfl⟩
      rw [hS] at HM HC HT1 HCl
      rw [hcs] at HO HC HT2
      clear hS hcs
      have HSt := Lib.hid (HM.out.store (Adds.new wr (.cells #[.int .u32 ((ya : Nat) : Int), .int .u32 ((yv : Nat) : Int)] 31)) (cells_lit1 _ wr (ya, yv) (.inr (Nat.le_refl _))) (by intro y hy; rw [List.mem_singleton.1 hy]; exact HX.out))
      go_wp2_with (go_at_call 12; refine HSt.out.mono ?_; rintro e w3 ⟨rfl, q1, q2⟩; have Q1 := Lib.hid q1; have Q2 := Lib.hid q2; clear q1 q2)
      have HK3 := Lib.hid (KeepT.trans (KeepT.of_adds (Adds.new wr (.cells #[.int .u32 ((ya : Nat) : Int), .int .u32 ((yv : Nat) : Int)] 31))) Q2.out)
      have H35 := Lib.hid (HK3.out n5 _ _ (by decide) H5.out)
      have H33 := Lib.hid (HK3.out n3 _ _ (by decide) H3.out)
      have HO3 := Lib.hid (HO.out.keepA HK3.out.a)
      have Q1' := Lib.hid (show HasM w w3 vm (setW S ya yv) from Q1.out)
      obtain ⟨j0, j1⟩ := HCl.out w3 Q1'.out
      have c5 := (cell_of_box_a H35.out).1
      have f5 := (cell_of_box_a H35.out).2
      have HRS := Lib.hid (refStore_any rv cs ya yv w3.drew ((HO3.out.adds (Adds.drew w3)).cells.mono fun _ _ _ => trivial) (cells_few HC.out))
      clear k0 k1 HSt
      refine wp_calmM ?_
      go_region_with (go_at_call 10; refine HRS.out.mono ?_; rintro e w4 ⟨v4, rfl, q3, q4⟩; have Q3 := Lib.hid q3; have Q4 := Lib.hid q4; obtain ⟨p4, n4, c4, rfl⟩ := q3.slice; have h45 := (Below.block (Adds.trans (Adds.drew w3) q4) n5 (Array.getElem?_eq_some_iff.1 H35.out).1).trans H35.out; have H45 := Lib.hid h45; have c45 := (cell_of_box_a h45).1; have f45 := (cell_of_box_a h45).2; clear q3 q4 h45)
      all_goals
        simp only [Exit.then]
        go_simp
        go_wp2_with fail
        have hT := Turns.setCell n5 0 w4 (.slice p4 n4 c4)
        have hm4 : HasM w w4 vm (setW S ya yv) := Q1'.out.adds (Adds.trans (Adds.drew w3) Q4.out)
        have hm5 := hm4.turn hT H45.out (by have := HN3.out; have := HL5.out; omega)
        have ho5 : OwnC 0 _ _ _ := (Q3.out.base (Nat.zero_le _)).keepA (KeepA.turn hT H45.out (by decide))
        have h55 := heap_setCell_box_a (.slice p4 n4 c4) H45.out
        have h53 := (hT.block n3 (by have := (Array.getElem?_eq_some_iff.1 H33.out).1; have := Q4.out.size; simp at this; omega) (fun e => by have := Option.some.inj e; have := HL5.out; omega)).trans ((Below.block (Adds.trans (Adds.drew w3) Q4.out) n3 (Array.getElem?_eq_some_iff.1 H33.out).1).trans H33.out)
        go_roundw
        case rel => exact ⟨k + 1, _, HLt.out, rfl, by rw [HT1.out]; exact hm5, by rw [HT2.out]; exact ho5, by rw [HT1.out, HT2.out]; exact HC.out.store ya yv HX.out.1, h53, h55⟩
        case measure => simp [intOf]; have := HLt.out; omega
    · obtain rfl : k = l.length := by have := HK.out; omega
      rw [List.take_length] at HM HO HC
      clear hlt
      have c5 := (cell_of_box_a H5.out).1
      have f3 := (cell_of_box_a H3.out).2
      have c3 := (cell_of_box_a H3.out).1
      obtain ⟨p, n, c, rfl⟩ := HO.out.slice
      go_wp2_with fail
      go_region
      all_goals
        go_wp2_with fail
        have hT := Turns.setCell n3 0 wr (.slice p n c)
        have hm5 := HM.out.turn hT H3.out (by have := HN3.out; omega)
        have ho5 : OwnC 0 _ _ _ := HO.out.keepA (KeepA.turn hT H3.out (by decide))
        have h33 := heap_setCell_box_a (.slice p n c) H3.out
        (try simp only [Exit.inBlock, Exit.then])
        exact bodyPost_ret (results_two rfl _ rfl h33) rfl ⟨vm, .slice p n c, rfl, hm5.adds (Adds.drew _), ho5.adds (Adds.drew _), HC.out⟩
end Go.Proofs.YtleihmmkonakhaaDoor
