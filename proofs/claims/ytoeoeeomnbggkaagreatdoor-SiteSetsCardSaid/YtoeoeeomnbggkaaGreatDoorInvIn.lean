/- A region that draws its order inside a fence, by an invariant over which of its operations have come up: each operation is looked at once, whatever came up before it (XInv, fenced; the slots are the invariant's own business). -/
import Derived.OrdersIn
import Derived.TacticsIn
import Derived.Test.YtoeoeeomnbggkaaGreatDoorLoose
namespace Go.Proofs.YtoeoeeomnbggkaaGreatDoor
open Go

section
variable {F : Fence} {n : Nat} {P : Program}

theorem oper_exits {o : Oper} {a : Act} {w : World} {K K' : Act → World → Prop} {Q Q' : Exit → Act → World → Prop} (h : ∀ a w, K a w → K' a w) (hq : ∀ e a w, e ≠ .normal → Q e a w → Q' e a w)
    (hh : o.wpIn F n P a w K Q) : o.wpIn F n P a w K' Q' := by
  have hl : LetsOut Q → LetsOut Q' := fun ⟨a, w, hx⟩ => ⟨a, w, hq _ _ _ (by simp) hx⟩
  unfold Oper.wpIn at *
  refine ⟨hh.1, ?_⟩
  have hh := hh.2
  generalize (o.semAt F.round a.eval).run P w = r at *
  cases r with
  | ok x w' =>
    cases x <;> simp only [Oper.uponIn] at hh ⊢ <;>
      first
        | exact h _ _ hh
        | exact ⟨hh.1, CallsIn.mono hh.2 (fun e w'' he => by cases e <;> first | exact h _ _ he | exact hq _ _ _ (by simp) he | exact hl he)⟩
        | exact ⟨hh.1, RowsIn.mono hh.2 (fun _ _ he => h _ _ he)⟩
        | exact ⟨hh.1, RoundIn.mono hh.2 (fun e w'' he => by cases e <;> first | exact h _ _ he | exact hq _ _ _ (by simp) he | exact hl he)⟩
  | halt x w' =>
    cases x <;> simp only [Oper.uponIn] at hh ⊢ <;> first | exact hh | exact hq _ _ _ (by simp) hh

/-- A slot's value, once its operation has come up. -/
def sel (c : Bool) (v : Value) : Value := if c then v else undef
theorem sel_t (v : Value) : sel true v = v := rfl
theorem sel_f (v : Value) : sel false v = undef := rfl
/-- An invariant by the frame (which depends on what has come up, and on what a yield answered) and a word on the world. -/
def InvT (tmps : (Nat → Bool) → Bool → Array Value) (Rel : (Nat → Bool) → Bool → World → Prop) (L : Nat → Bool) (b : Act) (w : World) : Prop := ∃ tb : Bool, b = { tmps := tmps L tb, defers := [] } ∧ Rel L tb w

/-- What the kernel checks: edges lead back. -/
def okBack (ops : Array Oper) : Bool :=
  (List.range ops.size).all fun i => match ops[i]? with
    | none => true
    | some o => o.after.all fun e => !Region.binds .any e || decide (e.on < i)
theorem okBack_at {ops : Array Oper} (h : okBack ops = true) {i : Nat} {o : Oper} (ho : ops[i]? = some o) : ∀ e ∈ o.after, Region.binds .any e = true → e.on < i := by
  unfold okBack at h
  rw [List.all_eq_true] at h
  have := h i (List.mem_range.2 (Array.getElem?_eq_some_iff.1 ho).1)
  simp only [ho] at this
  intro e he hb
  rw [Array.all_eq_true_iff_forall_mem] at this
  simpa [hb] using this e he

/-- Closed under edges. -/
def Closed (ops : Array Oper) (L : Nat → Bool) : Prop := ∀ (k : Nat) (ok : Oper), ops[k]? = some ok → L k = true → ∀ e ∈ ok.after, Region.binds .any e = true → L e.on = true

theorem invIn_all {ops : Array Oper} {Inv : (Nat → Bool) → Act → World → Prop} {Q : Exit → Act → World → Prop} (hE : okBack ops = true)
    (hstep : ∀ (L : Nat → Bool) (b : Act) (w : World) (i : Nat) (o : Oper), ops[i]? = some o → L i = false → Closed ops L → (∀ e ∈ o.after, Region.binds .any e = true → L e.on = true) → Inv L b w →
      wpListIn F n P ops (fun e b' w' => match e with | .normal => Inv (fun k => if k = i then true else L k) b' w' | e => Q e b' w') [o] b w)
    (hend : ∀ b w', Inv (fun k => decide (k < ops.size)) b w' → Q .normal b w') :
    ∀ (fuel : Nat) (listed : Array Bool) (b : Act) (w : World), leftOver ops listed ≤ fuel → listed.size = ops.size → Closed ops (fun k => listed.getD k false) → Inv (fun k => listed.getD k false) b w → wpAnyIn F n P .any ops Q fuel listed b w := by
  have fin : ∀ (listed : Array Bool) (b : Act) (w : World), listed.size = ops.size → Inv (fun k => listed.getD k false) b w → (∀ (i : Nat), i < ops.size → listed.getD i false = true) → Q .normal b w := fun listed b w hlen h hl => by
    have hL : (fun k => listed.getD k false) = fun k => decide (k < ops.size) := by
      funext k
      by_cases hks : k < ops.size
      · rw [hl k hks]; simp [hks]
      · simp [hks, Array.getElem?_eq_none (show listed.size ≤ k by rw [hlen]; omega)]
    rw [hL] at h
    exact hend _ _ h
  have ready_nil : ∀ (listed : Array Bool), listed.size = ops.size → Region.ready .any ops listed = [] → ∀ (i : Nat), i < ops.size → listed.getD i false = true := fun listed hlen hr i => by
    induction i using Nat.strongRecOn with
    | _ i ih =>
      intro hi
      cases hl : listed.getD i false with
      | true => rfl
      | false =>
        have ho : ops[i]? = some ops[i] := by rw [Array.getElem?_eq_getElem]
        have : i ∈ Region.ready .any ops listed := mem_ready.2 ⟨by
          have hs : i < listed.size := by rw [hlen]; exact hi
          simp only [Array.getD_eq_getD_getElem?, Array.getElem?_eq_getElem hs, Option.getD_some] at hl ⊢
          exact hl, _, ho, fun e he hb => by
            have := okBack_at hE ho e he hb
            exact ih e.on this (by omega)⟩
        rw [hr] at this
        cases this
  intro fuel
  induction fuel with
  | zero =>
    intro listed b w hf hlen _ h
    have hl : ∀ (i : Nat), i < ops.size → listed.getD i false = true := fun i hi => by
      have : leftOver ops listed = 0 := by omega
      have := List.countP_eq_zero.1 this i (List.mem_range.2 hi)
      simpa using this
    refine ⟨?_, fin listed b w hlen h hl⟩
    cases hr : Region.ready .any ops listed with
    | nil => rfl
    | cons i _ =>
      have hi : i ∈ Region.ready .any ops listed := by rw [hr]; simp
      obtain ⟨h1, o, ho, _⟩ := mem_ready.1 hi
      have hs : i < ops.size := (Array.getElem?_eq_some_iff.1 ho).1
      have := hl i hs
      have hs' : i < listed.size := by rw [hlen]; exact hs
      simp only [Array.getD_eq_getD_getElem?, Array.getElem?_eq_getElem hs', Option.getD_some] at h1 this
      rw [h1] at this; cases this
  | succ fuel ih =>
    intro listed b w hf hlen hcl h
    refine ⟨fun hr => fin listed b w hlen h (ready_nil listed hlen hr), fun i hi => ?_⟩
    obtain ⟨hun, o, ho, hall⟩ := mem_ready.1 hi
    have hs : i < ops.size := (Array.getElem?_eq_some_iff.1 ho).1
    have hs' : i < listed.size := by rw [hlen]; exact hs
    have hun' : listed.getD i false = false := by
      simp only [Array.getD_eq_getD_getElem?, Array.getElem?_eq_getElem hs', Option.getD_some] at hun ⊢
      exact hun
    have hL : (fun k => (listed.setIfInBounds i true).getD k false) = fun k => if k = i then true else listed.getD k false := by
      funext k
      by_cases hki : k = i
      · subst hki; simp [hs']
      · rw [if_neg hki, getD_set_ne false (Ne.symm hki)]
    have next : ∀ (b' : Act) (w' : World), Inv (fun k => if k = i then true else listed.getD k false) b' w' → wpAnyIn F n P .any ops Q fuel (listed.setIfInBounds i true) b' w' := fun b' w' hinv => by
      refine ih _ _ _ ?_ (by simp [hlen]) (fun k ok hok hl e he hb => ?_) (by rw [hL]; exact hinv)
      · have := leftOver_set (ops := ops) (listed := listed) hs hun' hlen
        omega
      · by_cases hki : k = i
        · subst hki
          rw [ho] at hok; cases hok
          exact getD_set_true (hall e he hb)
        · have hl' : listed.getD k false = true := by
            have hl2 : (listed.setIfInBounds i true).getD k false = true := hl
            rwa [getD_set_ne false (Ne.symm hki)] at hl2
          exact getD_set_true (hcl k ok hok hl' e he hb)
    have hst := hstep _ b w i o ho hun' hcl (fun e he hb => hall e he hb) h
    unfold wpOpIn
    simp only [ho]
    simp only [wpListIn] at hst
    by_cases hwt : Region.wanted o (yielded ops b.tmps) = true
    · rw [if_pos hwt] at hst ⊢
      refine oper_exits (fun b' w' h' => next b' w' h') (fun e b' w' he h' => ?_) hst
      cases e <;> first | exact absurd rfl he | exact h'
    · rw [if_neg hwt] at hst ⊢
      exact ⟨hst.1, next _ _ hst.2⟩

/-- A REGION THAT DRAWS, INSIDE A FENCE, BY AN INVARIANT: L k: operation k has come up. -/
theorem wpIn_region_inv {id : Nat} {Q : Exit → Act → World → Prop} {a : Act} {w : World} {l : List Oper} (Inv : (Nat → Bool) → Act → World → Prop)
    (hm : P.follows .mixedOrders = true) (hE : okBack l.toArray = true) (h0 : Inv (fun _ => false) a w.drew)
    (hstep : ∀ (L : Nat → Bool) (b : Act) (w : World) (i : Nat) (o : Oper), l[i]? = some o → L i = false → Closed l.toArray L → (∀ e ∈ o.after, Region.binds .any e = true → L e.on = true) → Inv L b w →
      wpListIn F n P l.toArray (fun e b' w' => match e with | .normal => Inv (fun k => if k = i then true else L k) b' w' | e => Q e b' w') [o] b w)
    (hend : ∀ b w', Inv (fun k => decide (k < l.length)) b w' → Q .normal b w') : (Code.region id l.toArray true).wpIn F n P Q a w := by
  refine wpIn_region_any hm ?_
  refine invIn_all (Inv := Inv) hE (fun L b w i o ho => hstep L b w i o (by simpa using ho)) (fun b w' h => hend b w' (by simpa using h)) _ _ _ _ ?_ (by simp) ?_ ?_
  · exact Nat.le_trans List.countP_le_length (by simp)
  · intro k ok _ hl
    exfalso
    simp only [Array.getD_eq_getD_getElem?, Array.getElem?_replicate] at hl
    split at hl <;> simp at hl
  · have : (fun k => (Array.replicate l.toArray.size false).getD k false) = fun _ => false := by
      funext k
      simp only [Array.getD_eq_getD_getElem?, Array.getElem?_replicate]
      split <;> rfl
    rw [this]
    exact h0
end
end Go.Proofs.YtoeoeeomnbggkaaGreatDoor
