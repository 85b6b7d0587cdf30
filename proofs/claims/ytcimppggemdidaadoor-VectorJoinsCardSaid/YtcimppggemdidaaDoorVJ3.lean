/- Three appends into two own rows, and what they are handed, in one region that draws its order (VectorJoins, region 3): what holds of the world as its operations come up, and how each keeps it. -/
import Derived.Test.YtcimppggemdidaaDoorVApp2
import Derived.Test.YtcimppggemdidaaDoorVL2
namespace Go.Proofs.YtcimppggemdidaaDoor
open Go Go.RowKit

/-- The row of the first chain, the row of the second one, as they stand. -/
def sA (L3 L5 : Bool) (s10 s13 s15 : Value) : Value := cond L5 s15 (cond L3 s13 s10)
def lA (a : List UInt64) (L3 L5 : Bool) : List UInt64 := cond L5 (a ++ [77]) (cond L3 a [])
def sB (L13 : Bool) (s20 s23 : Value) : Value := cond L13 s23 s20
def lB (b : List UInt64) (L13 : Bool) : List UInt64 := cond L13 b []
structure JoinR (n0 : Nat) (w0 : World) (L0 L4 L5 L10 : Bool) (A : Value) (la : List UInt64) (s14 : Value) (B : Value) (lb : List UInt64) (w : World) : Prop where
  hb : Below n0 w0 w
  hs : n0 ≤ w.heap.size
  rA : L0 = true → OwnW w n0 A la
  lit : L4 = true → L5 = false → ∃ g, s14 = .slice (some ⟨g, 0, none⟩) 1 1 ∧ w.cell? ⟨g, 0, none⟩ = some (.int .u64 77) ∧ n0 ≤ g ∧ (L0 = true → A.ownBlock ≠ some g)
  rB : L10 = true → OwnW w n0 B lb
  apart : L0 = true → L10 = true → A.ownBlock = none ∨ A.ownBlock ≠ B.ownBlock

section
variable {n0 : Nat} {w0 w w' : World} {L0 L4 L5 L10 : Bool} {A B A' B' s14 : Value} {la lb la' lb' : List UInt64}
theorem JoinR.drew (h : JoinR n0 w0 L0 L4 L5 L10 A la s14 B lb w) : JoinR n0 w0 L0 L4 L5 L10 A la s14 B lb w.drew := ⟨h.hb.drew, h.hs, h.rA, h.lit, h.rB, h.apart⟩
theorem JoinR.mkA (h : JoinR n0 w0 false L4 L5 L10 A la s14 B lb w) : JoinR n0 w0 true L4 L5 L10 (.slice (some ⟨w.heap.size, 0, none⟩) 0 0) [] s14 B lb (w.alloc (.cells #[] 26)) := by
  have hs := h.hs
  refine ⟨h.hb.alloc hs _, by simp; omega, fun _ => (own_emptyW w).lower hs, fun h4 h5 => ?_, fun h10 => World.ownsRow.alloc (h.rB h10) _, fun _ h10 => .inr fun e => ?_⟩
  · obtain ⟨g, e, hc, hg, _⟩ := h.lit h4 h5
    have hlt := World.block_lt_of_cell? w _ hc
    refine ⟨g, e, by rw [World.cell?_alloc_old _ _ _ (show g ≠ w.heap.size by simp at hlt; omega)]; exact hc, hg, fun _ e => ?_⟩
    simp only [Value.ownBlock, Option.some.injEq] at e
    simp at hlt
    omega
  · have := (World.ownsRow.lt (h.rB h10) w.heap.size e.symm).2
    omega
theorem JoinR.mkB (h : JoinR n0 w0 L0 L4 L5 false A la s14 B lb w) : JoinR n0 w0 L0 L4 L5 true A la s14 (.slice (some ⟨w.heap.size, 0, none⟩) 0 0) [] (w.alloc (.cells #[] 26)) := by
  have hs := h.hs
  refine ⟨h.hb.alloc hs _, by simp; omega, fun h0 => World.ownsRow.alloc (h.rA h0) _, fun h4 h5 => ?_, fun _ => (own_emptyW w).lower hs, fun h0 _ => .inr fun e => ?_⟩
  · obtain ⟨g, e, hc, hg, hA⟩ := h.lit h4 h5
    have hlt := World.block_lt_of_cell? w _ hc
    exact ⟨g, e, by rw [World.cell?_alloc_old _ _ _ (show g ≠ w.heap.size by simp at hlt; omega)]; exact hc, hg, hA⟩
  · have := (World.ownsRow.lt (h.rA h0) w.heap.size e).2
    omega
theorem JoinR.mkL (h : JoinR n0 w0 L0 false L5 L10 A la s14 B lb w) : JoinR n0 w0 L0 true L5 L10 A la (.slice (some ⟨w.heap.size, 0, none⟩) 1 1) B lb (w.alloc (.cells #[.int .u64 77] 26)) := by
  have hs := h.hs
  refine ⟨h.hb.alloc hs _, by simp; omega, fun h0 => World.ownsRow.alloc (h.rA h0) _, fun _ _ => ⟨w.heap.size, rfl, by simp, hs, fun h0 e => ?_⟩, fun h10 => World.ownsRow.alloc (h.rB h10) _, h.apart⟩
  have := (World.ownsRow.lt (h.rA h0) w.heap.size e).2
  omega
/-- An append to the first chain's row. -/
theorem JoinR.appA (h : JoinR n0 w0 true L4 L5 L10 A la s14 B lb w) (L5' : Bool) (hL : L5 = true → L5' = true) (hr : OwnW w' n0 A' la') (hg : w.grownBy w' A.ownBlock) (hsn : SameOrNew w A A') : JoinR n0 w0 true L4 L5' L10 A' la' s14 B lb w' := by
  have hlt := World.ownsRow.lt (h.rA rfl)
  have hAB : ∀ x, x < w.heap.size → A.ownBlock ≠ some x → A'.ownBlock ≠ some x := fun x hx hne e => by
    rcases hsn with h1 | ⟨g, h1, h2⟩
    · exact hne (h1.symm.trans e)
    · rw [e, Option.some.injEq] at h1; omega
  refine ⟨h.hb.grown hg h.hs (fun k hk => (hlt k hk.symm.symm).1), Nat.le_trans h.hs hg.size, fun _ => hr, fun h4 h5 => ?_, fun h10 => ?_, fun _ h10 => ?_⟩
  · have h5f : L5 = false := by cases h5' : L5 with | false => rfl | true => rw [hL h5'] at h5; cases h5
    obtain ⟨g, e, hc, hgn, hA⟩ := h.lit h4 h5f
    have hlg := World.block_lt_of_cell? w _ hc
    refine ⟨g, e, ?_, hgn, fun _ => hAB g hlg (hA rfl)⟩
    rw [World.cell?_of_block (w := w) (hg.block g hlg fun e' => hA rfl e'.symm)]
    exact hc
  · exact (h.rB h10).kept hg (by
      rcases h.apart rfl h10 with h1 | h1
      · rw [h1]; cases B.ownBlock <;> simp
      · exact .inr fun e => h1 e.symm)
  · cases hB : B.ownBlock with
    | none =>
      cases hA' : A'.ownBlock with
      | none => exact .inl rfl
      | some x => exact .inr (by simp)
    | some x =>
      have hx := (World.ownsRow.lt (h.rB h10) x hB).2
      refine .inr (hAB x hx ?_)
      rcases h.apart rfl h10 with h1 | h1
      · rw [h1]; simp
      · rw [hB] at h1; exact h1
/-- An append to the second chain's row, where the literal is no longer wanted. -/
theorem JoinR.appB (h : JoinR n0 w0 L0 L4 true true A la s14 B lb w) (hr : OwnW w' n0 B' lb') (hg : w.grownBy w' B.ownBlock) (hsn : SameOrNew w B B') : JoinR n0 w0 L0 L4 true true A la s14 B' lb' w' := by
  have hlt := World.ownsRow.lt (h.rB rfl)
  refine ⟨h.hb.grown hg h.hs (fun k hk => (hlt k hk.symm.symm).1), Nat.le_trans h.hs hg.size, fun h0 => ?_, fun _ h5 => (by cases h5), fun _ => hr, fun h0 _ => ?_⟩
  · exact (h.rA h0).kept hg (h.apart h0 rfl)
  · cases hA : A.ownBlock with
    | none => exact .inl rfl
    | some x =>
      have hx := (World.ownsRow.lt (h.rA h0) x hA).2
      refine .inr fun e => ?_
      rcases hsn with h1 | ⟨g, h1, h2⟩
      · rcases h.apart h0 rfl with h3 | h3
        · rw [h3] at hA; cases hA
        · exact h3 (by rw [hA, e, h1])
      · rw [← e, Option.some.injEq] at h1; omega
end
end Go.Proofs.YtcimppggemdidaaDoor
