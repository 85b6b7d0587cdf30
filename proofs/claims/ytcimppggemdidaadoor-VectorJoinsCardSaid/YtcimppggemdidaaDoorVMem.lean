/- Clocks in memory: a slice whose clocks read as a list, in a world; a row of clocks that a call has made itself; what slicing and appending do to them. -/
import Derived.Test.YtcimppggemdidaaDoorApp2
import Derived.Test.YtcimppggemdidaaDoorVPlain
import Derived.Deep.OwnRows
import Derived.OwnWalk
import Derived.OwnWalkIn
namespace Go.Proofs.YtcimppggemdidaaDoor
open Go Go.RowKit

def wordV (b : UInt64) : Value := .int .u64 b.toNat
theorem wordV_one (b : UInt64) : (wordV b).oneCell' = true := rfl

/-- v is a slice whose clocks read l in w; they lie in blocks below n. -/
def Words (n : Nat) (w : World) (v : Value) (l : List UInt64) : Prop :=
  ∃ ao cap, v = .slice ao l.length cap ∧ l.length ≤ cap ∧ cap ≤ maxLen ∧
    (l ≠ [] → ∃ b off, ao = some ⟨b, off, none⟩ ∧ b < n ∧ ∀ i, i < l.length → w.cell? ⟨b, off + i, none⟩ = some (wordV (l.getD i 0)))

theorem Words.below {n : Nat} {w w' : World} {v : Value} {l : List UInt64} (h : Words n w v l) (hb : Below n w w') : Words n w' v l := by
  obtain ⟨ao, cap, rfl, h1, h2, h3⟩ := h
  refine ⟨ao, cap, rfl, h1, h2, fun hl => ?_⟩
  obtain ⟨b, off, e, hbn, hc⟩ := h3 hl
  exact ⟨b, off, e, hbn, fun i hi => (hb.cell (p := ⟨b, off + i, none⟩) hbn).trans (hc i hi)⟩
theorem Words.mono {n m : Nat} {w : World} {v : Value} {l : List UInt64} (h : Words n w v l) (hm : n ≤ m) : Words m w v l := by
  obtain ⟨ao, cap, rfl, h1, h2, h3⟩ := h
  refine ⟨ao, cap, rfl, h1, h2, fun hl => ?_⟩
  obtain ⟨b, off, e, hbn, hc⟩ := h3 hl
  exact ⟨b, off, e, by omega, hc⟩
/-- The blocks are those that are there. -/
theorem Words.here {n : Nat} {w : World} {v : Value} {l : List UInt64} (h : Words n w v l) : Words w.heap.size w v l := by
  obtain ⟨ao, cap, rfl, h1, h2, h3⟩ := h
  refine ⟨ao, cap, rfl, h1, h2, fun hl => ?_⟩
  obtain ⟨b, off, e, hbn, hc⟩ := h3 hl
  exact ⟨b, off, e, World.block_lt_of_cell? w _ (hc 0 (List.length_pos_iff.2 hl)), hc⟩
theorem Words.nil {n : Nat} (w : World) : Words n w (.slice none 0 0) [] := ⟨none, 0, rfl, by simp, by simp, fun h => absurd rfl h⟩

/-- A slice of it. -/
theorem Words.sliced {n : Nat} {w : World} {ao : Option Addr} {len cap : Nat} {l : List UInt64} (h : Words n w (.slice ao len cap) l) (lo hi m : Nat) (h1 : lo ≤ hi) (h2 : hi ≤ len) (h3 : hi ≤ m) (h4 : m ≤ cap) :
    Words n w (.slice (if m = lo then ao else ao.map (·.add (lo * 1))) (hi - lo) (m - lo)) ((l.drop lo).take (hi - lo)) := by
  obtain ⟨ao', cap', e, e1, e2, e3⟩ := h
  simp only [Value.slice.injEq] at e
  obtain ⟨rfl, rfl, rfl⟩ := e
  have hl : ((l.drop lo).take (hi - lo)).length = hi - lo := by simp; omega
  refine ⟨_, _, by rw [hl], by rw [hl]; omega, by omega, fun hne => ?_⟩
  have hlt : 0 < hi - lo := by rw [← hl]; exact List.length_pos_iff.2 hne
  obtain ⟨b, off, rfl, hbn, hc⟩ := e3 (by rintro rfl; simp at h2; omega)
  refine ⟨b, off + lo, ?_, hbn, fun i hi' => ?_⟩
  · rw [if_neg (by omega)]; simp [Addr.add]
  · rw [hl] at hi'
    have := hc (lo + i) (by omega)
    rw [Nat.add_assoc, this]
    simp only [List.getD_eq_getElem?_getD, List.getElem?_take, List.getElem?_drop, if_pos hi']

/-- A row of clocks that the call has made. -/
def OwnW (w : World) (base : Nat) (v : Value) (l : List UInt64) : Prop := w.ownsRow base 26 1 v l.length (l.map wordV)

theorem OwnW.words {w : World} {base : Nat} {v : Value} {l : List UInt64} (h : OwnW w base v l) : Words w.heap.size w v l := by
  obtain ⟨h1, h2⟩ := h
  rcases h2 with ⟨rfl, h2⟩ | ⟨g, cap, cur, rfl, hb, hg, hn, hm, hs, ht⟩
  · have : l = [] := List.eq_nil_of_length_eq_zero h2
    subst this; exact Words.nil w
  · refine ⟨_, cap, rfl, hn, hm, fun _ => ⟨g, 0, rfl, (Array.getElem?_eq_some_iff.1 hg).1, fun i hi => ?_⟩⟩
    have hx : (l.map wordV)[i]? = some (wordV (l.getD i 0)) := by simp [hi]
    rw [← ht, List.getElem?_take, if_pos (by omega)] at hx
    simp only [Nat.zero_add]
    rw [cell_of_row w g i cur _ _ hg]
    simpa using hx
theorem OwnW.nil (w : World) (base : Nat) : OwnW w base (.slice none 0 0) [] := World.ownsRow_nil _ _ _ _

theorem OwnW.form {w : World} {base : Nat} {v : Value} {l : List UInt64} (h : OwnW w base v l) (hl : l ≠ []) : ∃ g cap, v = .slice (some ⟨g, 0, none⟩) l.length cap ∧ base ≤ g ∧ g < w.heap.size := by
  obtain ⟨h1, h2⟩ := h
  rcases h2 with ⟨rfl, h2⟩ | ⟨g, cap, cur, rfl, hb, hg, hn, hm, hs, ht⟩
  · exact absurd (List.eq_nil_of_length_eq_zero h2) hl
  · exact ⟨g, cap, rfl, hb, (Array.getElem?_eq_some_iff.1 hg).1⟩
theorem OwnW.below {w w' : World} {base n : Nat} {v : Value} {l : List UInt64} (h : OwnW w base v l) (hb : Below n w w') (hg : ∀ g, v.ownBlock = some g → g < n) : OwnW w' base v l := by
  refine ⟨h.1, ?_⟩
  rcases h.2 with hn | ⟨g, cap, cur, rfl, hbg, hgg, rest⟩
  · exact .inl hn
  · exact .inr ⟨g, cap, cur, rfl, hbg, by rw [hb.block g (hg g rfl)]; exact hgg, rest⟩
theorem OwnW.lower {w : World} {base b : Nat} {v : Value} {l : List UInt64} (h : OwnW w base v l) (hb : b ≤ base) : OwnW w b v l := by
  refine ⟨h.1, ?_⟩
  rcases h.2 with hn | ⟨g, cap, cur, rfl, hbg, rest⟩
  · exact .inl hn
  · exact .inr ⟨g, cap, cur, rfl, by omega, rest⟩
/-- A literal of clocks, in a block of its own. -/
theorem OwnW.lit (w : World) (l : List UInt64) (hl : l.length ≤ maxLen) : OwnW (w.alloc (.cells (l.map wordV).toArray 26)) w.heap.size (.slice (some ⟨w.heap.size, 0, none⟩) l.length l.length) l := by
  have := World.ownsRow_lit (size := 1) (e := 26) w (l.map wordV).toArray l.length (Nat.le_refl _) hl (by simp)
  exact this

theorem Words.adds {w w' : World} {v : Value} {l : List UInt64} (h : Words w.heap.size w v l) (ha : Adds w w') : Words w'.heap.size w' v l := (h.below ha).here
theorem words_adds {n : Nat} {w w' : World} {v : Value} {l : List UInt64} (h : Words n w v l) (ha : Adds w w') : Words w'.heap.size w' v l := h.here.adds ha

/-- The cells of a row of clocks, as an append asks for them. -/
theorem Words.news {n : Nat} {w : World} {a : Addr} {len cap : Nat} {l : List UInt64} (h : Words n w (.slice (some a) len cap) l) :
    len = l.length ∧ ∀ j u, (l.map wordV)[j]? = some u → w.cell? (a.add j) = some u := by
  obtain ⟨ao, cap', e, e1, e2, e3⟩ := h
  simp only [Value.slice.injEq] at e
  obtain ⟨rfl, rfl, rfl⟩ := e
  refine ⟨rfl, fun j u hu => ?_⟩
  have hj : j < l.length := by
    rcases Nat.lt_or_ge j l.length with h | h
    · exact h
    · rw [List.getElem?_eq_none (by simpa using h)] at hu; cases hu
  obtain ⟨b, off, e, _, hc⟩ := e3 (by rintro rfl; simp at hj)
  simp only [Option.some.injEq] at e
  subst e
  have ea : (⟨b, off, none⟩ : Addr).add j = ⟨b, off + j, none⟩ := by unfold Addr.add; split <;> simp_all
  rw [ea, hc j hj]
  simp only [List.getElem?_map, List.getElem?_eq_getElem hj, Option.map_some, Option.some.injEq] at hu
  simp [← hu, hj]

theorem info64 : (Tryd.prog.info? 26).map (fun i => (i.zero, i.size, i.bytes)) = some (some (.int .u64 0), 1, 8) := by kernel_rfl
theorem run_append_w {w : World} (t : TypeId) (ty : TypeId) (ht : Tryd.prog.underlying t = some (.slice 26)) (base : Nat) (v : Value) (pre : List UInt64) (hown : OwnW w base v pre)
    (v2 : Value) (l : List UInt64) (n : Nat) (hv : Words n w v2 l) (hlen : pre.length + l.length ≤ 1000000) (hbase : base ≤ w.heap.size) :
    ∃ v' w', (Builtin.append_ #[t, t] ty #[v, v2]).run Tryd.prog w = .ok v' w' ∧ OwnW w' base v' (pre ++ l) ∧ w.grownBy w' v.ownBlock := by
  obtain ⟨ao, cap, rfl, h1, h2, h3⟩ := id hv
  obtain ⟨i0, hi, hz0, hz1, hz2⟩ := info_parts info64
  cases ao with
  | none =>
    have hl : l = [] := by
      rcases l with _ | ⟨y, l⟩
      · rfl
      · obtain ⟨b, off, e, _⟩ := h3 (by simp)
        cases e
    subst hl
    exact ⟨_, _, run_append_none (P := Tryd.prog) (w := w) base t ty 26 i0 1 ht hi v pre.length cap (pre.map wordV) hown, by simpa using hown, ⟨rfl, rfl, rfl, Nat.le_refl _, fun _ _ _ => rfl⟩⟩
  | some ad =>
    obtain ⟨v', w', hr, r1, r2, _⟩ := run_append_own (P := Tryd.prog) w base t ty 26 i0 (.int .u64 0) 1 8 ht hi hz0 hz1 hz2 rfl (by decide) v pre.length (pre.map wordV) hown ad l.length cap (l.map wordV) (by simp) hv.news.2
      (fun u hu => by obtain ⟨b, _, rfl⟩ := List.mem_map.1 hu; rfl) (by unfold maxLen; omega) (by omega) hbase
    refine ⟨v', w', hr, ?_, r2⟩
    unfold OwnW
    rw [List.length_append, List.map_append]
    exact r1
section
variable {F : Fence} {n : Nat}
theorem wp_append_w {w : World} {ops : Array Oper} {rest : List Oper} {o : Oper} {a : Act} {Q : Exit → Act → World → Prop} (hgd : o.guard = none) (s x : Operand) (t : TypeId)
    (ho : o.op = .call { callee := .builtin .append, args := #[s, x], argTypes := #[t, t] }) (ht : Tryd.prog.underlying t = some (.slice 26)) (base : Nat) (v : Value) (pre : List UInt64) (hs : a.eval s = v) (hown : OwnW w base v pre)
    (v2 : Value) (l : List UInt64) (n : Nat) (hx : a.eval x = v2) (hv : Words n w v2 l) (hlen : pre.length + l.length ≤ 1000000) (hbase : base ≤ w.heap.size)
    (h : ∀ v' w', OwnW w' base v' (pre ++ l) → w.grownBy w' v.ownBlock → wpList Tryd.prog ops Q rest (a.put o.dst v') w') : wpList Tryd.prog ops Q (o :: rest) a w := by
  obtain ⟨v', w', hr, r1, r2⟩ := run_append_w t o.type ht base v pre hown v2 l n hv hlen hbase
  refine wpList_plain hgd fun K hK => ?_
  unfold Oper.wp
  simp [execOp, ho, resolve, invoke, builtin, hs, hx, hr, Result.andThen]
  exact hK _ _ (h v' w' r1 r2)
theorem wpIn_append_w {w : World} {ops : Array Oper} {rest : List Oper} {o : Oper} {a : Act} {Q : Exit → Act → World → Prop} (hgd : o.guard = none) (s x : Operand) (t : TypeId)
    (ho : o.op = .call { callee := .builtin .append, args := #[s, x], argTypes := #[t, t] }) (ht : Tryd.prog.underlying t = some (.slice 26)) (base : Nat) (v : Value) (pre : List UInt64) (hs : a.eval s = v) (hown : OwnW w base v pre)
    (v2 : Value) (l : List UInt64) (n0 : Nat) (hx : a.eval x = v2) (hv : Words n0 w v2 l) (hlen : pre.length + l.length ≤ 1000000) (hbase : base ≤ w.heap.size)
    (h : ∀ v' w', OwnW w' base v' (pre ++ l) → w.grownBy w' v.ownBlock → wpListIn F n Tryd.prog ops Q rest (a.put o.dst v') w') : wpListIn F n Tryd.prog ops Q (o :: rest) a w := by
  obtain ⟨v', w', hr, r1, r2⟩ := run_append_w t o.type ht base v pre hown v2 l n0 hv hlen hbase
  refine wpListIn_plain hgd fun K hK => ?_
  unfold Oper.wpIn
  refine ⟨?_, ?_⟩
  · simp [Oper.about, ho, resolve, Target.leads, Sem.run_pure]
  · rw [Oper.semAt_plain F _ _ (by rw [ho]; intro c hc'; cases hc')]
    simp [execOp, ho, resolve, invoke, builtin, hs, hx, hr, Result.andThen]
    exact hK _ _ (h v' w' r1 r2)
end
theorem OwnW.adds {w w' : World} {b : Nat} {v : Value} {l : List UInt64} (h : OwnW w b v l) (ha : Adds w w') : OwnW w' b v l := h.below ha fun g hg => (World.ownsRow.lt h g hg).2
theorem Words.len {n : Nat} {w : World} {ao : Option Addr} {len cap : Nat} {l : List UInt64} (h : Words n w (.slice ao len cap) l) : len = l.length ∧ l.length ≤ cap ∧ cap ≤ 9223372036854775807 := by
  obtain ⟨_, _, e, h1, h2, _⟩ := h
  cases e
  exact ⟨rfl, h1, h2⟩
end Go.Proofs.YtcimppggemdidaaDoor
