/- Rows of texts that are a call's own; slices of texts that are read; what is appended to a row. -/
import Derived.Laws.AppendOwnNone
import Derived.Test.YtbinmgpfkjmijaaGreatDoorBC
import Derived.Test.YtbinmgpfkjmijaaGreatDoorEvF1
import Derived.Lib.Walk
namespace Go.Proofs.YtbinmgpfkjmijaaGreatDoor
open Go Go.RowKit Go.Shelf Go.Lib

def strV (s : List UInt8) : Value := .string (str s)
/-- A row of texts that is the call's own. -/
def OwnT (w : World) (base : Nat) (v : Value) (l : List (List UInt8)) : Prop := w.ownsRow base 9 1 v l.length (l.map strV)
theorem info_str : (Tryz.prog.info? 9).map (fun i => (i.zero, i.size, i.bytes)) = some (some (.string ByteArray.empty), 1, 16) := by kernel_rfl
theorem OwnT.adds {w w' : World} {b : Nat} {v : Value} {l : List (List UInt8)} (h : OwnT w b v l) (ha : Adds w w') : OwnT w' b v l := by
  refine ⟨h.1, ?_⟩
  rcases h.2 with hn | ⟨g, cap, cur, rfl, hbg, hgg, rest⟩
  · exact .inl hn
  · exact .inr ⟨g, cap, cur, rfl, hbg, by rw [ha.block g (World.ownsRow.lt h g rfl).2]; exact hgg, rest⟩
theorem OwnT.cells {w : World} {b : Nat} {v : Value} {l : List (List UInt8)} (h : OwnT w b v l) (h0 : 0 < l.length) : ∃ g c, v = .slice (some ⟨g, 0, none⟩) l.length c ∧ g < w.heap.size ∧ l.length ≤ c ∧ ∀ (j : Nat) x, l[j]? = some x → w.cell? ⟨g, j, none⟩ = some (.string (str x)) := by
  rcases h.2 with ⟨_, hn⟩ | ⟨g, cap, cur, rfl, hbg, hgg, hnc, hcm, hcs, ht⟩
  · omega
  · refine ⟨g, cap, rfl, (World.ownsRow.lt h g rfl).2, hnc, fun j x hx => ?_⟩
    have hx2 : (l.map strV)[j]? = some (strV x) := by rw [List.getElem?_map, hx]; rfl
    have hj : j < l.length := (List.getElem?_eq_some_iff.1 hx).1
    rw [← ht, List.getElem?_take, if_pos (by omega)] at hx2
    rw [cell_of_row w g j cur _ _ hgg]
    simpa [strV] using hx2
theorem run_append_t {w : World} (ty : TypeId) (base : Nat) (v : Value) (pre : List (List UInt8)) (hown : OwnT w base v pre) (b : Nat) (s : List UInt8) (hc : w.cell? ⟨b, 0, none⟩ = some (.string (str s)))
    (hlen : pre.length + 1 ≤ 1000000) (hbase : base ≤ w.heap.size) :
    ∃ v' w', (Builtin.append_ #[55, 55] ty #[v, .slice (some ⟨b, 0, none⟩) 1 1]).run Tryz.prog w = .ok v' w' ∧ OwnT w' base v' (pre ++ [s]) ∧ w.grownBy w' v.ownBlock := by
  obtain ⟨i0, hi, hz0, hz1, hz2⟩ := info_parts info_str
  obtain ⟨v', w', hr, r1, r2, _⟩ := run_append_own (P := Tryz.prog) w base 55 ty 9 i0 (.string ByteArray.empty) 1 16 Tryz.underlying55 hi hz0 hz1 hz2 rfl (by decide) v pre.length (pre.map strV) hown ⟨b, 0, none⟩ 1 1 [strV s] (by simp)
    (fun j u hu => by
      rcases j with _ | j
      · obtain rfl : strV s = u := by simpa using hu
        exact hc
      · simp at hu)
    (fun u hu => by obtain rfl : u = strV s := by simpa using hu
                    rfl) (by unfold maxLen; omega) (by omega) hbase
  refine ⟨v', w', hr, ?_, r2⟩
  unfold OwnT
  rw [List.length_append, List.map_append]
  exact r1
theorem wpIn_append_t {F : Fence} {n : Nat} {w : World} {ops : Array Oper} {rest : List Oper} {o : Oper} {a : Act} {Q : Exit → Act → World → Prop} (hgd : o.guard = none) (s x : Operand)
    (ho : o.op = .call { callee := .builtin .append, args := #[s, x], argTypes := #[55, 55] }) (base : Nat) (v : Value) (pre : List (List UInt8)) (hs : a.eval s = v) (hown : OwnT w base v pre)
    (b : Nat) (t : List UInt8) (hx : a.eval x = .slice (some ⟨b, 0, none⟩) 1 1) (hc : w.cell? ⟨b, 0, none⟩ = some (.string (str t))) (hlen : pre.length + 1 ≤ 1000000) (hbase : base ≤ w.heap.size)
    (h : ∀ v' w', OwnT w' base v' (pre ++ [t]) → w.grownBy w' v.ownBlock → wpListIn F n Tryz.prog ops Q rest (a.put o.dst v') w') : wpListIn F n Tryz.prog ops Q (o :: rest) a w := by
  obtain ⟨v', w', hr, r1, r2⟩ := run_append_t o.type base v pre hown b t hc hlen hbase
  refine wpListIn_plain hgd fun K hK => ?_
  unfold Oper.wpIn
  refine ⟨?_, ?_⟩
  · simp [Oper.about, ho, resolve, Target.leads, Sem.run_pure]
  · rw [Oper.semAt_plain F _ _ (by rw [ho]; intro c hc'; cases hc')]
    simp [execOp, ho, resolve, invoke, builtin, hs, hx, hr, Result.andThen]
    exact hK _ _ (h v' w' r1 r2)
theorem OwnT.lit (w : World) (s : List UInt8) : OwnT (w.alloc (.cells #[.string (str s)] 9)) w.heap.size (.slice (some ⟨w.heap.size, 0, none⟩) 1 1) [s] := by
  have := World.ownsRow_lit (size := 1) (e := 9) w #[.string (str s)] 1 (Nat.le_refl _) (by simp [maxLen]) (by simp)
  exact this
theorem OwnT.lower {w : World} {base b : Nat} {v : Value} {l : List (List UInt8)} (h : OwnT w base v l) (hb : b ≤ base) : OwnT w b v l := by
  refine ⟨h.1, ?_⟩
  rcases h.2 with hn | ⟨g, cap, cur, rfl, hbg, rest⟩
  · exact .inl hn
  · exact .inr ⟨g, cap, cur, rfl, by omega, rest⟩
/-- A block that holds no text is not a row of texts. -/
theorem own_notT {w : World} {g base : Nat} {v u : Value} {b : List UInt8} {l : List (List UInt8)} (hc : w.cell? ⟨g, 0, none⟩ = some u) (hu : ∀ x, u ≠ .string x) (ho : OwnT w base v (b :: l)) : v.ownBlock ≠ some g := by
  obtain ⟨g', c, rfl, _, _, h⟩ := ho.cells (by simp)
  intro e
  have e2 : g' = g := by simpa [Value.ownBlock] using e
  subst e2
  have h1 := h 0 b rfl
  rw [hc] at h1
  exact hu _ (Option.some.inj h1)
/-- A slice that reads these texts. -/
def TxtS (n : Nat) (w : World) (v : Value) (l : List (List UInt8)) : Prop := ∃ ao c, v = .slice ao l.length c ∧ l.length ≤ c ∧ c ≤ maxLen ∧ (l ≠ [] → ∃ b, ao = some ⟨b, 0, none⟩ ∧ b < n ∧ ∀ (j : Nat) x, l[j]? = some x → w.cell? ⟨b, j, none⟩ = some (.string (str x))) ∧ ∀ a, ao = some a → ∃ b, a = ⟨b, 0, none⟩
theorem OwnT.txt {w : World} {b : Nat} {v : Value} {l : List (List UInt8)} (h : OwnT w b v l) : TxtS w.heap.size w v l := by
  rcases id h.2 with ⟨rfl, hn⟩ | ⟨g, cap, cur, rfl, hbg, hgg, hnc, hcm, hcs, ht⟩
  · have : l = [] := List.eq_nil_of_length_eq_zero (by simpa using hn)
    subst this
    exact ⟨none, 0, rfl, Nat.le_refl _, by simp [maxLen], fun h => absurd rfl h, fun a e => by cases e⟩
  · refine ⟨_, cap, rfl, hnc, hcm, fun hne => ?_, fun a e => by cases e; exact ⟨_, rfl⟩⟩
    obtain ⟨g', c', e, hg, _, hc⟩ := h.cells (by cases l with | nil => exact absurd rfl hne | cons _ _ => simp)
    have e2 : g' = g := by simp at e; exact e.1.symm
    subst e2
    exact ⟨g', rfl, hg, hc⟩
theorem TxtS.below {n m : Nat} {w w' : World} {v : Value} {l : List (List UInt8)} (h : TxtS n w v l) (hb : Below m w w') (hn : n ≤ m) : TxtS n w' v l := by
  obtain ⟨ao, c, rfl, h1, h2, h3, h4⟩ := h
  refine ⟨ao, c, rfl, h1, h2, fun hne => ?_, h4⟩
  obtain ⟨b, e, hb2, hc⟩ := h3 hne
  exact ⟨b, e, hb2, fun j x hx => (hb.cell (p := ⟨b, j, none⟩) (by simp only; omega)).trans (hc j x hx)⟩
theorem TxtS.mono {n m : Nat} {w : World} {v : Value} {l : List (List UInt8)} (h : TxtS n w v l) (hn : n ≤ m) : TxtS m w v l := by
  obtain ⟨ao, c, rfl, h1, h2, h3, h4⟩ := h
  refine ⟨ao, c, rfl, h1, h2, fun hne => ?_, h4⟩
  obtain ⟨b, e, hb2, hc⟩ := h3 hne
  exact ⟨b, e, by omega, hc⟩
theorem run_append_tx {w : World} (ty : TypeId) (base n : Nat) (v : Value) (pre : List (List UInt8)) (hown : OwnT w base v pre) (u : Value) (l : List (List UInt8)) (hu : TxtS n w u l)
    (hlen : pre.length + l.length ≤ 1000000) (hbase : base ≤ w.heap.size) :
    ∃ v' w', (Builtin.append_ #[55, 55] ty #[v, u]).run Tryz.prog w = .ok v' w' ∧ OwnT w' base v' (pre ++ l) ∧ w.grownBy w' v.ownBlock := by
  obtain ⟨i0, hi, hz0, hz1, hz2⟩ := info_parts info_str
  obtain ⟨ao, c, rfl, h1, h2, h3, h4⟩ := hu
  cases ao with
  | none =>
    have hl : l = [] := by
      rcases l with _ | ⟨y, l⟩
      · rfl
      · obtain ⟨b, e, _⟩ := h3 (by simp)
        cases e
    subst hl
    have hrun := run_append_none (P := Tryz.prog) (w := w) base 55 ty 9 i0 1 Tryz.underlying55 hi v pre.length c (pre.map strV) hown
    exact ⟨v, w, hrun, by simpa using hown, ⟨rfl, rfl, rfl, Nat.le_refl _, fun _ _ _ => rfl⟩⟩
  | some a =>
    obtain ⟨b, rfl⟩ := h4 a rfl
    obtain ⟨v', w', hr, r1, r2, _⟩ := run_append_own (P := Tryz.prog) w base 55 ty 9 i0 (.string ByteArray.empty) 1 16 Tryz.underlying55 hi hz0 hz1 hz2 rfl (by decide) v pre.length (pre.map strV) hown ⟨b, 0, none⟩ l.length c (l.map strV) (by simp)
      (fun j u hu => by
        rw [List.getElem?_map] at hu
        cases hj : l[j]? with
        | none => rw [hj] at hu; cases hu
        | some y =>
          rw [hj] at hu
          obtain rfl : strV y = u := Option.some.inj hu
          obtain ⟨b', e, _, hc⟩ := h3 (by rintro rfl; simp at hj)
          cases e
          have := hc j y hj
          rw [Lib.add_plain, Nat.zero_add]
          exact this)
      (fun u hu => by
        obtain ⟨y, _, rfl⟩ := List.mem_map.1 hu
        rfl) (by unfold maxLen; omega) (by omega) hbase
    refine ⟨v', w', hr, ?_, r2⟩
    unfold OwnT
    rw [List.length_append, List.map_append]
    exact r1
theorem wp_append_tx {w : World} {ops : Array Oper} {rest : List Oper} {o : Oper} {a : Act} {Q : Exit → Act → World → Prop} (hgd : o.guard = none) (s x : Operand)
    (ho : o.op = .call { callee := .builtin .append, args := #[s, x], argTypes := #[55, 55] }) (base n : Nat) (v : Value) (pre : List (List UInt8)) (hs : a.eval s = v) (hown : OwnT w base v pre)
    (u : Value) (l : List (List UInt8)) (hx : a.eval x = u) (hu : TxtS n w u l) (hlen : pre.length + l.length ≤ 1000000) (hbase : base ≤ w.heap.size)
    (h : ∀ v' w', OwnT w' base v' (pre ++ l) → w.grownBy w' v.ownBlock → wpList Tryz.prog ops Q rest (a.put o.dst v') w') : wpList Tryz.prog ops Q (o :: rest) a w := by
  obtain ⟨v', w', hrun, r1, r2⟩ := run_append_tx o.type base n v pre hown u l hu hlen hbase
  refine wpList_plain hgd fun K hK => ?_
  unfold Oper.wp
  simp [execOp, ho, resolve, invoke, builtin, hs, hx, hrun, Result.andThen]
  exact hK _ _ (h v' w' r1 r2)
theorem OwnT.turned {w w' : World} {base m : Nat} {v : Value} {l : List (List UInt8)} (h : OwnT w base v l) (hg : w.grownBy w' v.ownBlock) (hm : m ≤ base) (hs : base ≤ w.heap.size) : Below m w w' :=
  Below.grown (Below.refl _ _) hg (by omega) fun k hk => by have := (World.ownsRow.lt h k hk).1; omega
end Go.Proofs.YtbinmgpfkjmijaaGreatDoor
