/- Holders by a list: who holds each, one more than it; 0: it is free. The operations on such a map, for the walk. -/
import Derived.Test.YtdmbjonbcomphaaUMap
namespace Go.Proofs.Ytdmbjonbcomphaa
open Go Go.RowKit Go.Maps

/-- Who holds one, one more; 0 of a free one, and of one that is not there. -/
def atL (l : List Int) (i : Int) : Int := if 0 ≤ i then l.getD i.toNat 0 else 0
def whoL (l : List Int) (i : Int) : Int := if atL l i = 0 then 0 else atL l i - 1
theorem atL_neg {l : List Int} {i : Int} (h : i < 0) : atL l i = 0 := by unfold atL; rw [if_neg (by omega)]
theorem atL_beyond {l : List Int} {i : Int} (h : (l.length : Int) ≤ i) : atL l i = 0 := by
  unfold atL
  split
  · rw [List.getD_eq_getElem?_getD, List.getElem?_eq_none (by omega)]; rfl
  · rfl
theorem atL_in {l : List Int} {i : Int} (h : atL l i ≠ 0) : 0 ≤ i ∧ i < l.length := by
  constructor
  · by_cases h1 : i < 0
    · exact absurd (atL_neg h1) h
    · omega
  · by_cases h1 : i < l.length
    · exact h1
    · exact absurd (atL_beyond (by omega)) h
theorem atL_nat {l : List Int} (n : Nat) : atL l (n : Int) = l.getD n 0 := by unfold atL; rw [if_pos (by omega)]; simp
theorem atL_set {l : List Int} {i : Int} (h0 : 0 ≤ i) (h1 : i < l.length) (x j : Int) : atL (l.set i.toNat x) j = if j = i then x else atL l j := by
  unfold atL
  by_cases hj : 0 ≤ j
  · rw [if_pos hj, if_pos hj]
    by_cases e : j = i
    · subst e
      rw [if_pos rfl, List.getD_eq_getElem?_getD, List.getElem?_set_self (by omega)]; rfl
    · rw [if_neg e, List.getD_eq_getElem?_getD, List.getD_eq_getElem?_getD, List.getElem?_set_ne (by omega)]
  · rw [if_neg hj, if_neg hj, if_neg (by omega)]

/-- Block b of w is a map of just those that are held. -/
def HolF (w : World) (b : Nat) (l : List Int) : Prop := ∃ L, HolAt w b L ∧ ∀ i c, (i, c) ∈ L ↔ (atL l i ≠ 0 ∧ c = atL l i - 1)
theorem HolF.lt {w : World} {b : Nat} {l : List Int} (h : HolF w b l) : b < w.heap.size := let ⟨_, h, _⟩ := h; h.lt
theorem HolF.same {w w' : World} {b : Nat} {l : List Int} (h : HolF w b l) (hb : w'.heap[b]? = w.heap[b]?) : HolF w' b l := let ⟨L, h, k⟩ := h; ⟨L, h.same hb, k⟩
theorem HolF.adds {w w' : World} {b : Nat} {l : List Int} (h : HolF w b l) (ha : Adds w w') : HolF w' b l := h.same (ha.block b h.lt)
theorem HolF.made (w : World) (n : Nat) : HolF (w.alloc (.map #[] 0)) w.heap.size (List.replicate n 0) :=
  ⟨[], HolAt.made w, fun i c => ⟨fun h => by simp at h, fun h => absurd (by
    unfold atL
    split
    · rw [List.getD_eq_getElem?_getD, List.getElem?_replicate]; split <;> rfl
    · rfl) h.1⟩⟩
theorem HolF.key {L : List IP} {l : List Int} (hL : ∀ i c, (i, c) ∈ L ↔ (atL l i ≠ 0 ∧ c = atL l i - 1)) (i : Int) : i ∈ L.map (·.1) ↔ atL l i ≠ 0 := by
  constructor
  · intro h
    obtain ⟨⟨j, c⟩, hm, rfl⟩ := List.mem_map.1 h
    exact ((hL _ _).1 hm).1
  · intro h
    exact List.mem_map.2 ⟨(i, atL l i - 1), (hL _ _).2 ⟨h, rfl⟩, rfl⟩

theorem nodup_sub_lenI : ∀ (l m : List Int), l.Nodup → (∀ x ∈ l, x ∈ m) → l.length ≤ m.length
  | [], _, _, _ => Nat.zero_le _
  | x :: t, m, hd, h => by
    obtain ⟨h1, h2⟩ := List.nodup_cons.1 hd
    have hx := h x (by simp)
    have ih := nodup_sub_lenI t (m.erase x) h2 (fun y hy => (List.mem_erase_of_ne (fun e => h1 (by rw [← e]; exact hy))).2 (h y (by simp [hy])))
    rw [List.length_erase_of_mem hx] at ih
    have : 0 < m.length := List.length_pos_iff.2 (fun e => by rw [e] at hx; simp at hx)
    simp only [List.length_cons]
    omega
theorem HolAt.many {w : World} {b : Nat} {L : List IP} {l : List Int} (h : HolAt w b L) (hL : ∀ i c, (i, c) ∈ L ↔ (atL l i ≠ 0 ∧ c = atL l i - 1)) : L.length ≤ l.length := by
  have h1 := nodup_sub_lenI (L.map (·.1)) ((List.range l.length).map fun n : Nat => (n : Int)) h.nodup (fun i hi => by
    have h2 := atL_in ((HolF.key hL i).1 hi)
    exact List.mem_map.2 ⟨i.toNat, by simp; omega, by omega⟩)
  simpa using h1

theorem has_yes {w : World} {b : Nat} {L : List IP} (h : HolAt w b L) {p c : Int} (hm : (p, c) ∈ L) :
    (Instr.lookup 46 (.map (some b)) (.int .i64 p) true).run Try.prog w = .ok (.tuple #[.int .i64 c, .bool true]) w := by
  obtain ⟨n, es, ho, hp, hn, hk, hd⟩ := h
  obtain ⟨v, ps, hrun, hv⟩ := ho.look_ok keyK Try.underlying46 (zero_ptr w) (zd := .lit (.int .i64 0)) rfl (key_mk (hk _ hm))
  rw [at_yes hp hd hm] at hv
  have hh : Maps.has (DataW.map es) (kL p) = true := List.any_eq_true.2 ⟨ent (p, c), hp.mem_iff.2 (List.mem_map.2 ⟨_, hm, rfl⟩), WideAt.sameKey_self (kL_key _)⟩
  rw [hrun, pageElem_inv hv, hh]
  rfl
theorem has_no {w : World} {b : Nat} {L : List IP} (h : HolAt w b L) {p : Int} (hp64 : In64 p) (hm : p ∉ L.map (·.1)) :
    (Instr.lookup 46 (.map (some b)) (.int .i64 p) true).run Try.prog w = .ok (.tuple #[.int .i64 0, .bool false]) w := by
  obtain ⟨n, es, ho, hp, hn, hk, hd⟩ := h
  obtain ⟨v, ps, hrun, hv⟩ := ho.look_ok keyK Try.underlying46 (zero_ptr w) (zd := .lit (.int .i64 0)) rfl (key_mk hp64)
  rw [at_no hp hm] at hv
  have hh : Maps.has (DataW.map es) (kL p) = false := by
    rw [Bool.eq_false_iff]
    intro ha
    obtain ⟨e, he, hs⟩ := List.any_eq_true.1 ha
    obtain ⟨y, hy, rfl⟩ := List.mem_map.1 (hp.mem_iff.1 he)
    exact hm (List.mem_map.2 ⟨y, hy, kL_inj (WideAt.sameKey_eq hs)⟩)
  rw [hrun, pageElem_inv hv, hh]
  rfl
theorem HolF.has {w : World} {b : Nat} {l : List Int} (h : HolF w b l) {i : Int} (hi : In64 i) :
    (Instr.lookup 46 (.map (some b)) (.int .i64 i) true).run Try.prog w = .ok (.tuple #[.int .i64 (whoL l i), .bool (decide (atL l i ≠ 0))]) w := by
  obtain ⟨L, h, hL⟩ := h
  unfold whoL
  by_cases e : atL l i = 0
  · rw [if_pos e, has_no h hi (fun hm => (HolF.key hL i).1 hm e)]
    simp [e]
  · rw [if_neg e, has_yes h ((hL i _).2 ⟨e, rfl⟩)]
    simp [e]
theorem HolF.look {w : World} {b : Nat} {l : List Int} (h : HolF w b l) {i : Int} (hi : In64 i) :
    (Instr.lookup 46 (.map (some b)) (.int .i64 i) false).run Try.prog w = .ok (.int .i64 (whoL l i)) w := by
  obtain ⟨L, h, hL⟩ := h
  unfold whoL
  by_cases e : atL l i = 0
  · rw [if_pos e, h.look_no hi (fun hm => (HolF.key hL i).1 hm e)]
  · rw [if_neg e, h.look_yes ((hL i _).2 ⟨e, rfl⟩)]
    rfl

section
variable {ops : Array Oper} {rest : List Oper} {o : Oper} {a : Act} {w : World} {Q : Exit → Act → World → Prop}
theorem wpList_putH (hg : o.guard = none) (m x v : Operand) (hop : o.op = Op.mapUpdate 46 m x v) (b : Nat) (p c : Int) (l : List Int) (hm : a.eval m = .map (some b)) (hx : a.eval x = .int .i64 p) (hv : a.eval v = .int .i64 c)
    (h : HolF w b l) (hl : l.length ≤ 64) (h0 : 0 ≤ p) (h1 : p < l.length) (hn : atL l p = 0) (hc : 0 ≤ c)
    (hK : ∀ w', HolF w' b (l.set p.toNat (c + 1)) → TnS b w w' → wpList Try.prog ops Q rest (a.put o.dst undef) w') : wpList Try.prog ops Q (o :: rest) a w := by
  refine wpList_plain hg fun K' hK' => ?_
  obtain ⟨L, h, hL⟩ := h
  obtain ⟨w', hrun, r1, r2⟩ := h.put (by have := h.many hL; unfold maxLen; omega) (p := p) (c := c) ⟨by omega, by omega⟩ (fun hm => (HolF.key hL p).1 hm hn)
  unfold ptrV at hrun
  unfold Oper.wp
  simp [execOp, hop, hm, hx, hv, hrun, Result.andThen]
  refine hK' _ _ (hK w' ⟨_, r1, fun i d => ?_⟩ r2)
  rw [atL_set h0 h1]
  constructor
  · intro hm
    rcases List.mem_cons.1 hm with e | e
    · cases e
      rw [if_pos rfl]
      omega
    · have h2 := (hL i d).1 e
      have h3 : i ≠ p := fun e => h2.1 (by rw [e]; exact hn)
      rw [if_neg h3]
      exact h2
  · intro hm
    by_cases e : i = p
    · subst e
      rw [if_pos rfl] at hm
      have : d = c := by omega
      subst this
      simp
    · rw [if_neg e] at hm
      exact List.mem_cons_of_mem _ ((hL i d).2 hm)
theorem wpList_delH (hg : o.guard = none) (m x : Operand) (hop : o.op = Op.call { callee := Callee.builtin Builtin.delete, args := #[m, x], argTypes := #[46, 3] }) (b : Nat) (p : Int) (l : List Int)
    (hm : a.eval m = .map (some b)) (hx : a.eval x = .int .i64 p) (h : HolF w b l) (hl : l.length ≤ 64) (h0 : 0 ≤ p) (h1 : p < l.length)
    (hK : ∀ w', HolF w' b (l.set p.toNat 0) → TnS b w w' → wpList Try.prog ops Q rest (a.put o.dst (.tuple #[])) w') : wpList Try.prog ops Q (o :: rest) a w := by
  refine wpList_plain hg fun K' hK' => ?_
  obtain ⟨L, h, hL⟩ := h
  obtain ⟨w', hrun, r1, r2⟩ := h.del (p := p) ⟨by omega, by omega⟩ o.type
  unfold Oper.wp
  simp [execOp, hop, resolve, invoke, builtin, hm, hx, hrun, Result.andThen]
  refine hK' _ _ (hK w' ⟨_, r1, fun i d => ?_⟩ r2)
  rw [atL_set h0 h1, List.mem_filter, hL]
  by_cases e : i = p
  · subst e
    simp
  · simp [e]
end
theorem HolF.run_make (w : World) : (Instr.makeMap 46 none).run Try.prog w = .ok (.map (some w.heap.size)) (w.alloc (.map #[] 0)) := by
  simp [Instr.makeMap, Result.andThen]
end Go.Proofs.Ytdmbjonbcomphaa
