/- A map of pages: its entries as a list, whatever their order: looked up, stored, struck, gone over. -/
import Derived.WalkKit
import Derived.WalkSpells
import Derived.Maps.OwnSet
import Derived.Maps.OwnOps
import Derived.Maps.RangeWalk
import Derived.Maps.Ext
import Derived.Lib.Hide
import Derived.Test.YtleihmmkonakhaaDoorRows
import Derived.Test.YtleihmmkonakhaaDoorLib
import Derived.Test.YtleihmmkonakhaaDoorMPlain
namespace Go.Proofs.YtleihmmkonakhaaDoor
open Go Go.RowKit Go.Maps

/-- How an element of the map reads: by the number of its page's block. -/
def pageElem : Value → Option (DataW Unit × List MemPlace)
  | .pointer (some ⟨b, 0, none⟩) => some (.lit (.int .u64 b), [])
  | .pointer none => some (.nil, [])
  | _ => none
def ptrV (c : Nat) : Value := .pointer (some ⟨c, 0, none⟩)
theorem pageElem_ptr (c : Nat) : pageElem (ptrV c) = some (.lit (.int .u64 c), []) := rfl
theorem pageElem_inv {v : Value} {c : Nat} {ps : List MemPlace} (h : pageElem v = some (.lit (.int .u64 c), ps)) : v = ptrV c := by
  unfold pageElem at h
  split at h
  · simp only [Option.some.injEq, Prod.mk.injEq, DataW.lit.injEq, Lit.int.injEq, true_and] at h
    have h1 := h.1
    rw [Int.natCast_inj] at h1
    rw [h1]; rfl
  · simp at h
  · cases h
theorem pageElem_nil {v : Value} {ps : List MemPlace} (h : pageElem v = some (.nil, ps)) : v = .pointer none := by
  unfold pageElem at h
  split at h
  · simp at h
  · rfl
  · cases h

abbrev keyK : Keyed Tryd.prog 29 := int_keyed Tryd.underlying29
def kL (p : Nat) : Lit := .int .u32 p
def ent (x : Nat × Nat) : Lit × DataW Unit := (kL x.1, .lit (.int .u64 x.2))
theorem kL_inj {p q : Nat} (h : kL p = kL q) : p = q := by unfold kL at h; simp at h; omega
theorem kL_key (p : Nat) : WideAt.IsKeyLit (kL p) := by unfold kL; simp [WideAt.IsKeyLit]
theorem key_mk {p : Nat} (hp : p < 4294967296) : keyOf Tryd.prog 29 (.int .u32 p) = some (kL p) :=
  keyOf_int_mk Tryd.underlying29 (by simp [Lit.wf, IntKind.min, IntKind.max, IntKind.bits, IntKind.signed]; omega)

abbrev ownsP (w : World) (b n : Nat) (D : DataW Unit) : Prop := w.ownsMap Tryd.prog 29 pageElem b n D

/-- Block b of w is a map whose entries are L, in whatever order. -/
def MapAt (w : World) (b : Nat) (L : List (Nat × Nat)) : Prop :=
  ∃ n es, ownsP w b n (.map es) ∧ es.Perm (L.map ent) ∧ n = L.length ∧ (∀ x ∈ L, x.1 < 4294967296) ∧ (L.map (·.1)).Nodup

theorem MapAt.lt {w : World} {b : Nat} {L : List (Nat × Nat)} (h : MapAt w b L) : b < w.heap.size := let ⟨_, _, h, _⟩ := h; h.lt
theorem MapAt.key {w : World} {b : Nat} {L : List (Nat × Nat)} (h : MapAt w b L) : ∀ x ∈ L, x.1 < 4294967296 := let ⟨_, _, _, _, _, h, _⟩ := h; h
theorem MapAt.nodup {w : World} {b : Nat} {L : List (Nat × Nat)} (h : MapAt w b L) : (L.map (·.1)).Nodup := let ⟨_, _, _, _, _, _, h⟩ := h; h
theorem MapAt.same {w w' : World} {b : Nat} {L : List (Nat × Nat)} (h : MapAt w b L) (hb : w'.heap[b]? = w.heap[b]?) : MapAt w' b L := by
  obtain ⟨n, es, ⟨es0, clock, h0, F, hs, hD⟩, hp, hn, hk, hd⟩ := h
  exact ⟨n, es, ⟨es0, clock, hb.trans h0, F, hs, hD⟩, hp, hn, hk, hd⟩
theorem MapAt.perm {w : World} {b : Nat} {L L' : List (Nat × Nat)} (h : MapAt w b L) (hp : L.Perm L') : MapAt w b L' := by
  obtain ⟨n, es, h0, h1, hn, hk, hd⟩ := h
  exact ⟨n, es, h0, h1.trans (hp.map _), hn.trans hp.length_eq, fun x hx => hk x (hp.mem_iff.2 hx), (hp.map _).nodup_iff.1 hd⟩
theorem MapAt.made (w : World) : MapAt (w.alloc (.map #[] 0)) w.heap.size [] :=
  ⟨0, [], World.ownsMap_made w _ _ _, List.Perm.refl _, rfl, fun _ h => by simp at h, List.nodup_nil⟩

theorem ent_apart {L : List (Nat × Nat)} (h : (L.map (·.1)).Nodup) : (L.map ent).Pairwise (fun p q => p.1 ≠ q.1) := by
  rw [List.pairwise_map]
  rw [List.nodup_iff_pairwise_ne, List.pairwise_map] at h
  exact h.imp fun hne e => hne (kL_inj e)
theorem perm_apart {es : List (Lit × DataW Unit)} {L : List (Nat × Nat)} (hp : es.Perm (L.map ent)) (h : (L.map (·.1)).Nodup) : es.Pairwise (fun p q => p.1 ≠ q.1) :=
  (hp.pairwise_iff (fun {_ _} hne => Ne.symm hne)).2 (ent_apart h)
theorem at_yes {es : List (Lit × DataW Unit)} {L : List (Nat × Nat)} (hp : es.Perm (L.map ent)) (h : (L.map (·.1)).Nodup) {p c : Nat} (hm : (p, c) ∈ L) (z : DataW Unit) :
    (DataW.map es).atKey (kL p) z = .lit (.int .u64 c) :=
  WideAt.atKey_mem z (kL_key p) (perm_apart hp h) (hp.mem_iff.2 (List.mem_map.2 ⟨(p, c), hm, rfl⟩))
theorem at_no {es : List (Lit × DataW Unit)} {L : List (Nat × Nat)} (hp : es.Perm (L.map ent)) {p : Nat} (hm : p ∉ L.map (·.1)) (z : DataW Unit) :
    (DataW.map es).atKey (kL p) z = z := by
  refine WideAt.atKey_none z fun x hx e => hm ?_
  obtain ⟨y, hy, rfl⟩ := List.mem_map.1 (hp.mem_iff.1 hx)
  exact List.mem_map.2 ⟨y, hy, kL_inj e⟩

theorem zero_ptr (w : World) : (zeroValue 62).run Tryd.prog w = .ok (.pointer none) w := by kernel_rfl

theorem MapAt.look_yes {w : World} {b : Nat} {L : List (Nat × Nat)} (h : MapAt w b L) {p c : Nat} (hm : (p, c) ∈ L) :
    (Instr.lookup 50 (.map (some b)) (.int .u32 p) false).run Tryd.prog w = .ok (ptrV c) w := by
  obtain ⟨n, es, ho, hp, hn, hk, hd⟩ := h
  obtain ⟨v, ps, hrun, hv⟩ := ho.lookup keyK Tryd.underlying50 (zero_ptr w) (zd := .nil) rfl (key_mk (hk _ hm))
  rw [at_yes hp hd hm] at hv
  rw [hrun, pageElem_inv hv]
theorem MapAt.look_no {w : World} {b : Nat} {L : List (Nat × Nat)} (h : MapAt w b L) {p : Nat} (hp32 : p < 4294967296) (hm : p ∉ L.map (·.1)) :
    (Instr.lookup 50 (.map (some b)) (.int .u32 p) false).run Tryd.prog w = .ok (.pointer none) w := by
  obtain ⟨n, es, ho, hp, hn, hk, hd⟩ := h
  obtain ⟨v, ps, hrun, hv⟩ := ho.lookup keyK Tryd.underlying50 (zero_ptr w) (zd := .nil) rfl (key_mk hp32)
  rw [at_no hp hm] at hv
  rw [hrun, pageElem_nil hv]

theorem ownsP_size {w : World} {b n : Nat} {es : List (Lit × DataW Unit)} (h : ownsP w b n (.map es)) : ownsP w b es.length (.map es) := by
  obtain ⟨es0, clock, h0, F, hs, hD⟩ := h
  refine ⟨es0, clock, h0, F, ?_, hD⟩
  simp only [DataW.map.injEq] at hD
  rw [hD]
  simp [length_sorted]

/-- m[p] = v, where p is none of its keys. -/
theorem MapAt.put {w : World} {b : Nat} {L : List (Nat × Nat)} (h : MapAt w b L) (hl : L.length < maxLen) {p c : Nat} (hp32 : p < 4294967296) (hm : p ∉ L.map (·.1)) :
    ∃ w', (Instr.mapUpdate 50 (.map (some b)) (.int .u32 p) (ptrV c)).run Tryd.prog w = .ok () w' ∧ MapAt w' b ((p, c) :: L) ∧ w.grownBy w' (some b) := by
  obtain ⟨n, es, ho, hp, rfl, hk, hd⟩ := h
  obtain ⟨w', hrun, h1, h2⟩ := ho.update keyK Tryd.underlying50 hl (key_mk hp32) (pageElem_ptr c)
  refine ⟨w', hrun, ⟨L.length + 1, _, h1, ?_, rfl, ?_, ?_⟩, h2⟩
  · have e1 : (es.filter fun x => !x.1.sameKey (kL p)) = es := List.filter_eq_self.2 fun x hx => by
      obtain ⟨y, hy, rfl⟩ := List.mem_map.1 (hp.mem_iff.1 hx)
      cases hs : (ent y).1.sameKey (kL p)
      · rfl
      · exact absurd (List.mem_map.2 ⟨y, hy, kL_inj (WideAt.sameKey_eq hs)⟩) hm
    rw [e1]
    exact (WideShapes.insert_perm _ _).trans (hp.cons _)
  · intro x hx
    rcases List.mem_cons.1 hx with rfl | hx
    · exact hp32
    · exact hk x hx
  · exact List.nodup_cons.2 ⟨hm, hd⟩

/-- delete(m, p). -/
theorem MapAt.del {w : World} {b : Nat} {L : List (Nat × Nat)} (h : MapAt w b L) {p : Nat} (hp32 : p < 4294967296) (ty : TypeId) :
    ∃ w', (Builtin.delete_ #[50, 29] ty #[.map (some b), .int .u32 p]).run Tryd.prog w = .ok (.tuple #[]) w' ∧ MapAt w' b (L.filter fun x => x.1 != p) ∧ w.grownBy w' (some b) := by
  obtain ⟨n, es, ho, hp, rfl, hk, hd⟩ := h
  obtain ⟨w', hrun, h1, h2⟩ := ho.drop keyK Tryd.underlying50 (key_mk hp32) ty
  have e0 : ∀ y : Nat × Nat, (!(ent y).1.sameKey (kL p)) = (y.1 != p) := fun y => by
    cases hs : (ent y).1.sameKey (kL p)
    · have hne : y.1 ≠ p := fun e => by
        rw [show (ent y).1 = kL p by rw [← e]; rfl, WideAt.sameKey_self (kL_key p)] at hs; cases hs
      simp [hne]
    · simp [kL_inj (WideAt.sameKey_eq hs)]
  have e1 : (es.filter fun x => !x.1.sameKey (kL p)).Perm ((L.filter fun x => x.1 != p).map ent) := by
    refine (hp.filter _).trans ?_
    rw [List.filter_map]
    have : ((fun x : Lit × DataW Unit => !x.1.sameKey (kL p)) ∘ ent) = fun x => x.1 != p := funext e0
    rw [this]
  refine ⟨w', hrun, ⟨_, _, ownsP_size h1, e1, by rw [e1.length_eq, List.length_map], fun x hx => hk x (List.mem_filter.1 hx).1, ?_⟩, h2.grown⟩
  exact hd.sublist ((List.filter_sublist).map _)

theorem MapAt.len {w : World} {b : Nat} {L : List (Nat × Nat)} (h : MapAt w b L) (ty : TypeId) :
    (Builtin.len_ #[50] ty #[.map (some b)]).run Tryd.prog w = .ok (.int .i64 (L.length : Nat)) w := by
  obtain ⟨n, es, ho, hp, rfl, hk, hd⟩ := h
  rw [ho.len Tryd.underlying50 ty, Maps.size_eq, hp.length_eq, List.length_map]

/-- A range over it: todo is what is still to come. -/
def RngAt (w : World) (b r : Nat) (L todo : List (Nat × Nat)) : Prop :=
  ∃ n es left cnt, w.ranges Tryd.prog 29 pageElem b r n (.map es) left cnt ∧ es.Perm (L.map ent) ∧ (∀ x ∈ L, x.1 < 4294967296) ∧ (L.map (·.1)).Nodup ∧
    todo.Sublist L ∧ ∀ p, left (kL p) = decide (p ∈ todo.map (·.1))

theorem RngAt.same {w w' : World} {b r : Nat} {L todo : List (Nat × Nat)} (h : RngAt w b r L todo) (hb : w'.heap[b]? = w.heap[b]?) (hr : w'.heap[r]? = w.heap[r]?) : RngAt w' b r L todo := by
  obtain ⟨n, es, left, cnt, ⟨es0, clock, since, seen, c0, h1, h2, h3, h4, h5, h6⟩, h7⟩ := h
  exact ⟨n, es, left, cnt, ⟨es0, clock, since, seen, c0, hb.trans h1, h2, h3, h4, hr.trans h5, h6⟩, h7⟩
theorem rangeLeft_same {w w' : World} {b r : Nat} (hb : w'.heap[b]? = w.heap[b]?) (hr : w'.heap[r]? = w.heap[r]?) : w'.rangeLeft b r = w.rangeLeft b r := by
  unfold World.rangeLeft
  rw [hb, hr]
theorem RngAt.lt {w : World} {b r : Nat} {L todo : List (Nat × Nat)} (h : RngAt w b r L todo) : r < w.heap.size := let ⟨_, _, _, _, h, _⟩ := h; h.lt
theorem RngAt.ne {w : World} {b r : Nat} {L todo : List (Nat × Nat)} (h : RngAt w b r L todo) : r ≠ b := let ⟨_, _, _, _, h, _⟩ := h; h.ne
theorem RngAt.map {w : World} {b r : Nat} {L todo : List (Nat × Nat)} (h : RngAt w b r L todo) : MapAt w b L := by
  obtain ⟨n, es, left, cnt, h1, h2, h3, h4, _⟩ := h
  exact ⟨_, es, ownsP_size h1.owns, h2, by rw [h2.length_eq, List.length_map], h3, h4⟩

theorem MapAt.range {w : World} {b : Nat} {L : List (Nat × Nat)} (h : MapAt w b L) :
    ∃ w', (Instr.range 50 (.map (some b))).run Tryd.prog w = .ok (.pointer (some ⟨w.heap.size, 0, none⟩)) w' ∧ RngAt w' b w.heap.size L L ∧ Adds w w' ∧ w'.heap.size = w.heap.size + 1 := by
  obtain ⟨n, es, ho, hp, rfl, hk, hd⟩ := h
  obtain ⟨w', hrun, h1, h2, h3⟩ := ho.range keyK Tryd.underlying50
  refine ⟨w', hrun, ⟨_, es, _, _, h1, hp, hk, hd, List.Sublist.refl _, fun p => ?_⟩, (Below.refl _ w).grown h2 (Nat.le_refl _) (fun k hk => by cases hk), h3⟩
  rw [Maps.has_eq]
  by_cases hm : p ∈ L.map (·.1)
  · obtain ⟨x, hx, rfl⟩ := List.mem_map.1 hm
    rw [decide_eq_true hm]
    exact List.any_eq_true.2 ⟨ent x, hp.mem_iff.2 (List.mem_map.2 ⟨x, hx, rfl⟩), WideAt.sameKey_self (kL_key _)⟩
  · rw [decide_eq_false hm]
    rw [Bool.eq_false_iff]
    intro ha
    obtain ⟨e, he, hs⟩ := List.any_eq_true.1 ha
    obtain ⟨y, hy, rfl⟩ := List.mem_map.1 (hp.mem_iff.1 he)
    exact hm (List.mem_map.2 ⟨y, hy, kL_inj (WideAt.sameKey_eq hs)⟩)

/-- The next entry: none is left; or one comes, and what is behind it. -/
theorem RngAt.next {w : World} {b r : Nat} {L todo : List (Nat × Nat)} (h : RngAt w b r L todo) (ty : TypeId) :
    (todo = [] ∧ (Instr.next (.pointer (some ⟨r, 0, none⟩)) false ty).run Tryd.prog w = .ok (.tuple #[.bool false]) w) ∨
    ∃ p c todo' w', todo.Perm ((p, c) :: todo') ∧ (p, c) ∈ L ∧ (Instr.next (.pointer (some ⟨r, 0, none⟩)) false ty).run Tryd.prog w = .ok (.tuple #[.bool true, .int .u32 p, ptrV c]) w' ∧
      RngAt w' b r L todo' ∧ w.grownBy w' (some r) ∧ w'.heap.size = w.heap.size ∧ w'.rangeLeft b r < w.rangeLeft b r ∧ (Instr.entry (.pointer (some ⟨r, 0, none⟩))).run Tryd.prog w' = .ok (.tuple #[.int .u32 p, ptrV c]) w' := by
  obtain ⟨n, es, left, cnt, h1, hp, hk, hd, hsub, hl⟩ := h
  rcases h1.next keyK ty with ⟨_, h0, hrun⟩ | ⟨key, v, kl, y, w', cnt', hkey, hlx, hv, hat, hrun, hrg, hlt, hgr, hsz, hen⟩
  · refine .inl ⟨?_, hrun⟩
    cases todo with
    | nil => rfl
    | cons x t => have := hl x.1; rw [h0] at this; simp at this
  · obtain ⟨q, rfl, rfl, hwf⟩ := keyOf_int_inv Tryd.underlying29 hkey
    obtain ⟨x0, hx0, hk0⟩ : ∃ x0 ∈ es, x0.1 = Lit.int .u32 q := by
      obtain ⟨es0, clock, since, seen, c0, _, _, _, hD, _, _, _, _, hl2, _⟩ := h1
      obtain ⟨e0, he0, hk0⟩ := hl2 _ hlx
      simp only [DataW.map.injEq] at hD
      exact ⟨_, by rw [hD]; exact mem_sorted.2 (List.mem_map.2 ⟨e0, he0, rfl⟩), hk0⟩
    obtain ⟨⟨p, c⟩, hm, rfl⟩ := List.mem_map.1 (hp.mem_iff.1 hx0)
    have hq : (p : Int) = q := by
      simp only [ent, kL, Lit.int.injEq, true_and] at hk0
      exact hk0
    subst hq
    have hl' := hl p
    rw [show left (kL p) = true from hlx] at hl'
    have hmem : p ∈ todo.map (·.1) := of_decide_eq_true hl'.symm
    obtain ⟨⟨p', c'⟩, hmt, e⟩ := List.mem_map.1 hmem
    simp only at e
    subst e
    have hc : c' = c := by
      have e1 := at_yes hp hd (hsub.subset hmt) .nil
      have e2 := at_yes hp hd hm .nil
      rw [e1] at e2
      simp only [DataW.lit.injEq, Lit.int.injEq, true_and] at e2
      omega
    subst hc
    have hy := hat .nil
    rw [show (Lit.int .u32 ((p' : Nat) : Int)) = kL p' from rfl, at_yes hp hd hm] at hy
    obtain ⟨y1, y2⟩ := y
    simp only at hy
    subst hy
    rw [pageElem_inv hv] at hrun hen
    have hdt : (todo.map (·.1)).Nodup := hd.sublist (hsub.map _)
    obtain ⟨t1, t2, ht⟩ := List.append_of_mem hmt
    refine .inr ⟨p', c', t1 ++ t2, w', by rw [ht]; exact List.perm_middle, hm, hrun, ⟨n, es, _, cnt', hrg, hp, hk, hd, ?_, fun q => ?_⟩, hgr, hsz, by rw [hrg.left_eq, h1.left_eq]; exact hlt, hen⟩
    · refine List.Sublist.trans ?_ hsub
      rw [ht]
      exact (List.Sublist.refl t1).append (List.sublist_cons_self _ _)
    · have hperm : (todo.map (·.1)).Perm (p' :: (t1 ++ t2).map (·.1)) := by
        have := (List.perm_middle (a := ((p', c') : Nat × Nat)) (l₁ := t1) (l₂ := t2)).map (·.1)
        rw [ht]; exact this
      have hnd := hperm.nodup_iff.1 hdt
      have hno := (List.nodup_cons.1 hnd).1
      show (left (kL q) && !(kL q).sameKey (Lit.int .u32 ((p' : Nat) : Int))) = _
      rw [hl q, show (Lit.int .u32 ((p' : Nat) : Int)) = kL p' from rfl]
      by_cases e : q = p'
      · subst e
        rw [WideAt.sameKey_self (kL_key q), decide_eq_false hno]; simp
      · have hs : (kL q).sameKey (kL p') = false := by
          cases hs : (kL q).sameKey (kL p')
          · rfl
          · exact absurd (kL_inj (WideAt.sameKey_eq hs)) e
        rw [hs]
        simp only [Bool.not_false, Bool.and_true]
        apply decide_eq_decide.2
        rw [hperm.mem_iff]
        simp [e]
end Go.Proofs.YtleihmmkonakhaaDoor
