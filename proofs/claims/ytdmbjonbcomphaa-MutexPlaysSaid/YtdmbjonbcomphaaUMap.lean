/- A map of holders: its entries as a list, whatever their order: looked up, stored, struck, gone over. -/
import Derived.WalkKit
import Derived.WalkSpells
import Derived.Maps.OwnSet
import Derived.Maps.OwnOps
import Derived.Maps.RangeWalk
import Derived.Maps.Ext
import Derived.Lib.Hide
import Derived.Test.YtdmbjonbcomphaaRows
import Derived.Test.YtdmbjonbcomphaaUMem
namespace Go.Proofs.Ytdmbjonbcomphaa
open Go Go.RowKit Go.Maps

abbrev IP := Int × Int
/-- How an element of the map reads. -/
def holdElem : Value → Option (DataW Unit × List MemPlace)
  | .int .i64 c => some (.lit (.int .i64 c), [])
  | _ => none
def ptrV (c : Int) : Value := .int .i64 c
theorem pageElem_ptr (c : Int) : holdElem (ptrV c) = some (.lit (.int .i64 c), []) := rfl
theorem pageElem_inv {v : Value} {c : Int} {ps : List MemPlace} (h : holdElem v = some (.lit (.int .i64 c), ps)) : v = ptrV c := by
  unfold holdElem at h
  split at h
  · simp only [Option.some.injEq, Prod.mk.injEq, DataW.lit.injEq, Lit.int.injEq, true_and] at h
    rw [h.1]; rfl
  · cases h
def In64 (p : Int) : Prop := -9223372036854775808 ≤ p ∧ p < 9223372036854775808

abbrev keyK : Keyed Try.prog 3 := int_keyed Try.underlying3
def kL (p : Int) : Lit := .int .i64 p
def ent (x : IP) : Lit × DataW Unit := (kL x.1, .lit (.int .i64 x.2))
theorem kL_inj {p q : Int} (h : kL p = kL q) : p = q := by unfold kL at h; simpa using h
theorem kL_key (p : Int) : WideAt.IsKeyLit (kL p) := by unfold kL; simp [WideAt.IsKeyLit]
theorem key_mk {p : Int} (hp : In64 p) : keyOf Try.prog 3 (.int .i64 p) = some (kL p) :=
  keyOf_int_mk Try.underlying3 (by obtain ⟨h1, h2⟩ := hp; simp [Lit.wf, IntKind.min, IntKind.max, IntKind.bits, IntKind.signed]; omega)

abbrev ownsP (w : World) (b n : Nat) (D : DataW Unit) : Prop := w.ownsMap Try.prog 3 holdElem b n D

/-- Block b of w is a map whose entries are L, in whatever order. -/
def HolAt (w : World) (b : Nat) (L : List IP) : Prop :=
  ∃ n es, ownsP w b n (.map es) ∧ es.Perm (L.map ent) ∧ n = L.length ∧ (∀ x ∈ L, In64 x.1) ∧ (L.map (·.1)).Nodup

theorem HolAt.lt {w : World} {b : Nat} {L : List IP} (h : HolAt w b L) : b < w.heap.size := let ⟨_, _, h, _⟩ := h; h.lt
theorem HolAt.key {w : World} {b : Nat} {L : List IP} (h : HolAt w b L) : ∀ x ∈ L, In64 x.1 := let ⟨_, _, _, _, _, h, _⟩ := h; h
theorem HolAt.nodup {w : World} {b : Nat} {L : List IP} (h : HolAt w b L) : (L.map (·.1)).Nodup := let ⟨_, _, _, _, _, _, h⟩ := h; h
theorem HolAt.same {w w' : World} {b : Nat} {L : List IP} (h : HolAt w b L) (hb : w'.heap[b]? = w.heap[b]?) : HolAt w' b L := by
  obtain ⟨n, es, ⟨es0, clock, h0, F, hs, hD⟩, hp, hn, hk, hd⟩ := h
  exact ⟨n, es, ⟨es0, clock, hb.trans h0, F, hs, hD⟩, hp, hn, hk, hd⟩
theorem HolAt.perm {w : World} {b : Nat} {L L' : List IP} (h : HolAt w b L) (hp : L.Perm L') : HolAt w b L' := by
  obtain ⟨n, es, h0, h1, hn, hk, hd⟩ := h
  exact ⟨n, es, h0, h1.trans (hp.map _), hn.trans hp.length_eq, fun x hx => hk x (hp.mem_iff.2 hx), (hp.map _).nodup_iff.1 hd⟩
theorem HolAt.made (w : World) : HolAt (w.alloc (.map #[] 0)) w.heap.size [] :=
  ⟨0, [], World.ownsMap_made w _ _ _, List.Perm.refl _, rfl, fun _ h => by simp at h, List.nodup_nil⟩

theorem ent_apart {L : List IP} (h : (L.map (·.1)).Nodup) : (L.map ent).Pairwise (fun p q => p.1 ≠ q.1) := by
  rw [List.pairwise_map]
  rw [List.nodup_iff_pairwise_ne, List.pairwise_map] at h
  exact h.imp fun hne e => hne (kL_inj e)
theorem perm_apart {es : List (Lit × DataW Unit)} {L : List IP} (hp : es.Perm (L.map ent)) (h : (L.map (·.1)).Nodup) : es.Pairwise (fun p q => p.1 ≠ q.1) :=
  (hp.pairwise_iff (fun {_ _} hne => Ne.symm hne)).2 (ent_apart h)
theorem at_yes {es : List (Lit × DataW Unit)} {L : List IP} (hp : es.Perm (L.map ent)) (h : (L.map (·.1)).Nodup) {p c : Int} (hm : (p, c) ∈ L) (z : DataW Unit) :
    (DataW.map es).atKey (kL p) z = .lit (.int .i64 c) :=
  WideAt.atKey_mem z (kL_key p) (perm_apart hp h) (hp.mem_iff.2 (List.mem_map.2 ⟨(p, c), hm, rfl⟩))
theorem at_no {es : List (Lit × DataW Unit)} {L : List IP} (hp : es.Perm (L.map ent)) {p : Int} (hm : p ∉ L.map (·.1)) (z : DataW Unit) :
    (DataW.map es).atKey (kL p) z = z := by
  refine WideAt.atKey_none z fun x hx e => hm ?_
  obtain ⟨y, hy, rfl⟩ := List.mem_map.1 (hp.mem_iff.1 hx)
  exact List.mem_map.2 ⟨y, hy, kL_inj e⟩

theorem zero_ptr (w : World) : (zeroValue 3).run Try.prog w = .ok (.int .i64 0) w := by kernel_rfl

theorem HolAt.look_yes {w : World} {b : Nat} {L : List IP} (h : HolAt w b L) {p c : Int} (hm : (p, c) ∈ L) :
    (Instr.lookup 46 (.map (some b)) (.int .i64 p) false).run Try.prog w = .ok (ptrV c) w := by
  obtain ⟨n, es, ho, hp, hn, hk, hd⟩ := h
  obtain ⟨v, ps, hrun, hv⟩ := ho.lookup keyK Try.underlying46 (zero_ptr w) (zd := .lit (.int .i64 0)) rfl (key_mk (hk _ hm))
  rw [at_yes hp hd hm] at hv
  rw [hrun, pageElem_inv hv]
theorem HolAt.look_no {w : World} {b : Nat} {L : List IP} (h : HolAt w b L) {p : Int} (hp64 : In64 p) (hm : p ∉ L.map (·.1)) :
    (Instr.lookup 46 (.map (some b)) (.int .i64 p) false).run Try.prog w = .ok (.int .i64 0) w := by
  obtain ⟨n, es, ho, hp, hn, hk, hd⟩ := h
  obtain ⟨v, ps, hrun, hv⟩ := ho.lookup keyK Try.underlying46 (zero_ptr w) (zd := .lit (.int .i64 0)) rfl (key_mk hp64)
  rw [at_no hp hm] at hv
  rw [hrun, pageElem_inv hv]; rfl

theorem ownsP_size {w : World} {b n : Nat} {es : List (Lit × DataW Unit)} (h : ownsP w b n (.map es)) : ownsP w b es.length (.map es) := by
  obtain ⟨es0, clock, h0, F, hs, hD⟩ := h
  refine ⟨es0, clock, h0, F, ?_, hD⟩
  simp only [DataW.map.injEq] at hD
  rw [hD]
  simp [length_sorted]

/-- m[p] = v, where p is none of its keys. -/
theorem HolAt.put {w : World} {b : Nat} {L : List IP} (h : HolAt w b L) (hl : L.length < maxLen) {p c : Int} (hp64 : In64 p) (hm : p ∉ L.map (·.1)) :
    ∃ w', (Instr.mapUpdate 46 (.map (some b)) (.int .i64 p) (ptrV c)).run Try.prog w = .ok () w' ∧ HolAt w' b ((p, c) :: L) ∧ w.grownBy w' (some b) := by
  obtain ⟨n, es, ho, hp, rfl, hk, hd⟩ := h
  obtain ⟨w', hrun, h1, h2⟩ := ho.update keyK Try.underlying46 hl (key_mk hp64) (pageElem_ptr c)
  refine ⟨w', hrun, ⟨L.length + 1, _, h1, ?_, rfl, ?_, ?_⟩, h2⟩
  · have e1 : (es.filter fun x => !x.1.sameKey (kL p)) = es := List.filter_eq_self.2 fun x hx => by
      obtain ⟨y, hy, rfl⟩ := List.mem_map.1 (hp.mem_iff.1 hx)
      cases hs : (ent y).1.sameKey (kL p)
      · rfl
      · exact absurd (List.mem_map.2 ⟨y, hy, kL_inj (WideAt.sameKey_eq hs)⟩) hm
    rw [e1]
    exact (WideShapes.insert_perm _ _).trans (hp.cons _)
  · intro x hx
    rcases List.mem_cons.1 hx with rfl | hx
    · exact hp64
    · exact hk x hx
  · exact List.nodup_cons.2 ⟨hm, hd⟩

/-- delete(m, p). -/
theorem HolAt.del {w : World} {b : Nat} {L : List IP} (h : HolAt w b L) {p : Int} (hp64 : In64 p) (ty : TypeId) :
    ∃ w', (Builtin.delete_ #[46, 3] ty #[.map (some b), .int .i64 p]).run Try.prog w = .ok (.tuple #[]) w' ∧ HolAt w' b (L.filter fun x => x.1 != p) ∧ w.grownBy w' (some b) := by
  obtain ⟨n, es, ho, hp, rfl, hk, hd⟩ := h
  obtain ⟨w', hrun, h1, h2⟩ := ho.drop keyK Try.underlying46 (key_mk hp64) ty
  have e0 : ∀ y : IP, (!(ent y).1.sameKey (kL p)) = (y.1 != p) := fun y => by
    cases hs : (ent y).1.sameKey (kL p)
    · have hne : y.1 ≠ p := fun e => by
        rw [show (ent y).1 = kL p by rw [← e]; rfl, WideAt.sameKey_self (kL_key p)] at hs; cases hs
      simp [hne]
    · simp [kL_inj (WideAt.sameKey_eq hs)]
  have e1 : (es.filter fun x => !x.1.sameKey (kL p)).Perm ((L.filter fun x => x.1 != p).map ent) := by
    refine (hp.filter _).trans ?_
    rw [List.filter_map]
    have : ((fun x : Lit × DataW Unit => !x.1.sameKey (kL p)) ∘ ent) = fun x => x.1 != p := funext e0
    rw [this]
  refine ⟨w', hrun, ⟨_, _, ownsP_size h1, e1, by rw [e1.length_eq, List.length_map], fun x hx => hk x (List.mem_filter.1 hx).1, ?_⟩, h2.grown⟩
  exact hd.sublist ((List.filter_sublist).map _)

theorem HolAt.len {w : World} {b : Nat} {L : List IP} (h : HolAt w b L) (ty : TypeId) :
    (Builtin.len_ #[46] ty #[.map (some b)]).run Try.prog w = .ok (.int .i64 (L.length : Nat)) w := by
  obtain ⟨n, es, ho, hp, rfl, hk, hd⟩ := h
  rw [ho.len Try.underlying46 ty, Maps.size_eq, hp.length_eq, List.length_map]

/-- A range over it: todo is what is still to come. -/
def RngH (w : World) (b r : Nat) (L todo : List IP) : Prop :=
  ∃ n es left cnt, w.ranges Try.prog 3 holdElem b r n (.map es) left cnt ∧ es.Perm (L.map ent) ∧ (∀ x ∈ L, In64 x.1) ∧ (L.map (·.1)).Nodup ∧
    todo.Sublist L ∧ ∀ p, left (kL p) = decide (p ∈ todo.map (·.1))

theorem RngH.same {w w' : World} {b r : Nat} {L todo : List IP} (h : RngH w b r L todo) (hb : w'.heap[b]? = w.heap[b]?) (hr : w'.heap[r]? = w.heap[r]?) : RngH w' b r L todo := by
  obtain ⟨n, es, left, cnt, ⟨es0, clock, since, seen, c0, h1, h2, h3, h4, h5, h6⟩, h7⟩ := h
  exact ⟨n, es, left, cnt, ⟨es0, clock, since, seen, c0, hb.trans h1, h2, h3, h4, hr.trans h5, h6⟩, h7⟩
theorem rangeLeftH_same {w w' : World} {b r : Nat} (hb : w'.heap[b]? = w.heap[b]?) (hr : w'.heap[r]? = w.heap[r]?) : w'.rangeLeft b r = w.rangeLeft b r := by
  unfold World.rangeLeft
  rw [hb, hr]
theorem RngH.lt {w : World} {b r : Nat} {L todo : List IP} (h : RngH w b r L todo) : r < w.heap.size := let ⟨_, _, _, _, h, _⟩ := h; h.lt
theorem RngH.ne {w : World} {b r : Nat} {L todo : List IP} (h : RngH w b r L todo) : r ≠ b := let ⟨_, _, _, _, h, _⟩ := h; h.ne
theorem RngH.map {w : World} {b r : Nat} {L todo : List IP} (h : RngH w b r L todo) : HolAt w b L := by
  obtain ⟨n, es, left, cnt, h1, h2, h3, h4, _⟩ := h
  exact ⟨_, es, ownsP_size h1.owns, h2, by rw [h2.length_eq, List.length_map], h3, h4⟩

theorem HolAt.range {w : World} {b : Nat} {L : List IP} (h : HolAt w b L) :
    ∃ w', (Instr.range 46 (.map (some b))).run Try.prog w = .ok (.pointer (some ⟨w.heap.size, 0, none⟩)) w' ∧ RngH w' b w.heap.size L L ∧ Adds w w' ∧ w'.heap.size = w.heap.size + 1 := by
  obtain ⟨n, es, ho, hp, rfl, hk, hd⟩ := h
  obtain ⟨w', hrun, h1, h2, h3⟩ := ho.range keyK Try.underlying46
  refine ⟨w', hrun, ⟨_, es, _, _, h1, hp, hk, hd, List.Sublist.refl _, fun p => ?_⟩, (Below.refl _ w).grown h2 (Nat.le_refl _) (fun k hk => by cases hk), h3⟩
  rw [Maps.has_eq]
  by_cases hm : p ∈ L.map (·.1)
  · obtain ⟨x, hx, rfl⟩ := List.mem_map.1 hm
    rw [decide_eq_true hm]
    exact List.any_eq_true.2 ⟨ent x, hp.mem_iff.2 (List.mem_map.2 ⟨x, hx, rfl⟩), WideAt.sameKey_self (kL_key _)⟩
  · rw [decide_eq_false hm]
    rw [Bool.eq_false_iff]
    intro ha
    obtain ⟨e, he, hs⟩ := List.any_eq_true.1 ha
    obtain ⟨y, hy, rfl⟩ := List.mem_map.1 (hp.mem_iff.1 he)
    exact hm (List.mem_map.2 ⟨y, hy, kL_inj (WideAt.sameKey_eq hs)⟩)

/-- The next entry: none is left; or one comes, and what is behind it. -/
theorem RngH.next {w : World} {b r : Nat} {L todo : List IP} (h : RngH w b r L todo) (ty : TypeId) :
    (todo = [] ∧ (Instr.next (.pointer (some ⟨r, 0, none⟩)) false ty).run Try.prog w = .ok (.tuple #[.bool false]) w) ∨
    ∃ (p c : Int) (todo' : List IP) (w' : World), todo.Perm ((p, c) :: todo') ∧ (p, c) ∈ L ∧ (Instr.next (.pointer (some ⟨r, 0, none⟩)) false ty).run Try.prog w = .ok (.tuple #[.bool true, .int .i64 p, ptrV c]) w' ∧
      RngH w' b r L todo' ∧ w.grownBy w' (some r) ∧ w'.heap.size = w.heap.size ∧ w'.rangeLeft b r < w.rangeLeft b r ∧ (Instr.entry (.pointer (some ⟨r, 0, none⟩))).run Try.prog w' = .ok (.tuple #[.int .i64 p, ptrV c]) w' := by
  obtain ⟨n, es, left, cnt, h1, hp, hk, hd, hsub, hl⟩ := h
  rcases h1.next keyK ty with ⟨_, h0, hrun⟩ | ⟨key, v, kl, y, w', cnt', hkey, hlx, hv, hat, hrun, hrg, hlt, hgr, hsz, hen⟩
  · refine .inl ⟨?_, hrun⟩
    cases todo with
    | nil => rfl
    | cons x t => have := hl x.1; rw [h0] at this; simp at this
  · obtain ⟨q, rfl, rfl, hwf⟩ := keyOf_int_inv Try.underlying3 hkey
    obtain ⟨x0, hx0, hk0⟩ : ∃ x0 ∈ es, x0.1 = Lit.int .i64 q := by
      obtain ⟨es0, clock, since, seen, c0, _, _, _, hD, _, _, _, _, hl2, _⟩ := h1
      obtain ⟨e0, he0, hk0⟩ := hl2 _ hlx
      simp only [DataW.map.injEq] at hD
      exact ⟨_, by rw [hD]; exact mem_sorted.2 (List.mem_map.2 ⟨e0, he0, rfl⟩), hk0⟩
    obtain ⟨⟨p, c⟩, hm, rfl⟩ := List.mem_map.1 (hp.mem_iff.1 hx0)
    have hq : p = q := by
      simp only [ent, kL, Lit.int.injEq, true_and] at hk0
      exact hk0
    subst hq
    have hl' := hl p
    rw [show left (kL p) = true from hlx] at hl'
    have hmem : p ∈ todo.map (·.1) := of_decide_eq_true hl'.symm
    obtain ⟨⟨p', c'⟩, hmt, e⟩ := List.mem_map.1 hmem
    simp only at e
    subst e
    have hc : c' = c := by
      have e1 := at_yes hp hd (hsub.subset hmt) .nil
      have e2 := at_yes hp hd hm .nil
      rw [e1] at e2
      simp only [DataW.lit.injEq, Lit.int.injEq, true_and] at e2
      exact e2
    subst hc
    have hy := hat .nil
    rw [show (Lit.int .i64 p') = kL p' from rfl, at_yes hp hd hm] at hy
    obtain ⟨y1, y2⟩ := y
    simp only at hy
    subst hy
    rw [pageElem_inv hv] at hrun hen
    have hdt : (todo.map (·.1)).Nodup := hd.sublist (hsub.map _)
    obtain ⟨t1, t2, ht⟩ := List.append_of_mem hmt
    refine .inr ⟨p', c', t1 ++ t2, w', by rw [ht]; exact List.perm_middle, hm, hrun, ⟨n, es, _, cnt', hrg, hp, hk, hd, ?_, fun q => ?_⟩, hgr, hsz, by rw [hrg.left_eq, h1.left_eq]; exact hlt, hen⟩
    · refine List.Sublist.trans ?_ hsub
      rw [ht]
      exact (List.Sublist.refl t1).append (List.sublist_cons_self _ _)
    · have hperm : (todo.map (·.1)).Perm (p' :: (t1 ++ t2).map (·.1)) := by
        have := (List.perm_middle (a := ((p', c') : IP)) (l₁ := t1) (l₂ := t2)).map (·.1)
        rw [ht]; exact this
      have hnd := hperm.nodup_iff.1 hdt
      have hno := (List.nodup_cons.1 hnd).1
      show (left (kL q) && !(kL q).sameKey (Lit.int .i64 p')) = _
      rw [hl q, show (Lit.int .i64 p') = kL p' from rfl]
      by_cases e : q = p'
      · subst e
        rw [WideAt.sameKey_self (kL_key q), decide_eq_false hno]; simp
      · have hs : (kL q).sameKey (kL p') = false := by
          cases hs : (kL q).sameKey (kL p')
          · rfl
          · exact absurd (kL_inj (WideAt.sameKey_eq hs)) e
        rw [hs]
        simp only [Bool.not_false, Bool.and_true]
        apply decide_eq_decide.2
        rw [hperm.mem_iff]
        simp [e]
end Go.Proofs.Ytdmbjonbcomphaa
