/- Which Kinds hand on: a map by structs; what leads: contracts. (genG2.py wrote this.) -/
import Derived.WalkKit
import Derived.WalkSpells
import Derived.Maps.OwnSet
import Derived.Maps.OwnOps
import Derived.Maps.Ext
import Derived.DeepKeys4
import Derived.Lib.Hide
import Derived.Test.YtbinmgpfkjmijaaGreatDoorRow
import Derived.Test.YtbinmgpfkjmijaaGreatDoorBB
import Derived.Test.YtbinmgpfkjmijaaGreatDoorBC
import Derived.Test.YtbinmgpfkjmijaaGreatDoorEvG1
namespace Go.Proofs.YtbinmgpfkjmijaaGreatDoor
open Go Go.RowKit Go.Maps Go.Shelf

abbrev Tu := Int × Int
abbrev tuC (x : Tu) : List Value := [.int .i64 x.1, .int .i64 x.2]
abbrev tuV (x : Tu) : Value := .agg #[.int .i64 x.1, .int .i64 x.2]
def okTu (x : Tu) : Prop := (Lit.int .i64 x.1).wf = true ∧ (Lit.int .i64 x.2).wf = true
theorem rowTu : (132 : TypeId) < Tryz.prog.types.size := of_decide_eq_true (by kernel_rfl)
theorem wideTu : (match Tryz.prog.underlying 132 with | some (.array _ _) | some (.struct _) => true | _ => false) = true := by kernel_rfl
set_option maxRecDepth 100000 in
theorem lawTu : WideMaps.KeyLaw Tryz.prog 132 := deep_law_laid laidOutP (m := 4) (by omega) rowTu (by kernel_rfl) wideTu
abbrev keyTu : Keyed Tryz.prog 132 := Keyed.of_law lawTu
theorem typeTu : Tryz.prog.keyType 132 = true := by kernel_rfl
theorem sizesTu : 2 ≤ Tryz.prog.types.size := of_decide_eq_true (by kernel_rfl)
theorem cellsTu2 : Tryz.prog.cellsOf 132 = 2 := by kernel_rfl
theorem cellsTu1 : Tryz.prog.cellsOf 22 = 1 := by kernel_rfl
theorem lits_kind (d : Nat) {z : Int} (h : (Lit.int .i64 z).wf = true) : Tryz.prog.keyLits (d + 1) 22 [.int .i64 z] = some [.int .i64 z] := by
  simp [Program.keyLits, Tryz.underlying22, h]
def kTu (x : Tu) : Lit := .string (keyBytes [.int .i64 x.1, .int .i64 x.2])
theorem keyTu_mk {x : Tu} (h : okTu x) : keyOf Tryz.prog 132 (tuV x) = some (kTu x) := by
  obtain ⟨d, hd⟩ : ∃ d, Tryz.prog.types.size + 1 = d + 2 := ⟨Tryz.prog.types.size - 1, by have := sizesTu; omega⟩
  have hl : Tryz.prog.keyLits (d + 2) 132 (tuC x) = some [.int .i64 x.1, .int .i64 x.2] := by
    unfold Program.keyLits
    simp only [Tryz.underlying132]
    simp [cellsTu2, cellsTu1, lits_kind d h.1, lits_kind d h.2]
  unfold keyOf
  rw [Tryz.underlying132]
  simp only [typeTu, hd]
  have hf : (tuV x).formed Tryz.prog 132 = true := by simp [Value.formed, Tryz.underlying132, cellsTu2]
  rw [hf]
  have hc : (tuV x).cells.toList = tuC x := rfl
  rw [hc, hl]
  rfl
theorem kTu_inj {x y : Tu} (hx : okTu x) (hy : okTu y) (h : kTu x = kTu y) : x = y := by
  have h1 := keyTu_mk hx
  rw [h] at h1
  have h2 := keyTu.inj h1 (keyTu_mk hy)
  obtain ⟨a, b⟩ := x
  obtain ⟨a', b'⟩ := y
  simp only [Value.agg.injEq, Array.mk.injEq, List.cons.injEq, Value.int.injEq, true_and, and_true] at h2
  obtain ⟨rfl, rfl⟩ := h2
  rfl
theorem kTu_key (x : Tu) : WideAt.IsKeyLit (kTu x) := by unfold kTu; simp [WideAt.IsKeyLit]
theorem kTu_same {x y : Tu} (hx : okTu x) (hy : okTu y) : (kTu x).sameKey (kTu y) = decide (x = y) := by
  by_cases e : x = y
  · subst e
    rw [WideAt.sameKey_self (kTu_key x)]; simp
  · cases hs : (kTu x).sameKey (kTu y)
    · simp [e]
    · exact absurd (kTu_inj hx hy (WideAt.sameKey_eq hs)) e
def entTu (x : Tu) : Lit × DataW Unit := (kTu x, .agg [])
abbrev ownsTu (w : World) (b n : Nat) (D : DataW Unit) : Prop := w.ownsMap Tryz.prog 132 unitElem b n D
theorem zeroTu (w : World) : (zeroValue 133).run Tryz.prog w = .ok (.agg #[]) w := by kernel_rfl
/-- Block b of w is a map by turns whose keys are L, in whatever order. -/
def SetTu (w : World) (b : Nat) (L : List Tu) : Prop :=
  ∃ n es, ownsTu w b n (.map es) ∧ es.Perm (L.map entTu) ∧ n = L.length ∧ (∀ x ∈ L, okTu x) ∧ L.Nodup
theorem SetTu.lt {w : World} {b : Nat} {L : List Tu} (h : SetTu w b L) : b < w.heap.size := let ⟨_, _, h, _⟩ := h; h.lt
theorem SetTu.adds {w w' : World} {b : Nat} {L : List Tu} (h : SetTu w b L) (ha : Adds w w') : SetTu w' b L := by
  have hb := ha.block b h.lt
  obtain ⟨n, es, ⟨es0, clock, h0, F, hs, hD⟩, hp, hn, hk, hd⟩ := h
  exact ⟨n, es, ⟨es0, clock, hb.trans h0, F, hs, hD⟩, hp, hn, hk, hd⟩
theorem SetTu.made (w : World) : SetTu (w.alloc (.map #[] 0)) w.heap.size [] :=
  ⟨0, [], World.ownsMap_made w _ _ _, List.Perm.refl _, rfl, fun _ h => by simp at h, List.nodup_nil⟩
theorem SetTu.perm {w : World} {b : Nat} {L M : List Tu} (h : SetTu w b L) (p : L.Perm M) : SetTu w b M := by
  obtain ⟨n, es, h0, hp, hn, hk, hd⟩ := h
  exact ⟨n, es, h0, hp.trans (p.map _), hn.trans p.length_eq, fun x hx => hk x (p.mem_iff.2 hx), p.nodup_iff.1 hd⟩
theorem hasTu {es : List (Lit × DataW Unit)} {L : List Tu} (hp : es.Perm (L.map entTu)) (hk : ∀ x ∈ L, okTu x) {x : Tu} (hx : okTu x) : Maps.has (.map es) (kTu x) = decide (x ∈ L) := by
  rw [Maps.has_eq]
  by_cases hm : x ∈ L
  · rw [decide_eq_true hm]
    exact List.any_eq_true.2 ⟨entTu x, hp.mem_iff.2 (List.mem_map.2 ⟨x, hm, rfl⟩), WideAt.sameKey_self (kTu_key x)⟩
  · rw [decide_eq_false hm, Bool.eq_false_iff]
    intro ha
    obtain ⟨e, he, hs⟩ := List.any_eq_true.1 ha
    obtain ⟨y, hy, rfl⟩ := List.mem_map.1 (hp.mem_iff.1 he)
    exact hm (kTu_inj (hk y hy) hx (WideAt.sameKey_eq hs) ▸ hy)
theorem SetTu.look {w : World} {b : Nat} {L : List Tu} (h : SetTu w b L) {x : Tu} (hx : okTu x) :
    (Instr.lookup 134 (.map (some b)) (tuV x) true).run Tryz.prog w = .ok (.tuple #[.agg #[], .bool (decide (x ∈ L))]) w := by
  obtain ⟨n, es, ho, hp, hn, hk, hd⟩ := h
  obtain ⟨v, ps, hrun, hv⟩ := ho.look_ok keyTu Tryz.underlying134 (zeroTu w) unitElem_mk (keyTu_mk hx)
  rw [hrun, hasTu hp hk hx, (unitElem_inv hv).1]
theorem SetTu.put {w : World} {b : Nat} {L : List Tu} (h : SetTu w b L) (hl : L.length < maxLen) {x : Tu} (hx : okTu x) (hm : x ∉ L) :
    ∃ w', (Instr.mapUpdate 134 (.map (some b)) (tuV x) (.agg #[])).run Tryz.prog w = .ok () w' ∧ SetTu w' b (x :: L) ∧ w.grownBy w' (some b) := by
  obtain ⟨n, es, ho, hp, rfl, hk, hd⟩ := h
  obtain ⟨w', hrun, h1, h2⟩ := ho.update keyTu Tryz.underlying134 hl (keyTu_mk hx) unitElem_mk
  refine ⟨w', hrun, ⟨L.length + 1, _, h1, ?_, rfl, ?_, ?_⟩, h2⟩
  · have e1 : (es.filter fun y => !y.1.sameKey (kTu x)) = es := List.filter_eq_self.2 fun e he => by
      obtain ⟨y, hy, rfl⟩ := List.mem_map.1 (hp.mem_iff.1 he)
      have := kTu_same (hk y hy) hx
      show (!(kTu y).sameKey (kTu x)) = true
      rw [this]
      simp only [Bool.not_eq_true', decide_eq_false_iff_not]
      rintro rfl; exact hm hy
    rw [e1]
    exact (WideShapes.insert_perm _ _).trans (hp.cons _)
  · intro y hy
    rcases List.mem_cons.1 hy with rfl | hy
    · exact hx
    · exact hk y hy
  · exact List.nodup_cons.2 ⟨hm, hd⟩
theorem wpIn_insertTu {F : Fence} {n : Nat} {w : World} {ops : Array Oper} {rest : List Oper} {o : Oper} {a : Act} {Q : Exit → Act → World → Prop} (hgd : o.guard = none) (m x v : Operand)
    (ho : o.op = .insert 134 m x v) (b : Nat) (L : List Tu) (y : Tu) (hm : a.eval m = .map (some b)) (hx : a.eval x = tuV y) (hv : a.eval v = .agg #[]) (hs : SetTu w b L) (hl : L.length < maxLen) (hy : okTu y) (hn : y ∉ L)
    (h : ∀ w', SetTu w' b (y :: L) → w.grownBy w' (some b) → wpListIn F n Tryz.prog ops Q rest (a.put o.dst undef) w') : wpListIn F n Tryz.prog ops Q (o :: rest) a w := by
  obtain ⟨w', hr, r1, r2⟩ := hs.put hl hy hn
  refine wpListIn_plain hgd fun K hK => ?_
  unfold Oper.wpIn
  refine ⟨?_, ?_⟩
  · simp [Oper.about, ho]
  · rw [Oper.semAt_plain F _ _ (by rw [ho]; intro c hc'; cases hc')]
    simp [execOp, ho, hm, hx, hv, hr, Result.andThen]
    exact hK _ _ (h w' r1 r2)
def selT (b : Bool) (x y : Value) : Value := cond b x y
theorem selT_t (x y : Value) : selT true x y = x := rfl
/-- The turns that were put in. -/
def kO (l3 l6 l9 l12 l15 : Bool) : List Tu := (cond l3 [(6, 5)] []) ++ ((cond l6 [(10, 7)] []) ++ ((cond l9 [(10, 9)] []) ++ ((cond l12 [(8, 9)] []) ++ (cond l15 [(11, 12)] []))))
def RegH (w0 : World) (L0 l3 l6 l9 l12 l15 : Bool) (bm : Nat) (b' fr : Act) (w2 : World) : Prop :=
  b' = fr ∧ Adds w0 w2 ∧ (L0 = true → SetTu w2 bm (kO l3 l6 l9 l12 l15) ∧ w0.heap.size ≤ bm)
theorem kO_len (l3 l6 l9 l12 l15 : Bool) : (kO l3 l6 l9 l12 l15).length < maxLen := by
  cases l3 <;> cases l6 <;> cases l9 <;> cases l12 <;> cases l15 <;> simp [kO, maxLen]
theorem kO_3 (l6 l9 l12 l15 : Bool) : ((6, 5) : Tu) ∉ kO false l6 l9 l12 l15 ∧ (((6, 5) : Tu) :: kO false l6 l9 l12 l15).Perm (kO true l6 l9 l12 l15) := by
  cases l6 <;> cases l9 <;> cases l12 <;> cases l15 <;> decide
theorem kO_6 (l3 l9 l12 l15 : Bool) : ((10, 7) : Tu) ∉ kO l3 false l9 l12 l15 ∧ (((10, 7) : Tu) :: kO l3 false l9 l12 l15).Perm (kO l3 true l9 l12 l15) := by
  cases l3 <;> cases l9 <;> cases l12 <;> cases l15 <;> decide
theorem kO_9 (l3 l6 l12 l15 : Bool) : ((10, 9) : Tu) ∉ kO l3 l6 false l12 l15 ∧ (((10, 9) : Tu) :: kO l3 l6 false l12 l15).Perm (kO l3 l6 true l12 l15) := by
  cases l3 <;> cases l6 <;> cases l12 <;> cases l15 <;> decide
theorem kO_12 (l3 l6 l9 l15 : Bool) : ((8, 9) : Tu) ∉ kO l3 l6 l9 false l15 ∧ (((8, 9) : Tu) :: kO l3 l6 l9 false l15).Perm (kO l3 l6 l9 true l15) := by
  cases l3 <;> cases l6 <;> cases l9 <;> cases l15 <;> decide
theorem kO_15 (l3 l6 l9 l12 : Bool) : ((11, 12) : Tu) ∉ kO l3 l6 l9 l12 false ∧ (((11, 12) : Tu) :: kO l3 l6 l9 l12 false).Perm (kO l3 l6 l9 l12 true) := by
  cases l3 <;> cases l6 <;> cases l9 <;> cases l12 <;> decide
set_option maxRecDepth 100000 in
set_option maxHeartbeats 4000000 in
theorem hands_any (k m : Int) (hk : okTu (k, m)) (w : World) : Calls Tryz.prog 55 #[.int .i64 k, .int .i64 m] w fun e w' => e = .returned (.bool (handE k m)) ∧ Adds w w' := by
  have hmx : Tryz.prog.follows .mixedOrders = true := by kernel_rfl
  have hmm := @run_makeMap Tryz.prog
  have HK := Lib.hid hk
  obtain ⟨r, hr⟩ : ∃ r, handE k m = r := ⟨_, rfl⟩
  rw [hr]
  have HH := Lib.hid (show decide ((k, m) ∈ kO true true true true true) = r by
    rw [← hr]
    simp only [kO, cond_true, List.cons_append, List.nil_append, List.mem_cons, Prod.mk.injEq, List.not_mem_nil, or_false]
    unfold handE
    rw [decide_eq_decide])
  clear hk hr
  go_enter Tryz.func55, Tryz.ntmps55
  go_wp2_with fail
  refine (wpIn_wide (n := 6)).1 ?_
  refine wpIn_region_inv (fun L b' w2 => ∃ bm : Nat, RegH w (L 0) (L 3) (L 6) (L 9) (L 12) (L 15) bm b' ({ tmps := #[Value.int IntKind.i64 k, Value.int IntKind.i64 m, undef, undef, Value.bool false, selT (L 17) (Value.map (some bm)) (undef), undef, undef, selT (L 0) (Value.map (some bm)) (undef), selT (L 1) (Value.agg #[Value.int IntKind.i64 6, Value.int IntKind.i64 5]) (undef), selT (L 2) (Value.agg #[]) (undef), selT (L 4) (Value.agg #[Value.int IntKind.i64 10, Value.int IntKind.i64 7]) (undef), selT (L 5) (Value.agg #[]) (undef), selT (L 7) (Value.agg #[Value.int IntKind.i64 10, Value.int IntKind.i64 9]) (undef), selT (L 8) (Value.agg #[]) (undef), selT (L 10) (Value.agg #[Value.int IntKind.i64 8, Value.int IntKind.i64 9]) (undef), selT (L 11) (Value.agg #[]) (undef), selT (L 13) (Value.agg #[Value.int IntKind.i64 11, Value.int IntKind.i64 12]) (undef), selT (L 14) (Value.agg #[]) (undef), selT (L 16) (Value.map (some bm)) (undef), undef, undef, undef, undef, undef, undef, undef, undef, undef], defers := [] }) w2) hmx (by kernel_rfl) ?inv0 ?step ?fin
  case inv0 => exact ⟨0, rfl, Adds.drew _, fun h => (by cases h)⟩
  case step =>
    rintro L b' w2 i o ho hL hC he ⟨bm, rfl, hP⟩
    have q3 := hC 3 _ rfl
    have q6 := hC 6 _ rfl
    have q9 := hC 9 _ rfl
    have q12 := hC 12 _ rfl
    have q15 := hC 15 _ rfl
    have q16 := hC 16 _ rfl
    have q17 := hC 17 _ rfl
    simp [Region.binds] at q3 q6 q9 q12 q15 q16 q17
    clear hC
    have HP := Lib.hid hP
    clear hP
    rcases i with _ | _ | _ | _ | _ | _ | _ | _ | _ | _ | _ | _ | _ | _ | _ | _ | _ | _ | i
    · simp only [List.getElem?_cons_zero, Option.some.injEq] at ho
      subst ho
      try simp [Region.binds] at he
      have z3 : L 3 = false := by cases h : L 3 with | false => rfl | true => (have := q3 h; simp_all)
      have z6 : L 6 = false := by cases h : L 6 with | false => rfl | true => (have := q6 h; simp_all)
      have z9 : L 9 = false := by cases h : L 9 with | false => rfl | true => (have := q9 h; simp_all)
      have z12 : L 12 = false := by cases h : L 12 with | false => rfl | true => (have := q12 h; simp_all)
      have z15 : L 15 = false := by cases h : L 15 with | false => rfl | true => (have := q15 h; simp_all)
      have z16 : L 16 = false := by cases h : L 16 with | false => rfl | true => (have := q16 h; simp_all)
      have z17 : L 17 = false := by cases h : L 17 with | false => rfl | true => (have := q17 h; simp_all)
      clear q3 q6 q9 q12 q15 q16 q17
      gi_wp2
      refine ⟨w2.heap.size, by simp [selT, *], Adds.trans HP.out.1 (Gr.new _ _).adds, fun _ => ⟨?_, HP.out.1.size⟩⟩
      have e := SetTu.made w2
      simpa [z3, z6, z9, z12, z15, kO] using e
    · simp only [List.getElem?_cons_zero, List.getElem?_cons_succ, Option.some.injEq] at ho
      subst ho
      try simp [Region.binds] at he
      clear q3 q6 q9 q12 q15 q16 q17
      try simp only []
      gi_wp2
      refine ⟨bm, by simp [selT, *], HP.out.1, (by first | exact HP.out.2 | simpa [he] using HP.out.2)⟩
    · simp only [List.getElem?_cons_zero, List.getElem?_cons_succ, Option.some.injEq] at ho
      subst ho
      try simp [Region.binds] at he
      clear q3 q6 q9 q12 q15 q16 q17
      try simp only []
      gi_wp2
      refine ⟨bm, by simp [selT, *], HP.out.1, (by first | exact HP.out.2 | simpa [he] using HP.out.2)⟩
    · simp only [List.getElem?_cons_zero, List.getElem?_cons_succ, Option.some.injEq] at ho
      subst ho
      try simp [Region.binds] at he
      clear q3 q6 q9 q12 q15 q16 q17
      have p0 : L 0 = true := by simp [he]
      have hP := HP.out.2 p0
      rw [hL] at hP
      try simp only [he, selT_t]
      refine wpIn_insertTu rfl (.tmp 8) (.tmp 9) (.tmp 10) rfl bm _ (6, 5) rfl rfl rfl hP.1 (kO_len _ _ _ _ _) (by unfold okTu; decide) (kO_3 (L 6) (L 9) (L 12) (L 15)).1 ?_
      intro w3 s3 g3
      refine ⟨bm, by simp [selT, *] <;> rfl, TnS.own HP.out.1 hP.2 g3, fun _ => ⟨?_, hP.2⟩⟩
      have e := s3.perm (kO_3 (L 6) (L 9) (L 12) (L 15)).2
      simpa using e
    · simp only [List.getElem?_cons_zero, List.getElem?_cons_succ, Option.some.injEq] at ho
      subst ho
      try simp [Region.binds] at he
      clear q3 q6 q9 q12 q15 q16 q17
      try simp only []
      gi_wp2
      refine ⟨bm, by simp [selT, *], HP.out.1, (by first | exact HP.out.2 | simpa [he] using HP.out.2)⟩
    · simp only [List.getElem?_cons_zero, List.getElem?_cons_succ, Option.some.injEq] at ho
      subst ho
      try simp [Region.binds] at he
      clear q3 q6 q9 q12 q15 q16 q17
      try simp only []
      gi_wp2
      refine ⟨bm, by simp [selT, *], HP.out.1, (by first | exact HP.out.2 | simpa [he] using HP.out.2)⟩
    · simp only [List.getElem?_cons_zero, List.getElem?_cons_succ, Option.some.injEq] at ho
      subst ho
      try simp [Region.binds] at he
      clear q3 q6 q9 q12 q15 q16 q17
      have p0 : L 0 = true := by simp [he]
      have hP := HP.out.2 p0
      rw [hL] at hP
      try simp only [he, selT_t]
      refine wpIn_insertTu rfl (.tmp 8) (.tmp 11) (.tmp 12) rfl bm _ (10, 7) rfl rfl rfl hP.1 (kO_len _ _ _ _ _) (by unfold okTu; decide) (kO_6 (L 3) (L 9) (L 12) (L 15)).1 ?_
      intro w3 s3 g3
      refine ⟨bm, by simp [selT, *] <;> rfl, TnS.own HP.out.1 hP.2 g3, fun _ => ⟨?_, hP.2⟩⟩
      have e := s3.perm (kO_6 (L 3) (L 9) (L 12) (L 15)).2
      simpa using e
    · simp only [List.getElem?_cons_zero, List.getElem?_cons_succ, Option.some.injEq] at ho
      subst ho
      try simp [Region.binds] at he
      clear q3 q6 q9 q12 q15 q16 q17
      try simp only []
      gi_wp2
      refine ⟨bm, by simp [selT, *], HP.out.1, (by first | exact HP.out.2 | simpa [he] using HP.out.2)⟩
    · simp only [List.getElem?_cons_zero, List.getElem?_cons_succ, Option.some.injEq] at ho
      subst ho
      try simp [Region.binds] at he
      clear q3 q6 q9 q12 q15 q16 q17
      try simp only []
      gi_wp2
      refine ⟨bm, by simp [selT, *], HP.out.1, (by first | exact HP.out.2 | simpa [he] using HP.out.2)⟩
    · simp only [List.getElem?_cons_zero, List.getElem?_cons_succ, Option.some.injEq] at ho
      subst ho
      try simp [Region.binds] at he
      clear q3 q6 q9 q12 q15 q16 q17
      have p0 : L 0 = true := by simp [he]
      have hP := HP.out.2 p0
      rw [hL] at hP
      try simp only [he, selT_t]
      refine wpIn_insertTu rfl (.tmp 8) (.tmp 13) (.tmp 14) rfl bm _ (10, 9) rfl rfl rfl hP.1 (kO_len _ _ _ _ _) (by unfold okTu; decide) (kO_9 (L 3) (L 6) (L 12) (L 15)).1 ?_
      intro w3 s3 g3
      refine ⟨bm, by simp [selT, *] <;> rfl, TnS.own HP.out.1 hP.2 g3, fun _ => ⟨?_, hP.2⟩⟩
      have e := s3.perm (kO_9 (L 3) (L 6) (L 12) (L 15)).2
      simpa using e
    · simp only [List.getElem?_cons_zero, List.getElem?_cons_succ, Option.some.injEq] at ho
      subst ho
      try simp [Region.binds] at he
      clear q3 q6 q9 q12 q15 q16 q17
      try simp only []
      gi_wp2
      refine ⟨bm, by simp [selT, *], HP.out.1, (by first | exact HP.out.2 | simpa [he] using HP.out.2)⟩
    · simp only [List.getElem?_cons_zero, List.getElem?_cons_succ, Option.some.injEq] at ho
      subst ho
      try simp [Region.binds] at he
      clear q3 q6 q9 q12 q15 q16 q17
      try simp only []
      gi_wp2
      refine ⟨bm, by simp [selT, *], HP.out.1, (by first | exact HP.out.2 | simpa [he] using HP.out.2)⟩
    · simp only [List.getElem?_cons_zero, List.getElem?_cons_succ, Option.some.injEq] at ho
      subst ho
      try simp [Region.binds] at he
      clear q3 q6 q9 q12 q15 q16 q17
      have p0 : L 0 = true := by simp [he]
      have hP := HP.out.2 p0
      rw [hL] at hP
      try simp only [he, selT_t]
      refine wpIn_insertTu rfl (.tmp 8) (.tmp 15) (.tmp 16) rfl bm _ (8, 9) rfl rfl rfl hP.1 (kO_len _ _ _ _ _) (by unfold okTu; decide) (kO_12 (L 3) (L 6) (L 9) (L 15)).1 ?_
      intro w3 s3 g3
      refine ⟨bm, by simp [selT, *] <;> rfl, TnS.own HP.out.1 hP.2 g3, fun _ => ⟨?_, hP.2⟩⟩
      have e := s3.perm (kO_12 (L 3) (L 6) (L 9) (L 15)).2
      simpa using e
    · simp only [List.getElem?_cons_zero, List.getElem?_cons_succ, Option.some.injEq] at ho
      subst ho
      try simp [Region.binds] at he
      clear q3 q6 q9 q12 q15 q16 q17
      try simp only []
      gi_wp2
      refine ⟨bm, by simp [selT, *], HP.out.1, (by first | exact HP.out.2 | simpa [he] using HP.out.2)⟩
    · simp only [List.getElem?_cons_zero, List.getElem?_cons_succ, Option.some.injEq] at ho
      subst ho
      try simp [Region.binds] at he
      clear q3 q6 q9 q12 q15 q16 q17
      try simp only []
      gi_wp2
      refine ⟨bm, by simp [selT, *], HP.out.1, (by first | exact HP.out.2 | simpa [he] using HP.out.2)⟩
    · simp only [List.getElem?_cons_zero, List.getElem?_cons_succ, Option.some.injEq] at ho
      subst ho
      try simp [Region.binds] at he
      clear q3 q6 q9 q12 q15 q16 q17
      have p0 : L 0 = true := by simp [he]
      have hP := HP.out.2 p0
      rw [hL] at hP
      try simp only [he, selT_t]
      refine wpIn_insertTu rfl (.tmp 8) (.tmp 17) (.tmp 18) rfl bm _ (11, 12) rfl rfl rfl hP.1 (kO_len _ _ _ _ _) (by unfold okTu; decide) (kO_15 (L 3) (L 6) (L 9) (L 12)).1 ?_
      intro w3 s3 g3
      refine ⟨bm, by simp [selT, *] <;> rfl, TnS.own HP.out.1 hP.2 g3, fun _ => ⟨?_, hP.2⟩⟩
      have e := s3.perm (kO_15 (L 3) (L 6) (L 9) (L 12)).2
      simpa using e
    · simp only [List.getElem?_cons_zero, List.getElem?_cons_succ, Option.some.injEq] at ho
      subst ho
      try simp [Region.binds] at he
      clear q3 q6 q9 q12 q15 q16 q17
      try simp only [he, selT_t]
      gi_wp2
      refine ⟨bm, by simp [selT, *], HP.out.1, (by first | exact HP.out.2 | simpa [he] using HP.out.2)⟩
    · simp only [List.getElem?_cons_zero, List.getElem?_cons_succ, Option.some.injEq] at ho
      subst ho
      try simp [Region.binds] at he
      clear q3 q6 q9 q12 q15 q16 q17
      try simp only [he, selT_t]
      gi_wp2
      refine ⟨bm, by simp [selT, *], HP.out.1, (by first | exact HP.out.2 | simpa [he] using HP.out.2)⟩
    · simp at ho
  case fin =>
    rintro b' w2 ⟨bm, rfl, hA, hB⟩
    simp only [List.length_cons, List.length_nil, Nat.reduceAdd, Nat.reduceLT, decide_true, selT_t] at hB ⊢
    have HA := Lib.hid hA
    have hs := (hB trivial).1
    have hl := fun W (h : Adds w2 W) => (hs.adds h).look (x := (k, m)) HK.out
    have hl0 := hl w2 (Adds.refl _)
    simp only [HH.out] at hl0
    clear hA hB hs hl
    go_wp2
    go_ret
    exact ⟨rfl, by first | exact HA.out | exact Adds.trans HA.out (Gr.new _ _).adds | exact Adds.set (Adds.trans HA.out (Gr.new _ _).adds) HA.out.size _ _⟩
end Go.Proofs.YtbinmgpfkjmijaaGreatDoor
