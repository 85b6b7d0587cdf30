/- The law VectorJoins, walked. -/
import Derived.Test.YtcimppggemdidaaDoorInvIn
import Derived.Test.YtcimppggemdidaaDoorPair2
import Derived.Test.YtcimppggemdidaaDoorVJ2
import Derived.Test.YtcimppggemdidaaDoorVJ3
import Derived.Test.YtcimppggemdidaaDoorVL3
namespace Go.Proofs.YtcimppggemdidaaDoor
open Go Go.RowKit Go.Shelf
attribute [local go_sem] Oper.semAt_some

/-- How the law's third region stands, as its operations come up. -/
def Reg3 (a b : List UInt64) (w1 : World) (L0 L3 L4 L5 L9 L10 L13 : Bool) (s10 s13 s14 s15 s19 s20 s23 : Value) (b' fr : Act) (w2 : World) : Prop :=
  b' = fr ∧ JoinR w1.heap.size w1 L0 L4 L5 L10 (sA L3 L5 s10 s13 s15) (lA a L3 L5) s14 (sB L13 s20 s23) (lB b L13) w2 ∧
    (L9 = true → ∃ g cp, s15 = .slice (some ⟨g, 0, none⟩) (a.length + 1) cp ∧ s19 = .slice (some ⟨g, 0, none⟩) a.length cp)
/-- How the law's last region stands, as its operations come up. -/
def Reg5 (w3 : World) (jl : List UInt64) (L2 L40 : Bool) (s32 s70 : Value) (b' fr : Act) (w4 : World) : Prop :=
  b' = fr ∧ Adds w3 w4 ∧ (L2 = true → ∃ q1 q2, s32 = .slice q1 jl.length q2 ∧ Words w4.heap.size w4 s32 jl) ∧ (L40 = true → ∃ r1 r2, s70 = .slice r1 0 r2)
theorem lit_at {w : World} {g : Nat} (h : w.cell? ⟨g, 0, none⟩ = some (.int .u64 77)) : Words w.heap.size w (.slice (some ⟨g, 0, none⟩) 1 1) [77] :=
  ⟨_, 1, rfl, by simp, by simp [maxLen], fun _ => ⟨g, 0, rfl, World.block_lt_of_cell? w _ h, fun i hi => by
    obtain rfl : i = 0 := by simpa using hi
    exact h⟩⟩
theorem wpIn_append_w2 {F : Fence} {n : Nat} {w : World} {ops : Array Oper} {rest : List Oper} {o : Oper} {a : Act} {Q : Exit → Act → World → Prop} (hgd : o.guard = none) (s x : Operand) (t : TypeId)
    (ho : o.op = .call { callee := .builtin .append, args := #[s, x], argTypes := #[t, t] }) (ht : Tryd.prog.underlying t = some (.slice 26)) (base : Nat) (v : Value) (pre : List UInt64) (hs : a.eval s = v) (hown : OwnW w base v pre)
    (v2 : Value) (l : List UInt64) (n0 : Nat) (hx : a.eval x = v2) (hv : Words n0 w v2 l) (hlen : pre.length + l.length ≤ 1000000) (hbase : base ≤ w.heap.size)
    (h : ∀ v' w', OwnW w' base v' (pre ++ l) → w.grownBy w' v.ownBlock → SameOrNew w v v' → wpListIn F n Tryd.prog ops Q rest (a.put o.dst v') w') : wpListIn F n Tryd.prog ops Q (o :: rest) a w := by
  obtain ⟨v', w', hr, r1, r2, r3⟩ := run_append_w2 t o.type ht base v pre hown v2 l n0 hv hlen hbase
  refine wpListIn_plain hgd fun K hK => ?_
  unfold Oper.wpIn
  refine ⟨?_, ?_⟩
  · simp [Oper.about, ho, resolve, Target.leads, Sem.run_pure]
  · rw [Oper.semAt_plain F _ _ (by rw [ho]; intro c hc'; cases hc')]
    simp [execOp, ho, resolve, invoke, builtin, hs, hx, hr, Result.andThen]
    exact hK _ _ (h v' w' r1 r2 r3)

set_option maxRecDepth 100000 in
set_option maxHeartbeats 16000000 in
theorem law_vjoins {nb : Nat} (u v x : Value) (a b c : List UInt64) (w : World) (hu : Words nb w u a) (hv : Words nb w v b) (hx : Words nb w x c) (hw : How w) :
    Calls Tryd.prog 7 #[.agg #[u, v, x]] w (TrueAdds w) := by
  have HF := Lib.hid (few_any _ [a, b, c] _ (listsW_arr w u v x a b c hu hv hx))
  have HW := Lib.hid (fun W (h : Adds w W) => works4_any W (hw.adds h))
  have HHW := Lib.hid (fun W (h : Adds w W) => hw.adds h); clear hw
  have HVA := Lib.hid (fun W (h : Adds w W) => hu.here.adds h)
  have HVB := Lib.hid (fun W (h : Adds w W) => hv.here.adds h)
  have HVC := Lib.hid (fun W (h : Adds w W) => hx.here.adds h)
  have HLA := Lib.hid (fun W (h : Adds w W) => listsW_arr w u v x a b c hu hv hx |>.below (Below.refl _ _))
  obtain ⟨ao, capa, rfl, _⟩ := id hu
  obtain ⟨bo, capb, rfl, _⟩ := id hv
  obtain ⟨co, capc, rfl, _⟩ := id hx
  by_cases hl : a.length ≤ 40 ∧ b.length ≤ 40 ∧ c.length ≤ 40
  · rw [few_three hl.1 hl.2.1 hl.2.2] at HF
    have HL := Lib.hid hl; clear hl
    have hmo : Tryd.prog.follows .mixedOrders = true := by kernel_rfl
    refine (callsIn_wide (n := 6)).1 ?_
    refine callsIn_of_wp Tryd.func7 rfl trivial ?_ rfl
    simp only [Tryd.ntmps7, List.size_toArray, List.length_cons, List.length_nil, Nat.reduceAdd, Nat.reduceSub, Array.replicate_succ, Array.replicate_zero, List.push_toArray, List.append_toArray, List.nil_append, List.cons_append]
    gi_wp2_with (refine ⟨trivial, ?_⟩; gi_at_call 23; refine (callsIn_wide.2 HF.out).mono ?_; rintro e w' ⟨rfl, rfl⟩)
    obtain ⟨w1, hw1⟩ : ∃ y, w.alloc (Obj.cells #[Value.slice ao a.length capa, Value.slice bo b.length capb, Value.slice co c.length capc] 67) = y := ⟨_, rfl⟩
    have A1 := Lib.hid (hw1 ▸ Adds.new _ _ : Adds w w1)
    have HS1 := Lib.hid (show w1.heap.size = w.heap.size + 1 by rw [← hw1]; simp)
    have b0 : w1.cell? ⟨w.heap.size, 0, none⟩ = some (Value.slice ao a.length capa) := by rw [← hw1]; simp
    have b1 : w1.cell? ⟨w.heap.size, 1, none⟩ = some (Value.slice bo b.length capb) := by rw [← hw1]; simp
    have b2 : w1.cell? ⟨w.heap.size, 2, none⟩ = some (Value.slice co c.length capc) := by rw [← hw1]; simp
    have HLS := Lib.hid (show ListsW (w.heap.size + 1) w1 (.slice (some ⟨w.heap.size, 0, none⟩) 3 3) [a, b, c] from hw1 ▸ listsW_arr w _ _ _ a b c hu hv hx)
    rw [hw1]
    clear hw1
    have HB012 := Lib.hid (And.intro b0 (And.intro b1 b2)); clear b0 b1 b2
    refine wpIn_region_inv (fun L b' w2 => ∃ s10 s13 s14 s15 s19 s20 s23 : Value, Reg3 a b w1 (L 0) (L 3) (L 4) (L 5) (L 9) (L 10) (L 13) s10 s13 s14 s15 s19 s20 s23 b' ({ tmps := #[Value.agg #[Value.slice ao a.length capa, Value.slice bo b.length capb, Value.slice co c.length capc], Value.pointer (some { block := w.heap.size, off := 0 }), Value.bool false, sel2 (L 14) (s19) undef, sel2 (L 15) (s23) undef, undef, Value.slice (some { block := w.heap.size, off := 0 }) 3 3, Value.bool true, Value.bool false, undef, sel2 (L 0) (s10) undef, sel2 (L 1) (Value.pointer (some { block := w.heap.size, off := 0 })) undef, sel2 (L 2) (Value.slice ao a.length capa) undef, sel2 (L 3) (s13) undef, sel2 (L 4) (s14) undef, sel2 (L 5) (s15) undef, sel2 (L 6) (Value.pointer (some { block := w.heap.size, off := 0 })) undef, sel2 (L 7) (Value.slice ao a.length capa) undef, sel2 (L 8) (Value.int IntKind.i64 (a.length : Nat)) undef, sel2 (L 9) (s19) undef, sel2 (L 10) (s20) undef, sel2 (L 11) (Value.pointer (some { block := w.heap.size, off := 1 })) undef, sel2 (L 12) (Value.slice bo b.length capb) undef, sel2 (L 13) (s23) undef, undef, undef, undef, undef, undef, undef, undef, undef, undef, undef, undef, undef, undef, undef, undef, undef, undef, undef, undef, undef, undef, undef, undef, undef, undef, undef, undef, undef, undef, undef, undef, undef, undef, undef, undef, undef, undef, undef, undef, undef, undef, undef, undef, undef, undef, undef, undef, undef, undef, undef, undef, undef, undef], defers := [] }) w2) hmo (by kernel_rfl) ?inv0 ?step ?fin
    case inv0 => exact ⟨undef, undef, undef, undef, undef, undef, undef, rfl, ⟨(Below.refl _ _).drew, Nat.le_refl _, fun h => (by cases h), fun h => (by cases h), fun h => (by cases h), fun h => (by cases h)⟩, fun h => (by cases h)⟩
    case step =>
      rintro L b' w2 i o ho hL hC he ⟨s10, s13, s14, s15, s19, s20, s23, rfl, hP, HQ⟩
      have q3 := hC 3 _ rfl
      have q5 := hC 5 _ rfl
      have q9 := hC 9 _ rfl
      have q13 := hC 13 _ rfl
      have q14 := hC 14 _ rfl
      have q15 := hC 15 _ rfl
      simp [Region.binds] at q3 q5 q9 q13 q14 q15
      clear hC
      have HP := Lib.hid hP; clear hP
      have d0 : w2.cell? ⟨w.heap.size, 0, none⟩ = some (Value.slice ao a.length capa) := (Adds.cellAt HP.out.hb HB012.out.1)
      have d1 : w2.cell? ⟨w.heap.size, 1, none⟩ = some (Value.slice bo b.length capb) := (Adds.cellAt HP.out.hb HB012.out.2.1)
      rcases i with _ | _ | _ | _ | _ | _ | _ | _ | _ | _ | _ | _ | _ | _ | _ | _ | i
      · simp only [List.getElem?_cons_zero, List.getElem?_cons_succ, Option.some.injEq] at ho
        subst ho
        try simp [Region.binds] at he
        have z3 : L 3 = false := by cases h : L 3 with | false => rfl | true => (have := q3 h; simp [hL] at this)
        have z5 : L 5 = false := by cases h : L 5 with | false => rfl | true => (have := q5 h; simp [z3] at this)
        have z9 : L 9 = false := by cases h : L 9 with | false => rfl | true => (have := q9 h; simp [z5] at this)
        rw [hL] at HP
        clear q3 q5 q13 q9 q14 q15
        gi_wp2
        refine ⟨.slice (some ⟨w2.heap.size, 0, none⟩) 0 0, s13, s14, s15, s19, s20, s23, by simp [sel2, *], (by simpa [z3, z5, sA, lA] using HP.out.mkA), (by simp [z9])⟩
      · simp only [List.getElem?_cons_zero, List.getElem?_cons_succ, Option.some.injEq] at ho
        subst ho
        try simp [Region.binds] at he
        clear q3 q5 q13 q9 q14 q15
        try simp only [he, sel2_t]
        gi_wp2
        refine ⟨s10, s13, s14, s15, s19, s20, s23, by simp [sel2, *], (by first | simpa [he] using HP.out | simpa using HP.out), (by first | simpa [he] using HQ | simpa using HQ)⟩
      · simp only [List.getElem?_cons_zero, List.getElem?_cons_succ, Option.some.injEq] at ho
        subst ho
        try simp [Region.binds] at he
        clear q3 q5 q13 q9 q14 q15
        try simp only [he, sel2_t]
        gi_wp2
        refine ⟨s10, s13, s14, s15, s19, s20, s23, by simp [sel2, *], (by first | simpa [he] using HP.out | simpa using HP.out), (by first | simpa [he] using HQ | simpa using HQ)⟩
      · simp only [List.getElem?_cons_zero, List.getElem?_cons_succ, Option.some.injEq] at ho
        subst ho
        try simp [Region.binds] at he
        have p0 : L 0 = true := by simp [he]
        have p2 : L 2 = true := by simp [he]
        have z5 : L 5 = false := by cases h : L 5 with | false => rfl | true => (have := q5 h; simp [hL] at this)
        have z9 : L 9 = false := by cases h : L 9 with | false => rfl | true => (have := q9 h; simp [z5] at this)
        clear q3 q5 q13 q9 q14 q15
        rw [p0, hL, z5] at HP
        simp only [p0, p2, sel2_t]
        refine wpIn_append_w2 rfl (.tmp 10) (.tmp 12) 48 rfl Tryd.underlying48 w1.heap.size s10 [] rfl (HP.out.rA rfl) (Value.slice ao a.length capa) a _ rfl (HVA.out w2 (A1.out.trans HP.out.hb)) (by have := HL.out.1; simp; omega) HP.out.hs ?_
        intro v' w' o1 g1 n1
        refine ⟨s10, v', s14, s15, s19, s20, s23, (by simp [sel2, *]; rfl), (by simpa [p0, z5, sA, lA] using HP.out.appA false (fun h => h) o1 g1 n1), (by simp [z9])⟩
      · simp only [List.getElem?_cons_zero, List.getElem?_cons_succ, Option.some.injEq] at ho
        subst ho
        try simp [Region.binds] at he
        have z5 : L 5 = false := by cases h : L 5 with | false => rfl | true => (have := q5 h; simp [hL] at this)
        rw [hL] at HP
        clear q3 q5 q13 q9 q14 q15
        gi_wp2
        refine ⟨s10, s13, .slice (some ⟨w2.heap.size, 0, none⟩) 1 1, s15, s19, s20, s23, by simp [sel2, *], (by simpa [z5] using HP.out.mkL), (by simpa using HQ)⟩
      · simp only [List.getElem?_cons_zero, List.getElem?_cons_succ, Option.some.injEq] at ho
        subst ho
        try simp [Region.binds] at he
        have p3 : L 3 = true := by simp [he]
        have p4 : L 4 = true := by simp [he]
        have p0 : L 0 = true := by have := q3 p3; simp [this]
        have z9 : L 9 = false := by cases h : L 9 with | false => rfl | true => (have := q9 h; simp [hL] at this)
        clear q3 q5 q13 q9 q14 q15
        rw [p0, p3, p4, hL] at HP
        obtain ⟨g, rfl, hc, _, _⟩ := HP.out.lit rfl rfl
        simp only [p3, p4, sel2_t]
        refine wpIn_append_w2 rfl (.tmp 13) (.tmp 14) 48 rfl Tryd.underlying48 w1.heap.size s13 a rfl (HP.out.rA rfl) (.slice (some ⟨g, 0, none⟩) 1 1) [77] w2.heap.size rfl (lit_at hc) (by have := HL.out.1; simp; omega) HP.out.hs ?_
        intro v' w' o1 g1 n1
        refine ⟨s10, s13, .slice (some ⟨g, 0, none⟩) 1 1, v', s19, s20, s23, (by simp [sel2, *]; rfl), (by simpa [p0, p3, p4, sA, lA] using HP.out.appA true (fun h => by cases h) o1 g1 n1), (by simp [z9])⟩
      · simp only [List.getElem?_cons_zero, List.getElem?_cons_succ, Option.some.injEq] at ho
        subst ho
        try simp [Region.binds] at he
        clear q3 q5 q13 q9 q14 q15
        try simp only [he, sel2_t]
        gi_wp2
        refine ⟨s10, s13, s14, s15, s19, s20, s23, by simp [sel2, *], (by first | simpa [he] using HP.out | simpa using HP.out), (by first | simpa [he] using HQ | simpa using HQ)⟩
      · simp only [List.getElem?_cons_zero, List.getElem?_cons_succ, Option.some.injEq] at ho
        subst ho
        try simp [Region.binds] at he
        clear q3 q5 q13 q9 q14 q15
        try simp only [he, sel2_t]
        gi_wp2
        refine ⟨s10, s13, s14, s15, s19, s20, s23, by simp [sel2, *], (by first | simpa [he] using HP.out | simpa using HP.out), (by first | simpa [he] using HQ | simpa using HQ)⟩
      · simp only [List.getElem?_cons_zero, List.getElem?_cons_succ, Option.some.injEq] at ho
        subst ho
        try simp [Region.binds] at he
        clear q3 q5 q13 q9 q14 q15
        try simp only [he, sel2_t]
        gi_wp2
        refine ⟨s10, s13, s14, s15, s19, s20, s23, by simp [sel2, *], (by first | simpa [he] using HP.out | simpa using HP.out), (by first | simpa [he] using HQ | simpa using HQ)⟩
      · simp only [List.getElem?_cons_zero, List.getElem?_cons_succ, Option.some.injEq] at ho
        subst ho
        try simp [Region.binds] at he
        have p5 : L 5 = true := by simp [he]
        have z14 : L 14 = false := by cases h : L 14 with | false => rfl | true => (have := q14 h; simp [hL] at this)
        have p8 : L 8 = true := by simp [he]
        have p3 : L 3 = true := by have := q5 p5; simp [this]
        have p0 : L 0 = true := by have := q3 p3; simp [this]
        clear q3 q5 q13 q9 q14 q15
        rw [p0, p5] at HP
        obtain ⟨g, cp, e, _, _, _⟩ := (show OwnW w2 w1.heap.size s15 (a ++ [77]) from HP.out.rA rfl).form' (by simp)
        rw [List.length_append, List.length_singleton] at e
        subst e
        have hcp := words_cap (show OwnW w2 w1.heap.size (.slice (some ⟨g, 0, none⟩) (a.length + 1) cp) (a ++ [77]) from HP.out.rA rfl)
        simp only [p5, p8, sel2_t]
        gi_wp2
        refine ⟨s10, s13, s14, .slice (some ⟨g, 0, none⟩) (a.length + 1) cp, .slice (some ⟨g, 0, none⟩) a.length cp, s20, s23, by simp [sel2, *], (by simpa [p0, p3, p5] using HP.out), (fun _ => ⟨g, cp, rfl, rfl⟩)⟩
      · simp only [List.getElem?_cons_zero, List.getElem?_cons_succ, Option.some.injEq] at ho
        subst ho
        try simp [Region.binds] at he
        have z13 : L 13 = false := by cases h : L 13 with | false => rfl | true => (have := q13 h; simp [hL] at this)
        rw [hL] at HP
        clear q3 q5 q13 q9 q14 q15
        gi_wp2
        refine ⟨s10, s13, s14, s15, s19, .slice (some ⟨w2.heap.size, 0, none⟩) 0 0, s23, by simp [sel2, *], (by simpa [z13, sB, lB] using HP.out.mkB), (by simpa using HQ)⟩
      · simp only [List.getElem?_cons_zero, List.getElem?_cons_succ, Option.some.injEq] at ho
        subst ho
        try simp [Region.binds] at he
        clear q3 q5 q13 q9 q14 q15
        try simp only [he, sel2_t]
        gi_wp2
        refine ⟨s10, s13, s14, s15, s19, s20, s23, by simp [sel2, *], (by first | simpa [he] using HP.out | simpa using HP.out), (by first | simpa [he] using HQ | simpa using HQ)⟩
      · simp only [List.getElem?_cons_zero, List.getElem?_cons_succ, Option.some.injEq] at ho
        subst ho
        try simp [Region.binds] at he
        clear q3 q5 q13 q9 q14 q15
        try simp only [he, sel2_t]
        gi_wp2
        refine ⟨s10, s13, s14, s15, s19, s20, s23, by simp [sel2, *], (by first | simpa [he] using HP.out | simpa using HP.out), (by first | simpa [he] using HQ | simpa using HQ)⟩
      · simp only [List.getElem?_cons_zero, List.getElem?_cons_succ, Option.some.injEq] at ho
        subst ho
        try simp [Region.binds] at he
        have p10 : L 10 = true := by simp [he]
        have z15 : L 15 = false := by cases h : L 15 with | false => rfl | true => (have := q15 h; simp [hL] at this)
        have p12 : L 12 = true := by simp [he]
        have p5 : L 5 = true := by simp [he]
        clear q3 q5 q13 q9 q14 q15
        rw [p10, p5, hL] at HP
        simp only [p10, p12, sel2_t]
        refine wpIn_append_w2 rfl (.tmp 20) (.tmp 22) 48 rfl Tryd.underlying48 w1.heap.size s20 [] rfl (HP.out.rB rfl) (Value.slice bo b.length capb) b _ rfl (HVB.out w2 (A1.out.trans HP.out.hb)) (by have := HL.out.2.1; simp; omega) HP.out.hs ?_
        intro v' w' o1 g1 n1
        refine ⟨s10, s13, s14, s15, s19, s20, v', (by simp [sel2, *]; rfl), (by simpa [p5, p10, sB, lB] using HP.out.appB o1 g1 n1), (by simpa using HQ)⟩
      · simp only [List.getElem?_cons_zero, List.getElem?_cons_succ, Option.some.injEq] at ho
        subst ho
        try simp [Region.binds] at he
        clear q3 q5 q13 q9 q14 q15
        try simp only [he, sel2_t]
        gi_wp2
        refine ⟨s10, s13, s14, s15, s19, s20, s23, by simp [sel2, *], (by first | simpa [he] using HP.out | simpa using HP.out), (by first | simpa [he] using HQ | simpa using HQ)⟩
      · simp only [List.getElem?_cons_zero, List.getElem?_cons_succ, Option.some.injEq] at ho
        subst ho
        try simp [Region.binds] at he
        clear q3 q5 q13 q9 q14 q15
        try simp only [he, sel2_t]
        gi_wp2
        refine ⟨s10, s13, s14, s15, s19, s20, s23, by simp [sel2, *], (by first | simpa [he] using HP.out | simpa using HP.out), (by first | simpa [he] using HQ | simpa using HQ)⟩
      · simp at ho
    case fin =>
      rintro b' w2 ⟨s10, s13, s14, s15, s19, s20, s23, rfl, hP, HQ⟩
      simp only [List.length_cons, List.length_nil, Nat.reduceAdd, Nat.reduceLT, decide_true, sel2_t] at hP HQ ⊢
      obtain ⟨g, cp, rfl, rfl⟩ := HQ trivial
      have hrA : OwnW w2 w1.heap.size (.slice (some ⟨g, 0, none⟩) (a.length + 1) cp) (a ++ [77]) := hP.rA rfl
      have hrB : OwnW w2 w1.heap.size s23 b := hP.rB rfl
      have H19 := Lib.hid (words_cut hrA)
      have H77 := Lib.hid (cell_last hrA)
      have hcap := words_cap hrA
      obtain ⟨a23, c23, rfl⟩ := hrB.isSlice
      have H23 := Lib.hid hrB.words
      have A2 := Lib.hid (show Adds w1 w2 from hP.hb)
      have hj3 := foldTake_length [a, b, c] [] 40 (by simp) (by have := HL.out; intro d hd; simp at hd; rcases hd with rfl | rfl | rfl <;> omega)
      have HJ := Lib.hid (fun (W : World) (vl : Value) (h : ListsW (W.heap.size + 1) (W.alloc (.cells #[.slice (some ⟨g, 0, none⟩) a.length cp, .slice a23 b.length c23, .slice co c.length capc] 48)) vl [a, b, c]) => join_any vl [a, b, c] _ h (by have := HL.out; intro d hd; simp at hd; rcases hd with rfl | rfl | rfl <;> omega))
      have d2 : w2.cell? ⟨w.heap.size, 2, none⟩ = some (Value.slice co c.length capc) := A2.out.cellAt HB012.out.2.2
      have HRJ := Lib.hid (fun W (h : Adds w1 W) => refJoin_any _ [a, b, c] W (HLS.out.below (h.mono (by rw [HS1.out]; exact Nat.le_refl _))) (by have := HL.out; intro d hd; simp at hd; rcases hd with rfl | rfl | rfl <;> omega))
      unfold JoinPost at HJ
      obtain ⟨jl, hjl⟩ : ∃ y, vJoin [a, b, c] = y := ⟨_, rfl⟩
      rw [hjl] at HJ HRJ
      clear hjl hj3 hrA hrB hP HQ
      gi_wp2_with (refine ⟨trivial, ?_⟩; gi_at_call 39; refine (callsIn_wide.2 (HJ.out w2 _ (listsW_3 w2 _ _ _ _ _ _ H19.out H23.out (HVC.out w2 (A1.out.trans A2.out))))).mono ?_; rintro e w3 ⟨v3, rfl, o3, a3⟩; obtain ⟨aj, cj, rfl⟩ := o3.isSlice; have HJW := Lib.hid o3.words; have A3 := Lib.hid ((Adds.new _ _).trans a3); clear a3 o3)
      have HST := Lib.hid (fun W (h : Adds w2 W) => stands_any _ _ a b W (H19.out.adds h) (H23.out.adds h) (HHW.out W (A1.out.trans (A2.out.trans h))))
      have HRS := Lib.hid (fun W (h : Adds w W) => refStands_any _ _ a b W (HVA.out W h) (HVB.out W h))
      obtain ⟨st, hst⟩ : ∃ y, standI a b = y := ⟨_, rfl⟩
      rw [hst] at HST HRS
      clear hst d2
      have HJ0 := Lib.hid (fun W => join_any (n := W.heap.size) (.slice none 0 0) [] W ⟨none, 0, rfl, by simp, by simp [maxLen], fun h => absurd rfl h⟩ (by intro d hd; cases hd))
      unfold JoinPost at HJ0
      have hc1 : (a.length : Int) ≤ 40 := by have := HL.out.1; omega
      refine wpIn_region_inv (fun L b' w4 => ∃ s32 s70 : Value, Reg5 w3 jl (L 2) (L 40) s32 s70 b' ({ tmps := #[Value.agg #[Value.slice ao a.length capa, Value.slice bo b.length capb, Value.slice co c.length capc], Value.pointer (some { block := w.heap.size, off := 0 }), sel2 (L 47) (Value.bool true) (Value.bool false), Value.slice (some { block := g, off := 0 }) a.length cp, Value.slice a23 b.length c23, Value.slice aj jl.length cj, Value.slice (some { block := w.heap.size, off := 0 }) 3 3, Value.bool true, Value.bool false, undef, s10, Value.pointer (some { block := w.heap.size, off := 0 }), Value.slice ao a.length capa, s13, s14, Value.slice (some { block := g, off := 0 }) (a.length + 1) cp, Value.pointer (some { block := w.heap.size, off := 0 }), Value.slice ao a.length capa, Value.int IntKind.i64 (a.length : Nat), Value.slice (some { block := g, off := 0 }) a.length cp, s20, Value.pointer (some { block := w.heap.size, off := 1 }), Value.slice bo b.length capb, Value.slice a23 b.length c23, Value.slice (some { block := g, off := 0 }) a.length cp, Value.slice a23 b.length c23, Value.pointer (some { block := w.heap.size, off := 2 }), Value.slice co c.length capc, Value.slice (some { block := w2.heap.size, off := 0 }) 3 3, Value.slice aj jl.length cj, sel2 (L 0) (Value.slice aj jl.length cj) undef, sel2 (L 1) (Value.slice (some { block := w.heap.size, off := 0 }) 3 3) undef, sel2 (L 2) (s32) undef, sel2 (L 3) (Value.bool true) undef, sel2 (L 4) (Value.bool true) undef, sel2 (L 5) (Value.slice (some { block := g, off := 0 }) a.length cp) undef, sel2 (L 6) (Value.pointer (some { block := w.heap.size, off := 0 })) undef, sel2 (L 7) (Value.slice ao a.length capa) undef, sel2 (L 8) (Value.bool true) undef, sel2 (L 9) (Value.bool true) undef, sel2 (L 10) (Value.bool true) undef, sel2 (L 11) (Value.slice (some { block := g, off := 0 }) a.length cp) undef, sel2 (L 12) (Value.slice (some { block := g, off := 0 }) a.length cp) undef, sel2 (L 13) (Value.int IntKind.i64 (a.length : Nat)) undef, sel2 (L 14) (Value.int IntKind.i64 ((a.length : Int) + 1)) undef, sel2 (L 15) (Value.slice (some { block := g, off := 0 }) (a.length + 1) cp) undef, sel2 (L 16) (Value.slice (some { block := g, off := 0 }) a.length cp) undef, sel2 (L 17) (Value.int IntKind.i64 (a.length : Nat)) undef, sel2 (L 18) (Value.pointer (some { block := g, off := a.length })) undef, sel2 (L 19) (Value.int IntKind.u64 77) undef, sel2 (L 20) (Value.bool true) undef, sel2 (L 21) (Value.bool true) undef, sel2 (L 22) (Value.bool true) undef, sel2 (L 23) (Value.slice a23 b.length c23) undef, sel2 (L 24) (Value.pointer (some { block := w.heap.size, off := 1 })) undef, sel2 (L 25) (Value.slice bo b.length capb) undef, sel2 (L 26) (Value.bool true) undef, sel2 (L 27) (Value.bool true) undef, sel2 (L 28) (Value.bool true) undef, sel2 (L 29) (Value.slice (some { block := g, off := 0 }) a.length cp) undef, sel2 (L 30) (Value.slice a23 b.length c23) undef, sel2 (L 31) (Value.int IntKind.i64 st) undef, sel2 (L 32) (Value.pointer (some { block := w.heap.size, off := 0 })) undef, sel2 (L 33) (Value.slice ao a.length capa) undef, sel2 (L 34) (Value.pointer (some { block := w.heap.size, off := 1 })) undef, sel2 (L 35) (Value.slice bo b.length capb) undef, sel2 (L 36) (Value.int IntKind.i64 st) undef, sel2 (L 37) (Value.bool true) undef, sel2 (L 38) (Value.bool true) undef, sel2 (L 39) (Value.bool true) undef, sel2 (L 40) (s70) undef, sel2 (L 41) (Value.int IntKind.i64 0) undef, sel2 (L 42) (Value.bool true) undef, sel2 (L 43) (Value.bool true) undef, sel2 (L 44) (Value.bool true) undef, sel2 (L 45) (Value.bool true) undef, sel2 (L 46) (Value.bool true) undef], defers := [] }) w4) hmo (by kernel_rfl) ?inv5 ?step5 ?fin5
      case inv5 => exact ⟨undef, undef, rfl, Adds.drew _, fun h => (by cases h), fun h => (by cases h)⟩
      case step5 =>
        rintro L b' w4 i o ho hL hC he ⟨s32, s70, rfl, ha, hq, hr⟩
        clear hC
        have HA := Lib.hid ha; clear ha
        have HQ := Lib.hid hq; clear hq
        have HR := Lib.hid hr; clear hr
        have d0 : w4.cell? ⟨w.heap.size, 0, none⟩ = some (Value.slice ao a.length capa) := (A2.out.trans (A3.out.trans HA.out)).cellAt HB012.out.1
        have d1 : w4.cell? ⟨w.heap.size, 1, none⟩ = some (Value.slice bo b.length capb) := (A2.out.trans (A3.out.trans HA.out)).cellAt HB012.out.2.1
        have d77 : w4.cell? ⟨g, a.length, none⟩ = some (.int .u64 77) := (A3.out.trans HA.out).cellAt H77.out
        rcases i with _ | _ | _ | _ | _ | _ | _ | _ | _ | _ | _ | _ | _ | _ | _ | _ | _ | _ | _ | _ | _ | _ | _ | _ | _ | _ | _ | _ | _ | _ | _ | _ | _ | _ | _ | _ | _ | _ | _ | _ | _ | _ | _ | _ | _ | _ | _ | _ | i
        · try simp only [List.getElem?_cons_zero, List.getElem?_cons_succ, Option.some.injEq] at ho
          subst ho
          try simp [Region.binds] at he
          try simp only [he, sel2_t]
          gi_wp2
          refine ⟨s32, s70, by simp [sel2, *], HA.out, (by first | simpa using HQ.out | simpa [he] using HQ.out), (by first | simpa using HR.out | simpa [he] using HR.out)⟩
        · try simp only [List.getElem?_cons_zero, List.getElem?_cons_succ, Option.some.injEq] at ho
          subst ho
          try simp [Region.binds] at he
          try simp only [he, sel2_t]
          gi_wp2
          refine ⟨s32, s70, by simp [sel2, *], HA.out, (by first | simpa using HQ.out | simpa [he] using HQ.out), (by first | simpa using HR.out | simpa [he] using HR.out)⟩
        · try simp only [List.getElem?_cons_zero, List.getElem?_cons_succ, Option.some.injEq] at ho
          subst ho
          try simp [Region.binds] at he
          try simp only [he, sel2_t]
          gi_wp2_with (refine ⟨trivial, ?_⟩; gi_at_call 40; refine (callsIn_wide.2 (HRJ.out w4 (A2.out.trans (A3.out.trans HA.out)))).mono ?_; rintro e w5 ⟨v5, rfl, o5, a5⟩)
          obtain ⟨q1, q2, rfl⟩ := o5.isSlice
          exact ⟨.slice q1 jl.length q2, s70, by simp [sel2, *], HA.out.trans a5, (fun _ => ⟨q1, q2, rfl, o5.words⟩), (by first | simpa using HR.out | simpa [he] using HR.out)⟩
        · try simp only [List.getElem?_cons_zero, List.getElem?_cons_succ, Option.some.injEq] at ho
          subst ho
          try simp [Region.binds] at he
          try simp only [he, sel2_t]
          obtain ⟨q1, q2, rfl, hq4⟩ := HQ.out (by simp [he])
          gi_wp2_with (refine ⟨trivial, ?_⟩; gi_at_call 30; refine (callsIn_wide.2 (refEqual_any _ _ jl jl w4 (HJW.out.adds HA.out) hq4)).mono ?_; rintro e w5 ⟨rfl, a5⟩)
          rw [eqB_self]
          refine ⟨.slice q1 jl.length q2, s70, by simp [sel2, *], HA.out.trans a5, (fun _ => ⟨q1, q2, rfl, hq4.adds a5⟩), (by first | simpa using HR.out | simpa [he] using HR.out)⟩
        · try simp only [List.getElem?_cons_zero, List.getElem?_cons_succ, Option.some.injEq] at ho
          subst ho
          try simp [Region.binds] at he
          try simp only [he, sel2_t]
          gi_wp2
          refine ⟨s32, s70, by simp [sel2, *], HA.out, (by first | simpa using HQ.out | simpa [he] using HQ.out), (by first | simpa using HR.out | simpa [he] using HR.out)⟩
        · try simp only [List.getElem?_cons_zero, List.getElem?_cons_succ, Option.some.injEq] at ho
          subst ho
          try simp [Region.binds] at he
          try simp only [he, sel2_t]
          gi_wp2
          refine ⟨s32, s70, by simp [sel2, *], HA.out, (by first | simpa using HQ.out | simpa [he] using HQ.out), (by first | simpa using HR.out | simpa [he] using HR.out)⟩
        · try simp only [List.getElem?_cons_zero, List.getElem?_cons_succ, Option.some.injEq] at ho
          subst ho
          try simp [Region.binds] at he
          try simp only [he, sel2_t]
          gi_wp2
          refine ⟨s32, s70, by simp [sel2, *], HA.out, (by first | simpa using HQ.out | simpa [he] using HQ.out), (by first | simpa using HR.out | simpa [he] using HR.out)⟩
        · try simp only [List.getElem?_cons_zero, List.getElem?_cons_succ, Option.some.injEq] at ho
          subst ho
          try simp [Region.binds] at he
          try simp only [he, sel2_t]
          gi_wp2
          refine ⟨s32, s70, by simp [sel2, *], HA.out, (by first | simpa using HQ.out | simpa [he] using HQ.out), (by first | simpa using HR.out | simpa [he] using HR.out)⟩
        · try simp only [List.getElem?_cons_zero, List.getElem?_cons_succ, Option.some.injEq] at ho
          subst ho
          try simp [Region.binds] at he
          try simp only [he, sel2_t]
          gi_wp2_with (refine ⟨trivial, ?_⟩; gi_at_call 30; refine (callsIn_wide.2 (refEqual_any _ _ a a w4 (H19.out.adds (A3.out.trans HA.out)) (HVA.out w4 (A1.out.trans (A2.out.trans (A3.out.trans HA.out)))))).mono ?_; rintro e w5 ⟨rfl, a5⟩)
          rw [eqB_self]
          refine ⟨s32, s70, by simp [sel2, *], HA.out.trans a5, (fun h => by obtain ⟨q1, q2, q3, q4⟩ := HQ.out (by first | simpa using h | simp [he]); exact ⟨q1, q2, q3, q4.adds a5⟩), (by first | simpa using HR.out | simpa [he] using HR.out)⟩
        · try simp only [List.getElem?_cons_zero, List.getElem?_cons_succ, Option.some.injEq] at ho
          subst ho
          try simp [Region.binds] at he
          try simp only [he, sel2_t]
          gi_wp2
          refine ⟨s32, s70, by simp [sel2, *], HA.out, (by first | simpa using HQ.out | simpa [he] using HQ.out), (by first | simpa using HR.out | simpa [he] using HR.out)⟩
        · try simp only [List.getElem?_cons_zero, List.getElem?_cons_succ, Option.some.injEq] at ho
          subst ho
          try simp [Region.binds] at he
          try simp only [he, sel2_t]
          gi_wp2
          refine ⟨s32, s70, by simp [sel2, *], HA.out, (by first | simpa using HQ.out | simpa [he] using HQ.out), (by first | simpa using HR.out | simpa [he] using HR.out)⟩
        · try simp only [List.getElem?_cons_zero, List.getElem?_cons_succ, Option.some.injEq] at ho
          subst ho
          try simp [Region.binds] at he
          try simp only [he, sel2_t]
          gi_wp2
          refine ⟨s32, s70, by simp [sel2, *], HA.out, (by first | simpa using HQ.out | simpa [he] using HQ.out), (by first | simpa using HR.out | simpa [he] using HR.out)⟩
        · try simp only [List.getElem?_cons_zero, List.getElem?_cons_succ, Option.some.injEq] at ho
          subst ho
          try simp [Region.binds] at he
          try simp only [he, sel2_t]
          gi_wp2
          refine ⟨s32, s70, by simp [sel2, *], HA.out, (by first | simpa using HQ.out | simpa [he] using HQ.out), (by first | simpa using HR.out | simpa [he] using HR.out)⟩
        · try simp only [List.getElem?_cons_zero, List.getElem?_cons_succ, Option.some.injEq] at ho
          subst ho
          try simp [Region.binds] at he
          try simp only [he, sel2_t]
          gi_wp2
          refine ⟨s32, s70, by simp [sel2, *], HA.out, (by first | simpa using HQ.out | simpa [he] using HQ.out), (by first | simpa using HR.out | simpa [he] using HR.out)⟩
        · try simp only [List.getElem?_cons_zero, List.getElem?_cons_succ, Option.some.injEq] at ho
          subst ho
          try simp [Region.binds] at he
          try simp only [he, sel2_t]
          gi_wp2
          refine ⟨s32, s70, by simp [sel2, *], HA.out, (by first | simpa using HQ.out | simpa [he] using HQ.out), (by first | simpa using HR.out | simpa [he] using HR.out)⟩
        · try simp only [List.getElem?_cons_zero, List.getElem?_cons_succ, Option.some.injEq] at ho
          subst ho
          try simp [Region.binds] at he
          try simp only [he, sel2_t]
          gi_wp2
          refine ⟨s32, s70, by simp [sel2, *], HA.out, (by first | simpa using HQ.out | simpa [he] using HQ.out), (by first | simpa using HR.out | simpa [he] using HR.out)⟩
        · try simp only [List.getElem?_cons_zero, List.getElem?_cons_succ, Option.some.injEq] at ho
          subst ho
          try simp [Region.binds] at he
          try simp only [he, sel2_t]
          gi_wp2
          refine ⟨s32, s70, by simp [sel2, *], HA.out, (by first | simpa using HQ.out | simpa [he] using HQ.out), (by first | simpa using HR.out | simpa [he] using HR.out)⟩
        · try simp only [List.getElem?_cons_zero, List.getElem?_cons_succ, Option.some.injEq] at ho
          subst ho
          try simp [Region.binds] at he
          try simp only [he, sel2_t]
          gi_wp2
          refine ⟨s32, s70, by simp [sel2, *], HA.out, (by first | simpa using HQ.out | simpa [he] using HQ.out), (by first | simpa using HR.out | simpa [he] using HR.out)⟩
        · try simp only [List.getElem?_cons_zero, List.getElem?_cons_succ, Option.some.injEq] at ho
          subst ho
          try simp [Region.binds] at he
          try simp only [he, sel2_t]
          gi_wp2
          refine ⟨s32, s70, by simp [sel2, *], HA.out, (by first | simpa using HQ.out | simpa [he] using HQ.out), (by first | simpa using HR.out | simpa [he] using HR.out)⟩
        · try simp only [List.getElem?_cons_zero, List.getElem?_cons_succ, Option.some.injEq] at ho
          subst ho
          try simp [Region.binds] at he
          try simp only [he, sel2_t]
          gi_wp2
          refine ⟨s32, s70, by simp [sel2, *], HA.out, (by first | simpa using HQ.out | simpa [he] using HQ.out), (by first | simpa using HR.out | simpa [he] using HR.out)⟩
        · try simp only [List.getElem?_cons_zero, List.getElem?_cons_succ, Option.some.injEq] at ho
          subst ho
          try simp [Region.binds] at he
          try simp only [he, sel2_t]
          gi_wp2
          refine ⟨s32, s70, by simp [sel2, *], HA.out, (by first | simpa using HQ.out | simpa [he] using HQ.out), (by first | simpa using HR.out | simpa [he] using HR.out)⟩
        · try simp only [List.getElem?_cons_zero, List.getElem?_cons_succ, Option.some.injEq] at ho
          subst ho
          try simp [Region.binds] at he
          try simp only [he, sel2_t]
          gi_wp2
          refine ⟨s32, s70, by simp [sel2, *], HA.out, (by first | simpa using HQ.out | simpa [he] using HQ.out), (by first | simpa using HR.out | simpa [he] using HR.out)⟩
        · try simp only [List.getElem?_cons_zero, List.getElem?_cons_succ, Option.some.injEq] at ho
          subst ho
          try simp [Region.binds] at he
          try simp only [he, sel2_t]
          gi_wp2
          refine ⟨s32, s70, by simp [sel2, *], HA.out, (by first | simpa using HQ.out | simpa [he] using HQ.out), (by first | simpa using HR.out | simpa [he] using HR.out)⟩
        · try simp only [List.getElem?_cons_zero, List.getElem?_cons_succ, Option.some.injEq] at ho
          subst ho
          try simp [Region.binds] at he
          try simp only [he, sel2_t]
          gi_wp2
          refine ⟨s32, s70, by simp [sel2, *], HA.out, (by first | simpa using HQ.out | simpa [he] using HQ.out), (by first | simpa using HR.out | simpa [he] using HR.out)⟩
        · try simp only [List.getElem?_cons_zero, List.getElem?_cons_succ, Option.some.injEq] at ho
          subst ho
          try simp [Region.binds] at he
          try simp only [he, sel2_t]
          gi_wp2
          refine ⟨s32, s70, by simp [sel2, *], HA.out, (by first | simpa using HQ.out | simpa [he] using HQ.out), (by first | simpa using HR.out | simpa [he] using HR.out)⟩
        · try simp only [List.getElem?_cons_zero, List.getElem?_cons_succ, Option.some.injEq] at ho
          subst ho
          try simp [Region.binds] at he
          try simp only [he, sel2_t]
          gi_wp2
          refine ⟨s32, s70, by simp [sel2, *], HA.out, (by first | simpa using HQ.out | simpa [he] using HQ.out), (by first | simpa using HR.out | simpa [he] using HR.out)⟩
        · try simp only [List.getElem?_cons_zero, List.getElem?_cons_succ, Option.some.injEq] at ho
          subst ho
          try simp [Region.binds] at he
          try simp only [he, sel2_t]
          gi_wp2_with (refine ⟨trivial, ?_⟩; gi_at_call 30; refine (callsIn_wide.2 (refEqual_any _ _ b b w4 (H23.out.adds (A3.out.trans HA.out)) (HVB.out w4 (A1.out.trans (A2.out.trans (A3.out.trans HA.out)))))).mono ?_; rintro e w5 ⟨rfl, a5⟩)
          rw [eqB_self]
          refine ⟨s32, s70, by simp [sel2, *], HA.out.trans a5, (fun h => by obtain ⟨q1, q2, q3, q4⟩ := HQ.out (by first | simpa using h | simp [he]); exact ⟨q1, q2, q3, q4.adds a5⟩), (by first | simpa using HR.out | simpa [he] using HR.out)⟩
        · try simp only [List.getElem?_cons_zero, List.getElem?_cons_succ, Option.some.injEq] at ho
          subst ho
          try simp [Region.binds] at he
          try simp only [he, sel2_t]
          gi_wp2
          refine ⟨s32, s70, by simp [sel2, *], HA.out, (by first | simpa using HQ.out | simpa [he] using HQ.out), (by first | simpa using HR.out | simpa [he] using HR.out)⟩
        · try simp only [List.getElem?_cons_zero, List.getElem?_cons_succ, Option.some.injEq] at ho
          subst ho
          try simp [Region.binds] at he
          try simp only [he, sel2_t]
          gi_wp2
          refine ⟨s32, s70, by simp [sel2, *], HA.out, (by first | simpa using HQ.out | simpa [he] using HQ.out), (by first | simpa using HR.out | simpa [he] using HR.out)⟩
        · try simp only [List.getElem?_cons_zero, List.getElem?_cons_succ, Option.some.injEq] at ho
          subst ho
          try simp [Region.binds] at he
          try simp only [he, sel2_t]
          gi_wp2
          refine ⟨s32, s70, by simp [sel2, *], HA.out, (by first | simpa using HQ.out | simpa [he] using HQ.out), (by first | simpa using HR.out | simpa [he] using HR.out)⟩
        · try simp only [List.getElem?_cons_zero, List.getElem?_cons_succ, Option.some.injEq] at ho
          subst ho
          try simp [Region.binds] at he
          try simp only [he, sel2_t]
          gi_wp2
          refine ⟨s32, s70, by simp [sel2, *], HA.out, (by first | simpa using HQ.out | simpa [he] using HQ.out), (by first | simpa using HR.out | simpa [he] using HR.out)⟩
        · try simp only [List.getElem?_cons_zero, List.getElem?_cons_succ, Option.some.injEq] at ho
          subst ho
          try simp [Region.binds] at he
          try simp only [he, sel2_t]
          gi_wp2_with (refine ⟨trivial, ?_⟩; gi_at_call 41; refine (callsIn_wide.2 (HST.out w4 (A3.out.trans HA.out))).mono ?_; rintro e w5 ⟨rfl, a5⟩)
          refine ⟨s32, s70, by simp [sel2, *], HA.out.trans a5, (fun h => by obtain ⟨q1, q2, q3, q4⟩ := HQ.out (by first | simpa using h | simp [he]); exact ⟨q1, q2, q3, q4.adds a5⟩), (by first | simpa using HR.out | simpa [he] using HR.out)⟩
        · try simp only [List.getElem?_cons_zero, List.getElem?_cons_succ, Option.some.injEq] at ho
          subst ho
          try simp [Region.binds] at he
          try simp only [he, sel2_t]
          gi_wp2
          refine ⟨s32, s70, by simp [sel2, *], HA.out, (by first | simpa using HQ.out | simpa [he] using HQ.out), (by first | simpa using HR.out | simpa [he] using HR.out)⟩
        · try simp only [List.getElem?_cons_zero, List.getElem?_cons_succ, Option.some.injEq] at ho
          subst ho
          try simp [Region.binds] at he
          try simp only [he, sel2_t]
          gi_wp2
          refine ⟨s32, s70, by simp [sel2, *], HA.out, (by first | simpa using HQ.out | simpa [he] using HQ.out), (by first | simpa using HR.out | simpa [he] using HR.out)⟩
        · try simp only [List.getElem?_cons_zero, List.getElem?_cons_succ, Option.some.injEq] at ho
          subst ho
          try simp [Region.binds] at he
          try simp only [he, sel2_t]
          gi_wp2
          refine ⟨s32, s70, by simp [sel2, *], HA.out, (by first | simpa using HQ.out | simpa [he] using HQ.out), (by first | simpa using HR.out | simpa [he] using HR.out)⟩
        · try simp only [List.getElem?_cons_zero, List.getElem?_cons_succ, Option.some.injEq] at ho
          subst ho
          try simp [Region.binds] at he
          try simp only [he, sel2_t]
          gi_wp2
          refine ⟨s32, s70, by simp [sel2, *], HA.out, (by first | simpa using HQ.out | simpa [he] using HQ.out), (by first | simpa using HR.out | simpa [he] using HR.out)⟩
        · try simp only [List.getElem?_cons_zero, List.getElem?_cons_succ, Option.some.injEq] at ho
          subst ho
          try simp [Region.binds] at he
          try simp only [he, sel2_t]
          gi_wp2_with (refine ⟨trivial, ?_⟩; gi_at_call 42; refine (callsIn_wide.2 (HRS.out w4 (A1.out.trans (A2.out.trans (A3.out.trans HA.out))))).mono ?_; rintro e w5 ⟨rfl, a5⟩)
          refine ⟨s32, s70, by simp [sel2, *], HA.out.trans a5, (fun h => by obtain ⟨q1, q2, q3, q4⟩ := HQ.out (by first | simpa using h | simp [he]); exact ⟨q1, q2, q3, q4.adds a5⟩), (by first | simpa using HR.out | simpa [he] using HR.out)⟩
        · try simp only [List.getElem?_cons_zero, List.getElem?_cons_succ, Option.some.injEq] at ho
          subst ho
          try simp [Region.binds] at he
          try simp only [he, sel2_t]
          gi_wp2
          refine ⟨s32, s70, by simp [sel2, *], HA.out, (by first | simpa using HQ.out | simpa [he] using HQ.out), (by first | simpa using HR.out | simpa [he] using HR.out)⟩
        · try simp only [List.getElem?_cons_zero, List.getElem?_cons_succ, Option.some.injEq] at ho
          subst ho
          try simp [Region.binds] at he
          try simp only [he, sel2_t]
          gi_wp2
          refine ⟨s32, s70, by simp [sel2, *], HA.out, (by first | simpa using HQ.out | simpa [he] using HQ.out), (by first | simpa using HR.out | simpa [he] using HR.out)⟩
        · try simp only [List.getElem?_cons_zero, List.getElem?_cons_succ, Option.some.injEq] at ho
          subst ho
          try simp [Region.binds] at he
          try simp only [he, sel2_t]
          gi_wp2
          refine ⟨s32, s70, by simp [sel2, *], HA.out, (by first | simpa using HQ.out | simpa [he] using HQ.out), (by first | simpa using HR.out | simpa [he] using HR.out)⟩
        · try simp only [List.getElem?_cons_zero, List.getElem?_cons_succ, Option.some.injEq] at ho
          subst ho
          try simp [Region.binds] at he
          try simp only [he, sel2_t]
          gi_wp2_with (refine ⟨trivial, ?_⟩; gi_at_call 39; refine (callsIn_wide.2 (HJ0.out w4)).mono ?_; rintro e w5 ⟨v5, rfl, o5, a5⟩)
          obtain ⟨q1, q2, rfl⟩ := o5.isSlice
          refine ⟨s32, .slice q1 0 q2, by simp [sel2, *]; rfl, HA.out.trans a5, (fun h => by obtain ⟨q1, q2, q3, q4⟩ := HQ.out (by first | simpa using h | simp [he]); exact ⟨q1, q2, q3, q4.adds a5⟩), (fun _ => ⟨q1, q2, rfl⟩)⟩
        · try simp only [List.getElem?_cons_zero, List.getElem?_cons_succ, Option.some.injEq] at ho
          subst ho
          try simp [Region.binds] at he
          obtain ⟨r1, r2, rfl⟩ := HR.out (by simp [he])
          try simp only [he, sel2_t]
          gi_wp2
          refine ⟨s32, .slice r1 0 r2, by simp [sel2, *], HA.out, (by first | simpa using HQ.out | simpa [he] using HQ.out), (fun _ => ⟨r1, r2, rfl⟩)⟩
        · try simp only [List.getElem?_cons_zero, List.getElem?_cons_succ, Option.some.injEq] at ho
          subst ho
          try simp [Region.binds] at he
          try simp only [he, sel2_t]
          gi_wp2
          refine ⟨s32, s70, by simp [sel2, *], HA.out, (by first | simpa using HQ.out | simpa [he] using HQ.out), (by first | simpa using HR.out | simpa [he] using HR.out)⟩
        · try simp only [List.getElem?_cons_zero, List.getElem?_cons_succ, Option.some.injEq] at ho
          subst ho
          try simp [Region.binds] at he
          try simp only [he, sel2_t]
          gi_wp2
          refine ⟨s32, s70, by simp [sel2, *], HA.out, (by first | simpa using HQ.out | simpa [he] using HQ.out), (by first | simpa using HR.out | simpa [he] using HR.out)⟩
        · try simp only [List.getElem?_cons_zero, List.getElem?_cons_succ, Option.some.injEq] at ho
          subst ho
          try simp [Region.binds] at he
          try simp only [he, sel2_t]
          gi_wp2
          refine ⟨s32, s70, by simp [sel2, *], HA.out, (by first | simpa using HQ.out | simpa [he] using HQ.out), (by first | simpa using HR.out | simpa [he] using HR.out)⟩
        · try simp only [List.getElem?_cons_zero, List.getElem?_cons_succ, Option.some.injEq] at ho
          subst ho
          try simp [Region.binds] at he
          try simp only [he, sel2_t]
          gi_wp2_with (refine ⟨trivial, ?_⟩; gi_at_call 24; refine (callsIn_wide.2 (HW.out w4 (A1.out.trans (A2.out.trans (A3.out.trans HA.out))))).mono ?_; rintro e w5 ⟨rfl, a5⟩)
          refine ⟨s32, s70, by simp [sel2, *], HA.out.trans a5, (fun h => by obtain ⟨q1, q2, q3, q4⟩ := HQ.out (by first | simpa using h | simp [he]); exact ⟨q1, q2, q3, q4.adds a5⟩), (by first | simpa using HR.out | simpa [he] using HR.out)⟩
        · try simp only [List.getElem?_cons_zero, List.getElem?_cons_succ, Option.some.injEq] at ho
          subst ho
          try simp [Region.binds] at he
          try simp only [he, sel2_t]
          gi_wp2
          refine ⟨s32, s70, by simp [sel2, *], HA.out, (by first | simpa using HQ.out | simpa [he] using HQ.out), (by first | simpa using HR.out | simpa [he] using HR.out)⟩
        · try simp only [List.getElem?_cons_zero, List.getElem?_cons_succ, Option.some.injEq] at ho
          subst ho
          try simp [Region.binds] at he
          try simp only [he, sel2_t]
          gi_wp2
          refine ⟨s32, s70, by simp [sel2, *], HA.out, (by first | simpa using HQ.out | simpa [he] using HQ.out), (by first | simpa using HR.out | simpa [he] using HR.out)⟩
        · simp at ho
      case fin5 =>
        rintro b' w4 ⟨s32, s70, rfl, ha, hq, hr⟩
        have HA := Lib.hid ha; clear ha
        simp only [List.length_cons, List.length_nil, Nat.reduceAdd, Nat.reduceLT, decide_true, sel2_t] at hq hr ⊢
        obtain ⟨q1, q2, rfl, _⟩ := hq trivial
        obtain ⟨r1, r2, rfl⟩ := hr trivial
        gi_wp2
        go_ret
        exact ⟨rfl, A1.out.trans (A2.out.trans (A3.out.trans HA.out))⟩
  · rw [few_three_not hl] at HF
    have AX := Lib.hid (Adds.new w (.cells #[.slice ao a.length capa, .slice bo b.length capb, .slice co c.length capc] 67))
    clear hl
    go_enter Tryd.func7, Tryd.ntmps7
    go_wp2_with (first
      | (go_at_call 23; refine HF.out.mono ?_; rintro e w' ⟨rfl, rfl⟩)
      | (go_at_call 24; refine (HW.out _ AX.out).mono ?_; rintro e w1 ⟨rfl, a1⟩; have AX := Lib.hid (AX.out.trans a1); clear a1))
    go_ret
    exact ⟨rfl, AX.out⟩
end Go.Proofs.YtcimppggemdidaaDoor
