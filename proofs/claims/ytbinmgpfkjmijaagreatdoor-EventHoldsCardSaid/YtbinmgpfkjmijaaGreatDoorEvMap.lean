/- What Kinds name: the map of rows of parts: contract. -/
import Derived.Laws.EntriesVeiled
import Derived.Test.YtbinmgpfkjmijaaGreatDoorEvF1
namespace Go.Proofs.YtbinmgpfkjmijaaGreatDoor
open Go Go.RowKit

/-- How a slice reads: where it lies, its length, its room. -/
def slElem : Value → Option (DataW Unit × List MemPlace)
  | .slice none n c => some (.agg [.lit (.int .u64 0), .lit (.int .u64 0), .lit (.int .u64 n), .lit (.int .u64 c)], [])
  | .slice (some ⟨b, o, none⟩) n c => some (.agg [.lit (.int .u64 ((b + 1 : Nat) : Int)), .lit (.int .u64 o), .lit (.int .u64 n), .lit (.int .u64 c)], [])
  | _ => none
theorem slElem_inj {v u : Value} {d : DataW Unit} {ps qs : List MemPlace} (h : slElem v = some (d, ps)) (k : slElem u = some (d, qs)) : v = u := by
  unfold slElem at h k
  split at h
  · simp only [Option.some.injEq, Prod.mk.injEq] at h
    obtain ⟨h, _⟩ := h
    subst h
    split at k
    · simp only [Option.some.injEq, Prod.mk.injEq, DataW.agg.injEq, List.cons.injEq, DataW.lit.injEq, Lit.int.injEq, true_and, and_true] at k
      rw [Int.ofNat.inj k.1.1, Int.ofNat.inj k.1.2]
    · simp only [Option.some.injEq, Prod.mk.injEq, DataW.agg.injEq, List.cons.injEq, DataW.lit.injEq, Lit.int.injEq, true_and, and_true] at k
      omega
    · cases k
  · simp only [Option.some.injEq, Prod.mk.injEq] at h
    obtain ⟨h, _⟩ := h
    subst h
    split at k
    · simp only [Option.some.injEq, Prod.mk.injEq, DataW.agg.injEq, List.cons.injEq, DataW.lit.injEq, Lit.int.injEq, true_and, and_true] at k
      omega
    · simp only [Option.some.injEq, Prod.mk.injEq, DataW.agg.injEq, List.cons.injEq, DataW.lit.injEq, Lit.int.injEq, true_and, and_true] at k
      have e1 := Nat.succ.inj (Int.ofNat.inj k.1.1)
      rw [e1, Int.ofNat.inj k.1.2.1, Int.ofNat.inj k.1.2.2.1, Int.ofNat.inj k.1.2.2.2]
    · cases k
  · cases h
def dSl (v : Value) : DataW Unit := match slElem v with | some (d, _) => d | none => .nil
/-- The map of so many values, by Kinds. -/
def mapQ (vs : List Value) : DataW Unit := (vs.foldl (fun (r : DataW Unit × Nat) v => (r.1.put (.int .i64 ((r.2 + 1 : Nat) : Int)) (dSl v), r.2 + 1)) (.map [], 0)).1
theorem foldl_at : ∀ (vs : List Value) (d : DataW Unit) (n : Nat), (vs.foldl (fun (r : DataW Unit × Nat) v => (r.1.put (.int .i64 ((r.2 + 1 : Nat) : Int)) (dSl v), r.2 + 1)) (d, n)).2 = n + vs.length
  | [], _, _ => rfl
  | v :: vs, d, n => by rw [List.foldl_cons, foldl_at vs]; simp; omega
theorem mapQ_snoc (vs : List Value) (v : Value) : mapQ (vs ++ [v]) = (mapQ vs).put (.int .i64 ((vs.length + 1 : Nat) : Int)) (dSl v) := by
  unfold mapQ
  rw [List.foldl_append, List.foldl_cons, List.foldl_nil, foldl_at, Nat.zero_add]
theorem kkind : Maps.Keyed Tryz.prog 22 := Maps.int_keyed Tryz.underlying22
theorem zeroSl (w : World) : (zeroValue 61).run Tryz.prog w = .ok (.slice none 0 0) w := by kernel_rfl
/-- A row of parts lies in a block. -/
def RowQ (w : World) (g : Nat) (l : List Nat) : Prop := g < w.heap.size ∧ ∀ i, i < l.length → ∀ q, q < 5 → w.cell? ⟨g, i * 5 + q, none⟩ = (ptE (l.getD i 0))[q]?
theorem RowQ.adds {w w' : World} {g : Nat} {l : List Nat} (h : RowQ w g l) (ha : Adds w w') : RowQ w' g l :=
  ⟨Nat.lt_of_lt_of_le h.1 ha.size, fun i hi q hq => by
    have := h.2 i hi q hq
    rw [← this]
    unfold World.cell?
    rw [ha.block g h.1]⟩
theorem RowQ.turn {w w' : World} {g b : Nat} {l : List Nat} (h : RowQ w g l) (hb : g ≠ b) (ha : TnS b w w') : RowQ w' g l :=
  ⟨Nat.lt_of_lt_of_le h.1 ha.size, fun i hi q hq => by
    have := h.2 i hi q hq
    rw [← this]
    unfold World.cell?
    rw [ha.block g h.1 (fun e => hb (by cases e; rfl))]⟩
theorem RowQ.one (w : World) (p : Nat) : RowQ (w.alloc (.cells (ptE p).toArray 70)) w.heap.size [p] :=
  ⟨by simp, fun i hi q _ => by
    obtain rfl : i = 0 := by simpa using hi
    simp⟩
theorem RowQ.two (w : World) (p r : Nat) : RowQ (w.alloc (.cells (ptE p ++ ptE r).toArray 70)) w.heap.size [p, r] :=
  ⟨by simp, fun i hi q hq => by
    have h := (BkS.new 70 w (ptE p ++ ptE r)).cell (i * 5 + q)
    rw [h]
    have hi2 : i = 0 ∨ i = 1 := by simp at hi; omega
    rcases hi2 with rfl | rfl
    · rw [List.getElem?_append_left (by simp [ptE]; omega)]; simp
    · rw [List.getElem?_append_right (by simp [ptE]), show 1 * 5 + q - (ptE p).length = q by simp [ptE]]; simp⟩
theorem adds_box16 (w : World) (o : Obj) : Adds w (w.alloc o) := (Below.refl _ _).alloc (Nat.le_refl _) _
/-- The map under way: its values; rows that lie apart. -/
structure NmSt (w : World) (b : Nat) (rows : List (Nat × List Nat)) (vs : List Value) (W : World) : Prop where
  map : W.ownsMap Tryz.prog 22 slElem b vs.length (mapQ vs)
  row : ∀ r ∈ rows, RowQ W r.1 r.2 ∧ r.1 ≠ b
  adds : Adds w W
  low : w.heap.size ≤ b
  lt : b < W.heap.size
theorem ownsMap_adds {w w' : World} {b n : Nat} {D : DataW Unit} (h : w.ownsMap Tryz.prog 22 slElem b n D) (ha : Adds w w') : w'.ownsMap Tryz.prog 22 slElem b n D := by
  obtain ⟨es0, clock, h0, F, hs, hD⟩ := h
  have hlt : b < w.heap.size := (Array.getElem?_eq_some_iff.1 h0).1
  exact ⟨es0, clock, (ha.block b hlt).trans h0, F, hs, hD⟩
theorem NmSt.more {w W W' : World} {b : Nat} {rows : List (Nat × List Nat)} {vs : List Value} (h : NmSt w b rows vs W) (ha : Adds W W') : NmSt w b rows vs W' :=
  ⟨ownsMap_adds h.map ha, fun r hr => ⟨(h.row r hr).1.adds ha, (h.row r hr).2⟩, Adds.trans h.adds ha, h.low, Nat.lt_of_lt_of_le h.lt ha.size⟩
theorem NmSt.push {w W : World} {b : Nat} {rows : List (Nat × List Nat)} {vs : List Value} (h : NmSt w b rows vs W) {g : Nat} {l : List Nat} (hr : RowQ W g l) (hg : b < g) : NmSt w b ((g, l) :: rows) vs W :=
  ⟨h.map, fun r hm => by
    rcases List.mem_cons.1 hm with rfl | hm
    · exact ⟨hr, by simp only; omega⟩
    · exact h.row r hm, h.adds, h.low, h.lt⟩
theorem NmSt.put {w W W' : World} {b : Nat} {rows : List (Nat × List Nat)} {vs : List Value} {v : Value} (h : NmSt w b rows vs W) (ho : W'.ownsMap Tryz.prog 22 slElem b (vs.length + 1) ((mapQ vs).put (.int .i64 ((vs.length + 1 : Nat) : Int)) (dSl v))) (ht : W.grownBy W' (some b)) : NmSt w b rows (vs ++ [v]) W' :=
  ⟨by rw [mapQ_snoc, List.length_append]; exact ho, fun r hr => ⟨(h.row r hr).1.turn (h.row r hr).2 ht, (h.row r hr).2⟩, TnS.own h.adds h.low ht, h.low, Nat.lt_of_lt_of_le h.lt ht.size⟩
theorem wpList_insertQ {P : Program} (w : World) {ops : Array Oper} {rest : List Oper} {o : Oper} {a : Act} {Q : Exit → Act → World → Prop}
    (hg : o.guard = none) (m x v : Operand) (t : TypeId) (hop : o.op = Op.insert t m x v)
    (k e : TypeId) (K : Maps.Keyed P k) (ht : P.underlying t = some (.map k e)) (R : Value → Option (DataW Unit × List MemPlace)) (b n : Nat) (D : DataW Unit)
    (hm : a.eval m = .map (some b)) (hown : w.ownsMap P k R b n D) (hn : n < maxLen) (key val : Value) (kl : Lit) (hx : a.eval x = key) (hv : a.eval v = val) (hkey : keyOf P k key = some kl)
    (d : DataW Unit) (ps : List MemPlace) (hval : R val = some (d, ps))
    (hK : ∀ w', w'.ownsMap P k R b (n + 1) (D.put kl d) → w.grownBy w' (some b) → wpList P ops Q rest (a.put o.dst undef) w') :
    wpList P ops Q (o :: rest) a w := by
  refine wpList_plain hg fun K' hK' => ?_
  obtain ⟨w', hrun, r1, r2⟩ := hown.update K ht hn hkey hval
  unfold Oper.wp
  simp [execOp, hop, hm, hx, hv, hrun, Result.andThen]
  exact hK' _ _ (hK w' r1 r2)
theorem list_any (v : Value) (w : World) : Calls Tryz.prog 86 #[v] w fun e w' => e = .returned v ∧ w = w' := by
  go_enter Tryz.func86, Tryz.ntmps86
  go_wp2
  go_ret
  exact ⟨rfl, rfl⟩
def vsQ (g1 g3 g2 g4 g5 : Nat) : List Value := [.slice none 0 0, .slice (some ⟨g1, 0, none⟩) 1 1, .slice (some ⟨g1, 0, none⟩) 1 1, .slice (some ⟨g2, 0, none⟩) 1 1, .slice (some ⟨g3, 0, none⟩) 1 1, .slice (some ⟨g3, 0, none⟩) 1 1, .slice (some ⟨g3, 0, none⟩) 1 1, .slice (some ⟨g3, 0, none⟩) 1 1, .slice (some ⟨g3, 0, none⟩) 1 1, .slice (some ⟨g3, 0, none⟩) 1 1, .slice (some ⟨g4, 0, none⟩) 2 2, .slice (some ⟨g3, 0, none⟩) 1 1, .slice none 0 0, .slice (some ⟨g5, 0, none⟩) 1 1]
/-- The map as it stands: each Kind's row. -/
def Named (W : World) (b : Nat) : Prop := ∃ g1 g3 g2 g4 g5, W.ownsMap Tryz.prog 22 slElem b 14 (mapQ (vsQ g1 g3 g2 g4 g5)) ∧ RowQ W g1 [1] ∧ RowQ W g3 [3] ∧ RowQ W g2 [2] ∧ RowQ W g4 [3, 4] ∧ RowQ W g5 [5]
theorem Named.adds {W W' : World} {b : Nat} (h : Named W b) (ha : Adds W W') : Named W' b := by
  obtain ⟨g1, g3, g2, g4, g5, h0, h1, h2, h3, h4, h5⟩ := h
  exact ⟨g1, g3, g2, g4, g5, ownsMap_adds h0 ha, h1.adds ha, h2.adds ha, h3.adds ha, h4.adds ha, h5.adds ha⟩
def NamedPost (w : World) (e : Ending) (w' : World) : Prop := ∃ b, e = .returned (.map (some b)) ∧ w.heap.size ≤ b ∧ Named w' b ∧ Adds w w'
theorem mkE_address (w : World) : Calls Tryz.prog 87 #[] w fun e w' => e = .returned (.agg #[.int .i64 4, .func (.func 109) #[] #[], .func (.func 110) #[] #[], .func (.func 111) #[] #[], .func (.func 69) #[] #[]]) ∧ Gr w w' := mk_address w
theorem mkE_child (w : World) : Calls Tryz.prog 89 #[] w fun e w' => e = .returned (.agg #[.int .i64 2, .func (.func 115) #[] #[], .func (.func 116) #[] #[], .func (.func 117) #[] #[], .func (.func 69) #[] #[]]) ∧ Gr w w' := mk_child w
theorem mkE_object (w : World) : Calls Tryz.prog 88 #[] w fun e w' => e = .returned (.agg #[.int .i64 1, .func (.func 112) #[] #[], .func (.func 113) #[] #[], .func (.func 114) #[] #[], .func (.func 69) #[] #[]]) ∧ Gr w w' := mk_object w
theorem mkE_counted (w : World) : Calls Tryz.prog 90 #[] w fun e w' => e = .returned (.agg #[.int .i64 4, .func (.func 118) #[] #[], .func (.func 119) #[] #[], .func (.func 120) #[] #[], .func (.func 69) #[] #[]]) ∧ Gr w w' := mk_counted w
theorem mkE_trap (w : World) : Calls Tryz.prog 91 #[] w fun e w' => e = .returned (.agg #[.int .i64 1, .func (.func 121) #[] #[], .func (.func 122) #[] #[], .func (.func 123) #[] #[], .func (.func 124) #[] #[]]) ∧ Gr w w' := mk_trap w
theorem NmSt.start (w : World) (g : Nat) (w2 : World) (r : RowQ w2 g [1]) (a : Adds w w2) : NmSt w (w2.heap.size + 1) [(w2.heap.size, [3]), (g, [1])] [] ((w2.alloc (.cells (ptE 3).toArray 70)).alloc (.map #[] 0)) :=
  ⟨by have h := World.ownsMap_made (P := Tryz.prog) (k := 22) (R := slElem) (w2.alloc (.cells (ptE 3).toArray 70)); rw [show (w2.alloc (.cells (ptE 3).toArray 70)).heap.size = w2.heap.size + 1 by simp] at h; exact h, fun x hx => by
    simp only [List.mem_cons, List.not_mem_nil, or_false] at hx
    rcases hx with rfl | rfl
    · exact ⟨(RowQ.one w2 3).adds (adds_box16 _ _), by simp⟩
    · exact ⟨r.adds (Adds.trans (adds_box16 _ _) (adds_box16 _ _)), by have := r.1; simp only; omega⟩, Adds.trans a (Adds.trans (adds_box16 _ _) (adds_box16 _ _)), by have := a.size; omega, by simp⟩
theorem NmSt.fresh1 {w W : World} {b : Nat} {rows : List (Nat × List Nat)} {vs : List Value} (h : NmSt w b rows vs W) (p : Nat) : NmSt w b ((W.heap.size, [p]) :: rows) vs (W.alloc (.cells (ptE p).toArray 70)) :=
  (h.more (adds_box16 _ _)).push (RowQ.one W p) h.lt
theorem NmSt.fresh2 {w W : World} {b : Nat} {rows : List (Nat × List Nat)} {vs : List Value} (h : NmSt w b rows vs W) (p r : Nat) : NmSt w b ((W.heap.size, [p, r]) :: rows) vs (W.alloc (.cells (ptE p ++ ptE r).toArray 70)) :=
  (h.more (adds_box16 _ _)).push (RowQ.two W p r) h.lt
set_option maxRecDepth 100000 in
set_option maxHeartbeats 4000000 in
theorem named_any (w : World) : Calls Tryz.prog 61 #[] w (NamedPost w) := by
  have hmm := @run_makeMap Tryz.prog
  go_enter Tryz.func61, Tryz.ntmps61
  go_wp2_with (first
    | (go_at_call 86; refine (list_any _ _).mono ?_; rintro e w' ⟨rfl, rfl⟩)
    | (go_at_call 87; refine (mkE_address _).mono ?_; rintro e w1 ⟨rfl, q⟩; have A1 := Lib.hid q.adds; clear q)
    | (go_at_call 88; have R1 := Lib.hid (RowQ.one w1 1); have A1b := Lib.hid (Adds.trans A1.out (Gr.new w1 (.cells (ptE 1).toArray 70)).adds); clear A1; refine (mkE_object _).mono ?_; rintro e w2 ⟨rfl, q⟩; have R2 := Lib.hid (R1.out.adds q.adds); have A2 := Lib.hid (Adds.trans A1b.out q.adds); clear q R1 A1b)
    | (have S0 := Lib.hid (NmSt.start w w1.heap.size w2 R2.out A2.out); clear R2 A2; refine wpList_insertQ _ rfl _ _ _ 99 rfl 22 61 kkind Tryz.underlying99 slElem (w2.heap.size + 1) 0 (mapQ []) rfl S0.out.map (by decide) _ (.slice none 0 0) (.int .i64 1) rfl rfl (Maps.keyOf_int_mk Tryz.underlying22 (by decide)) (dSl (.slice none 0 0)) [] rfl ?_; intro v1 o t; have S1 := Lib.hid (NmSt.put (v := .slice none 0 0) S0.out o t); clear o t S0)
    | (refine wpList_insertQ _ rfl _ _ _ 99 rfl 22 61 kkind Tryz.underlying99 slElem (w2.heap.size + 1) 1 (mapQ [.slice none 0 0]) rfl S1.out.map (by decide) _ (.slice (some ⟨w1.heap.size, 0, none⟩) 1 1) (.int .i64 2) rfl rfl (Maps.keyOf_int_mk Tryz.underlying22 (by decide)) (dSl (.slice (some ⟨w1.heap.size, 0, none⟩) 1 1)) [] rfl ?_; intro v2 o t; have S2 := Lib.hid (NmSt.put (v := .slice (some ⟨w1.heap.size, 0, none⟩) 1 1) S1.out o t); clear o t S1)
    | (refine wpList_insertQ _ rfl _ _ _ 99 rfl 22 61 kkind Tryz.underlying99 slElem (w2.heap.size + 1) 2 (mapQ [.slice none 0 0, .slice (some ⟨w1.heap.size, 0, none⟩) 1 1]) rfl S2.out.map (by decide) _ (.slice (some ⟨w1.heap.size, 0, none⟩) 1 1) (.int .i64 3) rfl rfl (Maps.keyOf_int_mk Tryz.underlying22 (by decide)) (dSl (.slice (some ⟨w1.heap.size, 0, none⟩) 1 1)) [] rfl ?_; intro v3 o t; have S3 := Lib.hid (NmSt.put (v := .slice (some ⟨w1.heap.size, 0, none⟩) 1 1) S2.out o t); clear o t S2)
    | (go_at_call 89; refine (mkE_child _).mono ?_; rintro e w14 ⟨rfl, q⟩; have T3 := Lib.hid (S3.out.more q.adds); clear q S3)
    | (have U3 := Lib.hid (T3.out.fresh1 2); clear T3; refine wpList_insertQ _ rfl _ _ _ 99 rfl 22 61 kkind Tryz.underlying99 slElem (w2.heap.size + 1) 3 (mapQ [.slice none 0 0, .slice (some ⟨w1.heap.size, 0, none⟩) 1 1, .slice (some ⟨w1.heap.size, 0, none⟩) 1 1]) rfl U3.out.map (by decide) _ (.slice (some ⟨w14.heap.size, 0, none⟩) 1 1) (.int .i64 4) rfl rfl (Maps.keyOf_int_mk Tryz.underlying22 (by decide)) (dSl (.slice (some ⟨w14.heap.size, 0, none⟩) 1 1)) [] rfl ?_; intro v4 o t; have S4 := Lib.hid (NmSt.put (v := .slice (some ⟨w14.heap.size, 0, none⟩) 1 1) U3.out o t); clear o t U3)
    | (refine wpList_insertQ _ rfl _ _ _ 99 rfl 22 61 kkind Tryz.underlying99 slElem (w2.heap.size + 1) 4 (mapQ [.slice none 0 0, .slice (some ⟨w1.heap.size, 0, none⟩) 1 1, .slice (some ⟨w1.heap.size, 0, none⟩) 1 1, .slice (some ⟨w14.heap.size, 0, none⟩) 1 1]) rfl S4.out.map (by decide) _ (.slice (some ⟨w2.heap.size, 0, none⟩) 1 1) (.int .i64 5) rfl rfl (Maps.keyOf_int_mk Tryz.underlying22 (by decide)) (dSl (.slice (some ⟨w2.heap.size, 0, none⟩) 1 1)) [] rfl ?_; intro v5 o t; have S5 := Lib.hid (NmSt.put (v := .slice (some ⟨w2.heap.size, 0, none⟩) 1 1) S4.out o t); clear o t S4)
    | (refine wpList_insertQ _ rfl _ _ _ 99 rfl 22 61 kkind Tryz.underlying99 slElem (w2.heap.size + 1) 5 (mapQ [.slice none 0 0, .slice (some ⟨w1.heap.size, 0, none⟩) 1 1, .slice (some ⟨w1.heap.size, 0, none⟩) 1 1, .slice (some ⟨w14.heap.size, 0, none⟩) 1 1, .slice (some ⟨w2.heap.size, 0, none⟩) 1 1]) rfl S5.out.map (by decide) _ (.slice (some ⟨w2.heap.size, 0, none⟩) 1 1) (.int .i64 6) rfl rfl (Maps.keyOf_int_mk Tryz.underlying22 (by decide)) (dSl (.slice (some ⟨w2.heap.size, 0, none⟩) 1 1)) [] rfl ?_; intro v6 o t; have S6 := Lib.hid (NmSt.put (v := .slice (some ⟨w2.heap.size, 0, none⟩) 1 1) S5.out o t); clear o t S5)
    | (refine wpList_insertQ _ rfl _ _ _ 99 rfl 22 61 kkind Tryz.underlying99 slElem (w2.heap.size + 1) 6 (mapQ [.slice none 0 0, .slice (some ⟨w1.heap.size, 0, none⟩) 1 1, .slice (some ⟨w1.heap.size, 0, none⟩) 1 1, .slice (some ⟨w14.heap.size, 0, none⟩) 1 1, .slice (some ⟨w2.heap.size, 0, none⟩) 1 1, .slice (some ⟨w2.heap.size, 0, none⟩) 1 1]) rfl S6.out.map (by decide) _ (.slice (some ⟨w2.heap.size, 0, none⟩) 1 1) (.int .i64 7) rfl rfl (Maps.keyOf_int_mk Tryz.underlying22 (by decide)) (dSl (.slice (some ⟨w2.heap.size, 0, none⟩) 1 1)) [] rfl ?_; intro v7 o t; have S7 := Lib.hid (NmSt.put (v := .slice (some ⟨w2.heap.size, 0, none⟩) 1 1) S6.out o t); clear o t S6)
    | (refine wpList_insertQ _ rfl _ _ _ 99 rfl 22 61 kkind Tryz.underlying99 slElem (w2.heap.size + 1) 7 (mapQ [.slice none 0 0, .slice (some ⟨w1.heap.size, 0, none⟩) 1 1, .slice (some ⟨w1.heap.size, 0, none⟩) 1 1, .slice (some ⟨w14.heap.size, 0, none⟩) 1 1, .slice (some ⟨w2.heap.size, 0, none⟩) 1 1, .slice (some ⟨w2.heap.size, 0, none⟩) 1 1, .slice (some ⟨w2.heap.size, 0, none⟩) 1 1]) rfl S7.out.map (by decide) _ (.slice (some ⟨w2.heap.size, 0, none⟩) 1 1) (.int .i64 8) rfl rfl (Maps.keyOf_int_mk Tryz.underlying22 (by decide)) (dSl (.slice (some ⟨w2.heap.size, 0, none⟩) 1 1)) [] rfl ?_; intro v8 o t; have S8 := Lib.hid (NmSt.put (v := .slice (some ⟨w2.heap.size, 0, none⟩) 1 1) S7.out o t); clear o t S7)
    | (refine wpList_insertQ _ rfl _ _ _ 99 rfl 22 61 kkind Tryz.underlying99 slElem (w2.heap.size + 1) 8 (mapQ [.slice none 0 0, .slice (some ⟨w1.heap.size, 0, none⟩) 1 1, .slice (some ⟨w1.heap.size, 0, none⟩) 1 1, .slice (some ⟨w14.heap.size, 0, none⟩) 1 1, .slice (some ⟨w2.heap.size, 0, none⟩) 1 1, .slice (some ⟨w2.heap.size, 0, none⟩) 1 1, .slice (some ⟨w2.heap.size, 0, none⟩) 1 1, .slice (some ⟨w2.heap.size, 0, none⟩) 1 1]) rfl S8.out.map (by decide) _ (.slice (some ⟨w2.heap.size, 0, none⟩) 1 1) (.int .i64 9) rfl rfl (Maps.keyOf_int_mk Tryz.underlying22 (by decide)) (dSl (.slice (some ⟨w2.heap.size, 0, none⟩) 1 1)) [] rfl ?_; intro v9 o t; have S9 := Lib.hid (NmSt.put (v := .slice (some ⟨w2.heap.size, 0, none⟩) 1 1) S8.out o t); clear o t S8)
    | (refine wpList_insertQ _ rfl _ _ _ 99 rfl 22 61 kkind Tryz.underlying99 slElem (w2.heap.size + 1) 9 (mapQ [.slice none 0 0, .slice (some ⟨w1.heap.size, 0, none⟩) 1 1, .slice (some ⟨w1.heap.size, 0, none⟩) 1 1, .slice (some ⟨w14.heap.size, 0, none⟩) 1 1, .slice (some ⟨w2.heap.size, 0, none⟩) 1 1, .slice (some ⟨w2.heap.size, 0, none⟩) 1 1, .slice (some ⟨w2.heap.size, 0, none⟩) 1 1, .slice (some ⟨w2.heap.size, 0, none⟩) 1 1, .slice (some ⟨w2.heap.size, 0, none⟩) 1 1]) rfl S9.out.map (by decide) _ (.slice (some ⟨w2.heap.size, 0, none⟩) 1 1) (.int .i64 10) rfl rfl (Maps.keyOf_int_mk Tryz.underlying22 (by decide)) (dSl (.slice (some ⟨w2.heap.size, 0, none⟩) 1 1)) [] rfl ?_; intro v10 o t; have S10 := Lib.hid (NmSt.put (v := .slice (some ⟨w2.heap.size, 0, none⟩) 1 1) S9.out o t); clear o t S9)
    | (go_at_call 88; refine (mkE_object _).mono ?_; rintro e w21 ⟨rfl, q⟩; have T10 := Lib.hid (S10.out.more q.adds); clear q S10)
    | (go_at_call 90; refine (mkE_counted _).mono ?_; rintro e w22 ⟨rfl, q⟩; have V10 := Lib.hid (T10.out.more q.adds); clear q T10)
    | (have U10 := Lib.hid (V10.out.fresh2 3 4); clear V10; refine wpList_insertQ _ rfl _ _ _ 99 rfl 22 61 kkind Tryz.underlying99 slElem (w2.heap.size + 1) 10 (mapQ [.slice none 0 0, .slice (some ⟨w1.heap.size, 0, none⟩) 1 1, .slice (some ⟨w1.heap.size, 0, none⟩) 1 1, .slice (some ⟨w14.heap.size, 0, none⟩) 1 1, .slice (some ⟨w2.heap.size, 0, none⟩) 1 1, .slice (some ⟨w2.heap.size, 0, none⟩) 1 1, .slice (some ⟨w2.heap.size, 0, none⟩) 1 1, .slice (some ⟨w2.heap.size, 0, none⟩) 1 1, .slice (some ⟨w2.heap.size, 0, none⟩) 1 1, .slice (some ⟨w2.heap.size, 0, none⟩) 1 1]) rfl U10.out.map (by decide) _ (.slice (some ⟨w22.heap.size, 0, none⟩) 2 2) (.int .i64 11) rfl rfl (Maps.keyOf_int_mk Tryz.underlying22 (by decide)) (dSl (.slice (some ⟨w22.heap.size, 0, none⟩) 2 2)) [] rfl ?_; intro v11 o t; have S11 := Lib.hid (NmSt.put (v := .slice (some ⟨w22.heap.size, 0, none⟩) 2 2) U10.out o t); clear o t U10)
    | (refine wpList_insertQ _ rfl _ _ _ 99 rfl 22 61 kkind Tryz.underlying99 slElem (w2.heap.size + 1) 11 (mapQ [.slice none 0 0, .slice (some ⟨w1.heap.size, 0, none⟩) 1 1, .slice (some ⟨w1.heap.size, 0, none⟩) 1 1, .slice (some ⟨w14.heap.size, 0, none⟩) 1 1, .slice (some ⟨w2.heap.size, 0, none⟩) 1 1, .slice (some ⟨w2.heap.size, 0, none⟩) 1 1, .slice (some ⟨w2.heap.size, 0, none⟩) 1 1, .slice (some ⟨w2.heap.size, 0, none⟩) 1 1, .slice (some ⟨w2.heap.size, 0, none⟩) 1 1, .slice (some ⟨w2.heap.size, 0, none⟩) 1 1, .slice (some ⟨w22.heap.size, 0, none⟩) 2 2]) rfl S11.out.map (by decide) _ (.slice (some ⟨w2.heap.size, 0, none⟩) 1 1) (.int .i64 12) rfl rfl (Maps.keyOf_int_mk Tryz.underlying22 (by decide)) (dSl (.slice (some ⟨w2.heap.size, 0, none⟩) 1 1)) [] rfl ?_; intro v12 o t; have S12 := Lib.hid (NmSt.put (v := .slice (some ⟨w2.heap.size, 0, none⟩) 1 1) S11.out o t); clear o t S11)
    | (refine wpList_insertQ _ rfl _ _ _ 99 rfl 22 61 kkind Tryz.underlying99 slElem (w2.heap.size + 1) 12 (mapQ [.slice none 0 0, .slice (some ⟨w1.heap.size, 0, none⟩) 1 1, .slice (some ⟨w1.heap.size, 0, none⟩) 1 1, .slice (some ⟨w14.heap.size, 0, none⟩) 1 1, .slice (some ⟨w2.heap.size, 0, none⟩) 1 1, .slice (some ⟨w2.heap.size, 0, none⟩) 1 1, .slice (some ⟨w2.heap.size, 0, none⟩) 1 1, .slice (some ⟨w2.heap.size, 0, none⟩) 1 1, .slice (some ⟨w2.heap.size, 0, none⟩) 1 1, .slice (some ⟨w2.heap.size, 0, none⟩) 1 1, .slice (some ⟨w22.heap.size, 0, none⟩) 2 2, .slice (some ⟨w2.heap.size, 0, none⟩) 1 1]) rfl S12.out.map (by decide) _ (.slice none 0 0) (.int .i64 13) rfl rfl (Maps.keyOf_int_mk Tryz.underlying22 (by decide)) (dSl (.slice none 0 0)) [] rfl ?_; intro v13 o t; have S13 := Lib.hid (NmSt.put (v := .slice none 0 0) S12.out o t); clear o t S12)
    | (go_at_call 91; refine (mkE_trap _).mono ?_; rintro e w31 ⟨rfl, q⟩; have T13 := Lib.hid (S13.out.more q.adds); clear q S13)
    | (have U13 := Lib.hid (T13.out.fresh1 5); clear T13; refine wpList_insertQ _ rfl _ _ _ 99 rfl 22 61 kkind Tryz.underlying99 slElem (w2.heap.size + 1) 13 (mapQ [.slice none 0 0, .slice (some ⟨w1.heap.size, 0, none⟩) 1 1, .slice (some ⟨w1.heap.size, 0, none⟩) 1 1, .slice (some ⟨w14.heap.size, 0, none⟩) 1 1, .slice (some ⟨w2.heap.size, 0, none⟩) 1 1, .slice (some ⟨w2.heap.size, 0, none⟩) 1 1, .slice (some ⟨w2.heap.size, 0, none⟩) 1 1, .slice (some ⟨w2.heap.size, 0, none⟩) 1 1, .slice (some ⟨w2.heap.size, 0, none⟩) 1 1, .slice (some ⟨w2.heap.size, 0, none⟩) 1 1, .slice (some ⟨w22.heap.size, 0, none⟩) 2 2, .slice (some ⟨w2.heap.size, 0, none⟩) 1 1, .slice none 0 0]) rfl U13.out.map (by decide) _ (.slice (some ⟨w31.heap.size, 0, none⟩) 1 1) (.int .i64 14) rfl rfl (Maps.keyOf_int_mk Tryz.underlying22 (by decide)) (dSl (.slice (some ⟨w31.heap.size, 0, none⟩) 1 1)) [] rfl ?_; intro v14 o t; have S14 := Lib.hid (NmSt.put (v := .slice (some ⟨w31.heap.size, 0, none⟩) 1 1) U13.out o t); clear o t U13))
  go_ret
  exact ⟨_, rfl, S14.out.low, ⟨w1.heap.size, w2.heap.size, w14.heap.size, w22.heap.size, w31.heap.size, S14.out.map, (S14.out.row (w1.heap.size, [1]) (by simp)).1, (S14.out.row (w2.heap.size, [3]) (by simp)).1, (S14.out.row (w14.heap.size, [2]) (by simp)).1, (S14.out.row (w22.heap.size, [3, 4]) (by simp)).1, (S14.out.row (w31.heap.size, [5]) (by simp)).1⟩, S14.out.adds⟩
end Go.Proofs.YtbinmgpfkjmijaaGreatDoor
