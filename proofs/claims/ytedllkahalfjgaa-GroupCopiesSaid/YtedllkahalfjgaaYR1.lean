/- The document's groups: New: its contract; a row of them. -/
import Derived.OwnWalk
import Derived.Test.YtedllkahalfjgaaYF4
namespace Go.Proofs.Ytedllkahalfjgaa
open Go Go.RowKit

/-- The document's groups in memory: a list. -/
def RefG (w : World) (v : Value) (l : List Int) : Prop :=
  ∃ g cap, v = .agg #[.slice (some ⟨g, 0, none⟩) l.length cap] ∧ ∃ cur : Array Value, w.heap[g]? = some (Obj.cells cur 2 (0, 0)) ∧ l.length ≤ cap ∧ cap ≤ maxLen ∧ cur.size = cap ∧ ∀ k, k < l.length → cur[k]? = some (.int .i64 (l.getD k 0))
theorem RefG.keep {w w' : World} {v : Value} {l : List Int} (h : RefG w v l) (hk : ∀ (g : Nat) (cur : Array Value), w.heap[g]? = some (Obj.cells cur 2 (0, 0)) → w'.heap[g]? = w.heap[g]?) : RefG w' v l := by
  obtain ⟨g, cap, e, cur, hg, h1⟩ := h
  exact ⟨g, cap, e, cur, (hk g cur hg).trans hg, h1⟩
theorem RefG.adds {w w' : World} {v : Value} {l : List Int} (h : RefG w v l) (ha : Adds w w') : RefG w' v l := h.keep fun _ _ hg => ha.block _ (Array.getElem?_eq_some_iff.1 hg).1
/-- The program's counts turn. -/
theorem RefG.turn {w w' : World} {v : Value} {l l2 : List Int} {b : Nat} (h : RefG w v l) (hb : BkS 115 w b (cntC l2)) (ht : TnS b w w') : RefG w' v l := h.keep fun g cur hg => by
  refine ht.block _ (Array.getElem?_eq_some_iff.1 hg).1 (fun e => ?_)
  cases e
  unfold BkS at hb
  rw [hb] at hg
  injection hg with h6
  injection h6 with _ h7
  exact absurd h7 (by decide)
theorem RefG.cells {w : World} {g cap n : Nat} {l : List Int} (h : RefG w (.agg #[.slice (some ⟨g, 0, none⟩) n cap]) l) : n = l.length ∧ ∀ k, k < l.length → w.cell? ⟨g, k, none⟩ = some (.int .i64 (l.getD k 0)) := by
  obtain ⟨g', cap', e, cur, hg, _, _, _, hc⟩ := h
  simp only [Value.agg.injEq, Array.mk.injEq, List.cons.injEq, Value.slice.injEq, Option.some.injEq, Addr.mk.injEq, and_true] at e
  obtain ⟨rfl, rfl, _⟩ := e
  exact ⟨rfl, fun k hk => by rw [cell_of_row w g k _ _ _ hg]; exact hc k hk⟩
theorem RefG.val {w : World} {v : Value} {l : List Int} (h : RefG w v l) : ∃ g cap, v = .agg #[.slice (some ⟨g, 0, none⟩) l.length cap] := let ⟨g, cap, e, _⟩ := h; ⟨g, cap, e⟩
theorem run_mkQ (n : Nat) (hn : n ≤ 64) (w : World) :
    (Instr.makeSlice 51 (.int .i64 (n : Int)) (.int .i64 (n : Int))).run Try.prog w = .ok (.slice (some ⟨w.heap.size, 0, none⟩) n n) (w.alloc (.cells (List.replicate n (.int .i64 0)).toArray 2)) := by
  obtain ⟨i0, hi, hz, hs, hb⟩ := info_parts (show (Try.prog.info? 2).map (fun i => (i.zero, i.size, i.bytes)) = some (some (.int .i64 0), 1, 8) by kernel_rfl)
  have h := run_make (P := Try.prog) w 51 2 i0 (.int .i64 0) Try.underlying51 hi hz .i64 .i64 n n (by omega) (by omega) (by rw [hb]; omega) (by omega)
  rw [hs] at h
  have e : madeCells #[.int .i64 0] n = (List.replicate n (.int .i64 0)).toArray := by
    unfold madeCells
    apply Array.ext
    · simp
    · intro i h1 h2
      simp [Nat.mod_one]
  rw [← e]
  simpa [Value.cells] using h
theorem infoRG : (Try.prog.info? 53).map (·.size) = some 1 := by kernel_rfl
/-- What New of the document leaves. -/
def NewR (many : Int) (e : Ending) (w' : World) : Prop := if 0 ≤ many ∧ many ≤ 64 then ∃ v, e = .returned (.tuple #[v, .int .i64 0]) ∧ RefG w' v (List.replicate many.toNat 0) else e = .returned (.tuple #[.agg #[.slice none 0 0], .int .i64 2])
theorem refNew_any (many : Int) (w : World) : Calls Try.prog 21 #[.int .i64 many] w fun e w' => NewR many e w' ∧ Adds w w' := by
  obtain ⟨w0, hw0⟩ : ∃ w0, w.alloc (.cells #[.slice none 0 0] 53) = w0 := ⟨_, rfl⟩
  have HA := Lib.hid (show Adds w w0 by rw [← hw0]; exact (Gr.new _ _).adds)
  have hb : BkS 53 w0 w.heap.size [.slice none 0 0] := by rw [← hw0]; exact BkS.new _ _ _
  have HB := Lib.hid hb
  unfold NewR
  by_cases h : 0 ≤ many ∧ many ≤ 64
  · simp only [if_pos h]
    obtain ⟨n, rfl⟩ : ∃ n : Nat, many = n := ⟨many.toNat, by omega⟩
    have h64 : n ≤ 64 := by omega
    have hmk := run_mkQ n h64 w0
    obtain ⟨w1, hw1⟩ : ∃ w1, w0.alloc (.cells (List.replicate n (.int .i64 0)).toArray 2) = w1 := ⟨_, rfl⟩
    have hh := heap_new w0 (.cells (List.replicate n (.int .i64 0)).toArray 2)
    rw [hw1] at hmk hh
    have HA1 := Lib.hid (show Adds w0 w1 by rw [← hw1]; exact (Gr.new _ _).adds)
    have HB1 := Lib.hid (hb.adds HA1.out)
    have c0 : w1.cell? ⟨w.heap.size, 0, none⟩ = some (.slice none 0 0) := HB1.out.cell 0
    have f0 := HB1.out.free 0
    have HH := Lib.hid hh
    have HN := Lib.hid h64
    have HNe := Lib.hid (show w0.heap.size ≠ w.heap.size by rw [← hw0]; simp)
    have h1 : ¬ (n : Int) < 0 := by omega
    have h2 : ¬ 64 < (n : Int) := by omega
    clear hh hb h h64
    go_enter Try.func21, Try.ntmps21
    go_wp2
    refine bodyPost_ret (res_box2 rfl _ _ _ _ _ _ _ rfl (HB1.out.set 0 (.slice (some ⟨w0.heap.size, 0, none⟩) n n)) Try.underlying53 rfl (by kernel_rfl)) rfl ?_
    refine ⟨⟨_, rfl, w0.heap.size, n, by simp, _, (Below.heap_setCell w1 _ _ _ (fun e => HNe.out e)).trans HH.out, by simp, by have := HN.out; unfold maxLen; omega, by simp, fun k hk => ?_⟩, Adds.set (Adds.trans HA.out HA1.out) (Nat.le_refl _) 0 _⟩
    simp only [List.length_replicate] at hk
    simp [hk, List.getD_eq_getElem?_getD]
  · simp only [if_neg h]
    have c0 : w0.cell? ⟨w.heap.size, 0, none⟩ = some (.slice none 0 0) := hb.cell 0
    have f0 := hb.free 0
    clear hb
    by_cases h1 : many < 0
    · clear h
      go_enter Try.func21, Try.ntmps21
      go_wp2
      refine bodyPost_ret (res_box2 rfl _ _ _ _ _ _ _ rfl (HB.out.set 0 (.slice none 0 0)) Try.underlying53 rfl (by kernel_rfl)) rfl ?_
      exact ⟨rfl, Adds.set HA.out (Nat.le_refl _) 0 _⟩
    · have h2 : 64 < many := by omega
      clear h
      go_enter Try.func21, Try.ntmps21
      go_wp2
      refine bodyPost_ret (res_box2 rfl _ _ _ _ _ _ _ rfl (HB.out.set 0 (.slice none 0 0)) Try.underlying53 rfl (by kernel_rfl)) rfl ?_
      exact ⟨rfl, Adds.set HA.out (Nat.le_refl _) 0 _⟩
theorem infoQ64 : (Try.prog.info? 2).map (fun i => (i.zero, i.size, i.bytes)) = some (some (.int .i64 0), 1, 8) := by kernel_rfl
theorem iQs (l : List Int) (k : Nat) (u : Value) (h : (l.map intQ)[k]? = some u) : k < l.length ∧ u = .int .i64 (l.getD k 0) := by
  have hk : k < l.length := by
    rcases Nat.lt_or_ge k l.length with h1 | h1
    · exact h1
    · rw [List.getElem?_eq_none (by simpa using h1)] at h; cases h
  rw [List.getElem?_map, List.getElem?_eq_getElem hk] at h
  simp only [Option.map_some, Option.some.injEq] at h
  exact ⟨hk, by rw [← h, List.getD_eq_getElem?_getD, List.getElem?_eq_getElem hk]; rfl⟩
theorem wpList_appQ {ops : Array Oper} {rest : List Oper} {o : Oper} {a : Act} {w : World} {Q : Exit → Act → World → Prop} (hg : o.guard = none) (s x : Operand)
    (ho : o.op = .call { callee := .builtin .append, args := #[s, x], argTypes := #[51, 51] }) (n2 : Nat) (hs : a.eval s = .slice (some ⟨n2, 0, none⟩) 0 0) (hown : w.ownsRow n2 2 1 (.slice (some ⟨n2, 0, none⟩) 0 0) 0 [])
    (g cap : Nat) (l : List Int) (hx : a.eval x = .slice (some ⟨g, 0, none⟩) l.length cap) (hc : ∀ k, k < l.length → w.cell? ⟨g, k, none⟩ = some (.int .i64 (l.getD k 0))) (hl : l.length ≤ 64) (h0 : l ≠ []) (hb : n2 ≤ w.heap.size)
    (K : ∀ g3 cap3 w3, n2 ≤ g3 → RefG w3 (.agg #[.slice (some ⟨g3, 0, none⟩) l.length cap3]) l → w.grownBy w3 (some n2) → wpList Try.prog ops Q rest (a.put o.dst (.slice (some ⟨g3, 0, none⟩) l.length cap3)) w3) : wpList Try.prog ops Q (o :: rest) a w := by
  obtain ⟨i0, hi, hz0, hz1, hz2⟩ := info_parts infoQ64
  have hpos : 0 < l.length := List.length_pos_iff.2 h0
  refine wpList_append_own _ hg s x 51 ho n2 2 i0 (.int .i64 0) 1 8 Try.underlying51 hi hz0 hz1 hz2 rfl (by decide) _ 0 [] hs hown ⟨g, 0, none⟩ l.length cap (l.map intQ) hx (by simp) (fun j u hu => ?_) ?_ (by unfold maxLen; omega) (by omega) hb ?_
  · obtain ⟨h1, rfl⟩ := iQs l j u hu
    have e : (⟨g, 0, none⟩ : Addr).add j = ⟨g, j, none⟩ := by unfold Addr.add; split <;> simp_all
    rw [e]
    exact hc j h1
  · intro u hu
    obtain ⟨y, _, rfl⟩ := List.mem_map.1 hu
    simp [intQ, Value.oneCell']
  · intro v' w3 ho3 hg3 _
    rcases ho3.2 with ⟨_, h1⟩ | ⟨g3, cap3, cur3, h1, h2, h3, h4, h5, h6, h7⟩
    · exact absurd h1 (by omega)
    · simp only [Nat.zero_add, List.nil_append, Nat.mul_one] at h1 h4 h7 h6
      subst h1
      refine K g3 cap3 w3 h2 ⟨g3, cap3, rfl, cur3, h3, h4, h5, h6, fun k hk => ?_⟩ hg3
      have h8 := congrArg (fun l => l[k]?) h7
      simp only [List.getElem?_take_of_lt hk, List.getElem?_map, List.getElem?_eq_getElem hk, Option.map_some] at h8
      rw [← Array.getElem?_toList, h8]
      simp [intQ, List.getD_eq_getElem?_getD, hk]
/-- One of a row that the call has made is another one. -/
theorem RefG.set {w : World} {g n cap : Nat} {l : List Int} (h : RefG w (.agg #[.slice (some ⟨g, 0, none⟩) n cap]) l) {k : Nat} (hk : k < l.length) (x : Int) : RefG (w.setCell ⟨g, k, none⟩ (.int .i64 x)) (.agg #[.slice (some ⟨g, 0, none⟩) n cap]) (l.set k x) := by
  obtain ⟨g', cap', e, cur, hg, h1, h2, h3, hc⟩ := h
  simp only [Value.agg.injEq, Array.mk.injEq, List.cons.injEq, Value.slice.injEq, Option.some.injEq, Addr.mk.injEq, and_true] at e
  obtain ⟨rfl, rfl, rfl⟩ := e
  refine ⟨g, cap, by simp, cur.setIfInBounds k (.int .i64 x), ?_, by simpa using h1, h2, by simpa using h3, fun j hj => ?_⟩
  · simp only [World.setCell, Array.getElem?_modify, hg]
    simp
  · simp only [List.length_set] at hj
    by_cases e : k = j
    · subst e
      simp [show k < cur.size by omega, List.getD_eq_getElem?_getD, hj]
    · rw [Array.getElem?_setIfInBounds_ne e, hc j hj, List.getD_eq_getElem?_getD, List.getD_eq_getElem?_getD, List.getElem?_set_ne e]
theorem RefG.free {w : World} {g n cap : Nat} {l : List Int} (h : RefG w (.agg #[.slice (some ⟨g, 0, none⟩) n cap]) l) (k : Nat) : w.frozen? ⟨g, k, none⟩ = false := by
  obtain ⟨g', cap', e, cur, hg, _⟩ := h
  simp only [Value.agg.injEq, Array.mk.injEq, List.cons.injEq, Value.slice.injEq, Option.some.injEq, Addr.mk.injEq, and_true] at e
  obtain ⟨rfl, _⟩ := e
  simp [World.frozen?, hg]
theorem atQ_cell {w : World} {g n cap : Nat} {l : List Int} (h : RefG w (.agg #[.slice (some ⟨g, 0, none⟩) n cap]) l) {i : Int} (h0 : 0 ≤ i) (h1 : i < l.length) : ∃ k : Nat, i = k ∧ k < l.length ∧ w.cell? ⟨g, k, none⟩ = some (.int .i64 (atQ l i)) := by
  refine ⟨i.toNat, by omega, by omega, ?_⟩
  rw [h.cells.2 _ (by omega), ← atQ_nat, show ((i.toNat : Nat) : Int) = i by omega]
theorem RefG.far {w : World} {v : Value} {l : List Int} {b : Nat} {c : List Value} (h : RefG w v l) (hb : BkS 53 w b c) (i : Nat) (x : Value) : RefG (w.setCell ⟨b, i, none⟩ x) v l := h.keep fun g cur hg => Below.heap_setCell _ _ _ _ (fun e => by
  rw [e] at hg
  unfold BkS at hb
  rw [hb] at hg
  injection hg with h6
  injection h6 with _ h7
  exact absurd h7 (by decide))
theorem res_box3Q {P : Program} {fn : Func} {p q r : Tmp} {ty : TypeId} (h : fn.results = #[.cell p ty, .tmp q, .tmp r]) (tmps : Array Value) (w : World) (g : Nat) (cs : Array Value) (t : TypeId) (fr : Nat × Nat) (d : TypeDesc) (hp : tmps.getD p undef = .pointer (some ⟨g, 0, none⟩))
    (hg : w.heap[g]? = some (.cells cs t fr)) (hu : P.underlying ty = some d) (hd : (match d with | .struct _ | .array _ _ => true | _ => false) = true) (hi : (P.info? ty).map (·.size) = some cs.size) : (results fn tmps).run P w = .ok (.tuple #[.agg cs, tmps.getD q undef, tmps.getD r undef]) w := by
  have hp' : tmps[p]?.getD undef = .pointer (some ⟨g, 0, none⟩) := by simpa using hp
  simp [results, h, hp', asAddr, run_loadVar_row (P := P) w g t ty cs fr d hg hu hd hi]
end Go.Proofs.Ytedllkahalfjgaa
