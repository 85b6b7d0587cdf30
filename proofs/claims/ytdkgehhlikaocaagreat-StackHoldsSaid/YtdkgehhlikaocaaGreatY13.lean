/- Merged: Z6, G1, G2. -/
import Derived.Test.YtdkgehhlikaocaaGreatY9
import Derived.Test.YtdkgehhlikaocaaGreatY12
import Derived.Test.YtdkgehhlikaocaaGreatY6
namespace Go.Proofs.YtdkgehhlikaocaaGreat
open Go Go.RowKit

def dkey : Nat → Nat
  | 0 => 1 | 1 => 2 | 2 => 3 | 3 => 4 | 4 => 5 | 5 => 8 | 6 => 9 | 7 => 19 | _ => 0
/-- Which function does a local operation. -/
def deedF : Nat → FuncId
  | 1 => 73 | 2 => 74 | 3 => 75 | 4 => 76 | 5 => 77 | 8 => 78 | 9 => 79 | 19 => 80
  | _ => 0
def localB (o : Int) : Bool := decide (o ∈ ([1, 2, 3, 4, 5, 8, 9, 19] : List Int))
def deedD : Nat → DataW Unit
  | 0 => .map []
  | n + 1 => (deedD n).put (.int .i64 (dkey n : Nat)) (.lit (.int .u64 (deedF (dkey n))))
theorem zeroDeed (w : World) : (zeroValue 103).run Tryz.prog w = .ok .nilFunc w := by kernel_rfl
abbrev DeedM (w : World) (b n : Nat) : Prop := w.ownsMap Tryz.prog 54 funElem b n (deedD n)
def DeedPost (w : World) (e : Ending) (w' : World) : Prop := ∃ b, e = .returned (.map (some b)) ∧ w.heap.size ≤ b ∧ DeedM w' b 8 ∧ Adds w w'
set_option maxRecDepth 100000 in
theorem deeds_any (w : World) : Calls Tryz.prog 54 #[] w (DeedPost w) := by
  have hmm := @run_makeMap Tryz.prog
  have O0 := Lib.hid (show DeedM (w.alloc (.map #[] 0)) w.heap.size 0 from World.ownsMap_made _ _ _ _)
  have G := Lib.hid (show Adds w (w.alloc (.map #[] 0)) from adds_box _ _)
  go_enter Tryz.func54, Tryz.ntmps54
  go_wp2_with (first
    | (refine wpList_insert_own _ rfl _ _ _ 105 rfl 54 103 kop Tryz.underlying105 funElem w.heap.size 0 (deedD 0) rfl O0.out (by decide) _ _ (.int .i64 1) rfl rfl (Maps.keyOf_int_mk Tryz.underlying54 (by decide)) (.lit (.int .u64 (deedF 1))) [] rfl ?_; intro w1 own1 g1; have O1 := Lib.hid (show DeedM w1 w.heap.size 1 from own1); clear own1 O0; have G := Lib.hid (G.out.turn (Nat.le_refl _) g1); clear g1)
    | (refine wpList_insert_own _ rfl _ _ _ 105 rfl 54 103 kop Tryz.underlying105 funElem w.heap.size 1 (deedD 1) rfl O1.out (by decide) _ _ (.int .i64 2) rfl rfl (Maps.keyOf_int_mk Tryz.underlying54 (by decide)) (.lit (.int .u64 (deedF 2))) [] rfl ?_; intro w2 own2 g2; have O2 := Lib.hid (show DeedM w2 w.heap.size 2 from own2); clear own2 O1; have G := Lib.hid (G.out.turn (Nat.le_refl _) g2); clear g2)
    | (refine wpList_insert_own _ rfl _ _ _ 105 rfl 54 103 kop Tryz.underlying105 funElem w.heap.size 2 (deedD 2) rfl O2.out (by decide) _ _ (.int .i64 3) rfl rfl (Maps.keyOf_int_mk Tryz.underlying54 (by decide)) (.lit (.int .u64 (deedF 3))) [] rfl ?_; intro w3 own3 g3; have O3 := Lib.hid (show DeedM w3 w.heap.size 3 from own3); clear own3 O2; have G := Lib.hid (G.out.turn (Nat.le_refl _) g3); clear g3)
    | (refine wpList_insert_own _ rfl _ _ _ 105 rfl 54 103 kop Tryz.underlying105 funElem w.heap.size 3 (deedD 3) rfl O3.out (by decide) _ _ (.int .i64 4) rfl rfl (Maps.keyOf_int_mk Tryz.underlying54 (by decide)) (.lit (.int .u64 (deedF 4))) [] rfl ?_; intro w4 own4 g4; have O4 := Lib.hid (show DeedM w4 w.heap.size 4 from own4); clear own4 O3; have G := Lib.hid (G.out.turn (Nat.le_refl _) g4); clear g4)
    | (refine wpList_insert_own _ rfl _ _ _ 105 rfl 54 103 kop Tryz.underlying105 funElem w.heap.size 4 (deedD 4) rfl O4.out (by decide) _ _ (.int .i64 5) rfl rfl (Maps.keyOf_int_mk Tryz.underlying54 (by decide)) (.lit (.int .u64 (deedF 5))) [] rfl ?_; intro w5 own5 g5; have O5 := Lib.hid (show DeedM w5 w.heap.size 5 from own5); clear own5 O4; have G := Lib.hid (G.out.turn (Nat.le_refl _) g5); clear g5)
    | (refine wpList_insert_own _ rfl _ _ _ 105 rfl 54 103 kop Tryz.underlying105 funElem w.heap.size 5 (deedD 5) rfl O5.out (by decide) _ _ (.int .i64 8) rfl rfl (Maps.keyOf_int_mk Tryz.underlying54 (by decide)) (.lit (.int .u64 (deedF 8))) [] rfl ?_; intro w6 own6 g6; have O6 := Lib.hid (show DeedM w6 w.heap.size 6 from own6); clear own6 O5; have G := Lib.hid (G.out.turn (Nat.le_refl _) g6); clear g6)
    | (refine wpList_insert_own _ rfl _ _ _ 105 rfl 54 103 kop Tryz.underlying105 funElem w.heap.size 6 (deedD 6) rfl O6.out (by decide) _ _ (.int .i64 9) rfl rfl (Maps.keyOf_int_mk Tryz.underlying54 (by decide)) (.lit (.int .u64 (deedF 9))) [] rfl ?_; intro w7 own7 g7; have O7 := Lib.hid (show DeedM w7 w.heap.size 7 from own7); clear own7 O6; have G := Lib.hid (G.out.turn (Nat.le_refl _) g7); clear g7)
    | (refine wpList_insert_own _ rfl _ _ _ 105 rfl 54 103 kop Tryz.underlying105 funElem w.heap.size 7 (deedD 7) rfl O7.out (by decide) _ _ (.int .i64 19) rfl rfl (Maps.keyOf_int_mk Tryz.underlying54 (by decide)) (.lit (.int .u64 (deedF 19))) [] rfl ?_; intro w8 own8 g8; have O8 := Lib.hid (show DeedM w8 w.heap.size 8 from own8); clear own8 O7; have G := Lib.hid (G.out.turn (Nat.le_refl _) g8); clear g8))
  go_ret
  exact ⟨_, rfl, Nat.le_refl _, O8.out, G.out⟩
theorem deedD_list : deedD 8 = .map [(.int .i64 1, .lit (.int .u64 (deedF 1))), (.int .i64 2, .lit (.int .u64 (deedF 2))), (.int .i64 3, .lit (.int .u64 (deedF 3))), (.int .i64 4, .lit (.int .u64 (deedF 4))), (.int .i64 5, .lit (.int .u64 (deedF 5))), (.int .i64 8, .lit (.int .u64 (deedF 8))), (.int .i64 9, .lit (.int .u64 (deedF 9))), (.int .i64 19, .lit (.int .u64 (deedF 19)))] := by kernel_rfl
theorem wf_deed (k : Nat) (h : k ∈ ([1, 2, 3, 4, 5, 8, 9, 19] : List Nat)) : (Lit.int .i64 (k : Int)).wf = true := by
  simp only [List.mem_cons, List.not_mem_nil, or_false] at h
  rcases h with rfl | rfl | rfl | rfl | rfl | rfl | rfl | rfl <;> decide
theorem has_deed (k : Nat) (h : k ∈ ([1, 2, 3, 4, 5, 8, 9, 19] : List Nat)) : Maps.has (deedD 8) (.int .i64 k) = true := by
  simp only [List.mem_cons, List.not_mem_nil, or_false] at h
  rcases h with rfl | rfl | rfl | rfl | rfl | rfl | rfl | rfl <;> (show _ = _; kernel_rfl)
theorem at_deed (k : Nat) (h : k ∈ ([1, 2, 3, 4, 5, 8, 9, 19] : List Nat)) : (deedD 8).atKey (.int .i64 k) .nil = .lit (.int .u64 (deedF k)) := by
  simp only [List.mem_cons, List.not_mem_nil, or_false] at h
  rcases h with rfl | rfl | rfl | rfl | rfl | rfl | rfl | rfl <;> (show _ = _; kernel_rfl)
theorem look_deed (k : Nat) (hk : k ∈ ([1, 2, 3, 4, 5, 8, 9, 19] : List Nat)) (b : Nat) (w : World) (h : DeedM w b 8) :
    (Instr.lookup 105 (.map (some b)) (.int .i64 k) true).run Tryz.prog w = .ok (.tuple #[.func (.func (deedF k)) #[] #[], .bool true]) w := by
  obtain ⟨v, ps, hr, hv⟩ := h.look_ok kop Tryz.underlying105 (zeroDeed w) (zd := .nil) (zp := []) rfl (Maps.keyOf_int_mk Tryz.underlying54 (wf_deed k hk))
  rw [at_deed k hk] at hv
  rw [funElem_inv hv, has_deed k hk] at hr
  exact hr
theorem none_deed (x : Int) (hk : localB x = false) : Maps.has (deedD 8) (.int .i64 x) = false ∧ (deedD 8).atKey (.int .i64 x) .nil = .nil := by
  unfold localB at hk
  simp only [List.mem_cons, List.not_mem_nil, or_false, decide_eq_false_iff_not, not_or] at hk
  obtain ⟨h1, h2, h3, h4, h5, h6, h7, h8⟩ := hk
  have e1 : Maps.has (deedD 8) (.int .i64 x) = false := by
    rw [deedD_list, Maps.has_eq]
    simp [Lit.sameKey, Ne.symm h1, Ne.symm h2, Ne.symm h3, Ne.symm h4, Ne.symm h5, Ne.symm h6, Ne.symm h7, Ne.symm h8]
  exact ⟨e1, Maps.atKey_of_not_has e1 _⟩
theorem look_nodeed (x : Int) (hx : (Lit.int .i64 x).wf = true) (hk : localB x = false) (b : Nat) (w : World) (h : DeedM w b 8) :
    (Instr.lookup 105 (.map (some b)) (.int .i64 x) true).run Tryz.prog w = .ok (.tuple #[.nilFunc, .bool false]) w := by
  obtain ⟨v, ps, hr, hv⟩ := h.look_ok kop Tryz.underlying105 (zeroDeed w) (zd := .nil) (zp := []) rfl (Maps.keyOf_int_mk Tryz.underlying54 (a := x) hx)
  obtain ⟨e1, e2⟩ := none_deed x hk
  rw [e2] at hv
  rw [funElem_nil hv, e1] at hr
  exact hr
end Go.Proofs.YtdkgehhlikaocaaGreat
namespace Go.Proofs.YtdkgehhlikaocaaGreat
open Go Go.RowKit Go.Shelf

def hasB (len : Nat) (at_ : Int) : Bool := decide (0 ≤ at_ ∧ at_ < (len : Int))
set_option maxRecDepth 100000 in
theorem hasF (ao : Option Addr) (len cap : Nat) (x : Int) (w : World) : Calls Tryz.prog 111 #[.slice ao len cap, .int .i64 x] w fun e w' => e = .returned (.bool (hasB len x)) ∧ w = w' := by
  by_cases h0 : 0 ≤ x
  · by_cases h1 : x < (len : Int)
    · have e : hasB len x = true := by unfold hasB; rw [decide_eq_true_eq]; exact ⟨h0, h1⟩
      rw [e]
      go_enter Tryz.func111, Tryz.ntmps111
      go_wp2
      go_ret
      exact ⟨rfl, rfl⟩
    · have e : hasB len x = false := by unfold hasB; rw [decide_eq_false_iff_not]; omega
      rw [e]
      go_enter Tryz.func111, Tryz.ntmps111
      go_wp2
      go_ret
      exact ⟨rfl, rfl⟩
  · have e : hasB len x = false := by unfold hasB; rw [decide_eq_false_iff_not]; omega
    rw [e]
    go_enter Tryz.func111, Tryz.ntmps111
    go_wp2
    go_ret
    exact ⟨rfl, rfl⟩
set_option maxRecDepth 100000 in
theorem hasI (ao : Option Addr) (len cap : Nat) (x : Int) (w : World) : Calls Tryz.prog 110 #[.slice ao len cap, .int .i64 x] w fun e w' => e = .returned (.bool (hasB len x)) ∧ w = w' := by
  by_cases h0 : 0 ≤ x
  · by_cases h1 : x < (len : Int)
    · have e : hasB len x = true := by unfold hasB; rw [decide_eq_true_eq]; exact ⟨h0, h1⟩
      rw [e]
      go_enter Tryz.func110, Tryz.ntmps110
      go_wp2
      go_ret
      exact ⟨rfl, rfl⟩
    · have e : hasB len x = false := by unfold hasB; rw [decide_eq_false_iff_not]; omega
      rw [e]
      go_enter Tryz.func110, Tryz.ntmps110
      go_wp2
      go_ret
      exact ⟨rfl, rfl⟩
  · have e : hasB len x = false := by unfold hasB; rw [decide_eq_false_iff_not]; omega
    rw [e]
    go_enter Tryz.func110, Tryz.ntmps110
    go_wp2
    go_ret
    exact ⟨rfl, rfl⟩

def inB (lo hi x : Int) : Bool := decide (lo ≤ x ∧ x ≤ hi)
/-- The ask of a number whether it is within bounds. -/
def AskW (w : World) (v : Value) (lo hi : Int) : Prop := ∃ b1 b2, v = .func (.func 95) #[] #[.pointer (some ⟨b1, 0, none⟩), .pointer (some ⟨b2, 0, none⟩)] ∧ w.cell? ⟨b1, 0, none⟩ = some (.int .i64 lo) ∧ w.cell? ⟨b2, 0, none⟩ = some (.int .i64 hi)
theorem AskW.adds {w w' : World} {v : Value} {lo hi : Int} (h : AskW w v lo hi) (ha : Adds w w') : AskW w' v lo hi := by
  obtain ⟨b1, b2, e, h1, h2⟩ := h
  exact ⟨b1, b2, e, ha.cellAt h1, ha.cellAt h2⟩
set_option maxRecDepth 100000 in
theorem within_any (lo hi : Int) (w : World) : Calls Tryz.prog 85 #[.int .i64 lo, .int .i64 hi] w fun e w' => ∃ v, e = .returned v ∧ AskW w' v lo hi ∧ Gr w w' := by
  go_enter Tryz.func85, Tryz.ntmps85
  go_wp2
  go_ret
  exact ⟨_, rfl, ⟨_, _, rfl, by simp, by simp⟩, (Gr.new _ _).alloc _⟩
set_option maxRecDepth 100000 in
theorem ask_any (b1 b2 : Nat) (lo hi x : Int) (w : World) (h1 : w.cell? ⟨b1, 0, none⟩ = some (.int .i64 lo)) (h2 : w.cell? ⟨b2, 0, none⟩ = some (.int .i64 hi)) :
    Calls Tryz.prog 95 #[.int .i64 x, .pointer (some ⟨b1, 0, none⟩), .pointer (some ⟨b2, 0, none⟩)] w fun e w' => e = .returned (.bool (inB lo hi x)) ∧ w = w' := by
  by_cases l1 : lo ≤ x
  · by_cases l2 : x ≤ hi
    · have e : inB lo hi x = true := by unfold inB; rw [decide_eq_true_eq]; exact ⟨l1, l2⟩
      rw [e]
      go_enter Tryz.func95, Tryz.ntmps95
      go_wp2
      go_ret
      exact ⟨rfl, rfl⟩
    · have e : inB lo hi x = false := by unfold inB; rw [decide_eq_false_iff_not]; omega
      rw [e]
      go_enter Tryz.func95, Tryz.ntmps95
      go_wp2
      go_ret
      exact ⟨rfl, rfl⟩
  · have e : inB lo hi x = false := by unfold inB; rw [decide_eq_false_iff_not]; omega
    rw [e]
    go_enter Tryz.func95, Tryz.ntmps95
    go_wp2
    go_ret
    exact ⟨rfl, rfl⟩
/-- A slice of a few numbers. -/
def IntsW (w : World) (v : Value) (l : List Int) : Prop := l.length ≤ 1000 ∧ ∃ b cap, v = .slice (some ⟨b, 0, none⟩) l.length cap ∧ ∀ i, i < l.length → w.cell? ⟨b, i, none⟩ = some (.int .i64 (l.getD i 0))
theorem IntsW.adds {w w' : World} {v : Value} {l : List Int} (h : IntsW w v l) (ha : Adds w w') : IntsW w' v l := by
  obtain ⟨h0, b, cap, e, h1⟩ := h
  exact ⟨h0, b, cap, e, fun i hi => ha.cellAt (h1 i hi)⟩
theorem all_take {α : Type} (p : α → Bool) (l : List α) (z : α) (k : Nat) (h : (l.take k).all p = true) (hk : k < l.length) (hp : p (l.getD k z) = true) : (l.take (k + 1)).all p = true := by
  rw [List.take_add_one, List.all_append, h]
  have e : l[k]? = some (l.getD k z) := by simp [List.getD_eq_getElem?_getD, hk]
  rw [e]
  simpa using hp
theorem all_not {α : Type} (p : α → Bool) (l : List α) (z : α) (k : Nat) (hk : k < l.length) (hp : p (l.getD k z) = false) : l.all p = false := by
  rw [List.all_eq_false]
  refine ⟨l.getD k z, ?_, by rw [hp]; simp⟩
  rw [List.getD_eq_getElem?_getD, List.getElem?_eq_getElem hk]
  exact List.getElem_mem hk
set_option maxRecDepth 100000 in
set_option maxHeartbeats 2000000 in
theorem everyI (v u : Value) (lo hi : Int) (l : List Int) (w : World) (ha : AskW w v lo hi) (hl : IntsW w u l) : Calls Tryz.prog 84 #[v, u] w fun e w' => e = .returned (.bool (l.all (inB lo hi))) ∧ w = w' := by
  obtain ⟨b1, b2, rfl, h1, h2⟩ := ha
  obtain ⟨hn, b, cap, rfl, hc⟩ := hl
  have HA := Lib.hid (fun x => ask_any b1 b2 lo hi x w h1 h2)
  have HC := Lib.hid hc
  have HN := Lib.hid hn
  clear h1 h2 hc hn
  go_enter Tryz.func84, Tryz.ntmps84
  go_wp2
  go_loop [9] (fun i => ∃ k : Nat, i = .int .i64 k ∧ k ≤ l.length ∧ Hid ((l.take k).all (inB lo hi) = true)) (fun i => l.length + 1 - (intOf i).toNat)
  case atStart => exact ⟨0, rfl, Nat.zero_le _, Lib.hid (by simp)⟩
  case round =>
    obtain ⟨k, rfl, hk, HT⟩ := hrel
    have hlI : (l.length : Int) ≤ 1000 := by have := HN.out; omega
    by_cases hlt : k < l.length
    · have ck := HC.out k hlt
      obtain ⟨x, hx⟩ : ∃ x, l.getD k 0 = x := ⟨_, rfl⟩
      rw [hx] at ck
      have HLt := Lib.hid (And.intro hlt hx)
      have hltI : (k : Int) < (l.length : Int) := by omega
      obtain ⟨r, hr⟩ : ∃ r, inB lo hi x = r := ⟨_, rfl⟩
      have HX := Lib.hid (HA.out x)
      rw [hr] at HX
      have HR := Lib.hid hr
      clear hr hx hlt
      cases r
      · go_wp2_with (go_at_call 95; refine HX.out.mono ?_; rintro e w1 ⟨rfl, rfl⟩)
        go_ret
        rw [all_not (inB lo hi) l 0 k HLt.out.1 (by rw [HLt.out.2]; exact HR.out)]
        exact ⟨rfl, rfl⟩
      · go_wp2_with (go_at_call 95; refine HX.out.mono ?_; rintro e w1 ⟨rfl, rfl⟩)
        go_round
        case rel => exact ⟨k + 1, by go_num, HLt.out.1, Lib.hid (all_take (inB lo hi) l 0 k HT.out HLt.out.1 (by rw [HLt.out.2]; exact HR.out))⟩
        case measure => simp [intOf]; have := HLt.out.1; omega
    · have e : l.all (inB lo hi) = true := by have := HT.out; rwa [List.take_of_length_le (by omega)] at this
      have HE := Lib.hid e
      have hge : ¬ (k : Int) < (l.length : Int) := by omega
      clear hlt e
      go_wp2
      go_ret
      rw [HE.out]
      exact ⟨rfl, rfl⟩
end Go.Proofs.YtdkgehhlikaocaaGreat
namespace Go.Proofs.YtdkgehhlikaocaaGreat
open Go Go.RowKit Go.Shelf
section
variable {P : Program} {ops : Array Oper} {C : World → Prop} {R : World → World → Prop} {keys : List Tmp} {F : Tmp → Value → World → Prop}
/-- A call with a known value that is handed two slots of which the predicate alone is known. -/
theorem stepL_call2 {o : Oper} {A : Act} {K : Act → Prop} {v : Value} {f : FuncId} {d e : Tmp} (args : Value → Value → Array Value) (hk : isKey keys o = false) (hl : lk ops keys o = [d, e])
    (hrun : ∀ w u x, C w → F d u w → F e x w → Region.wanted o (yielded ops ((A.put (some d) u).put (some e) x).tmps) = true ∧ (execOp ((A.put (some d) u).put (some e) x).eval o).run P w = .ok (.enter f (args u x)) w)
    (hc : ∀ w u x, C w → F d u w → F e x w → Calls P f (args u x) w fun z w' => z = .returned v ∧ R w w') (h : K (A.put o.dst v)) : stepL P ops C R keys F o A K := by
  unfold stepL
  rw [if_neg (by rw [hk]; simp)]
  refine ⟨v, fun w hcw => ?_, h⟩
  rw [hl]
  intro u hu x hx
  obtain ⟨h1, h2⟩ := hrun w u x hcw hu hx
  show if _ then _ else _
  rw [if_pos h1, h2]
  exact (hc w u x hcw hu hx).mono fun e w' ⟨he, hr⟩ => ⟨v, he, rfl, hr⟩
end
theorem IntsW.lit (w : World) (l : List Int) (hl : l.length ≤ 1000) (cs : Array Value) (hc : cs = (l.map (Value.int .i64)).toArray) (t : TypeId) : IntsW (w.alloc (.cells cs t)) (.slice (some ⟨w.heap.size, 0, none⟩) l.length l.length) l := by
  subst hc
  refine ⟨hl, _, _, rfl, fun i hi => ?_⟩
  rw [cell_of_row _ w.heap.size i _ _ _ (heap_new w _)]
  simp [hi]
section
variable {A : Act} {o : Oper}
theorem mkI1_run {x : Operand} {r : Int} (hop : o.op = .buildSlice 139 1 #[(0, x)]) (hx : A.eval x = .int .i64 r) (W : World) :
    (execOp A.eval o).run Tryz.prog W = .ok (.value (.slice (some ⟨W.heap.size, 0, none⟩) 1 1)) (W.alloc (.cells #[.int .i64 r] 3)) := by
  have h : (Instr.buildSlice 139 1 #[(0, .int .i64 r)]).run Tryz.prog W = .ok (.slice (some ⟨W.heap.size, 0, none⟩) 1 1) (W.alloc (.cells #[.int .i64 r] 3)) := by kernel_rfl
  simp [execOp, hop, hx, h, Result.andThen]
theorem mkI3_run {x y z : Operand} {r s t : Int} (hop : o.op = .buildSlice 139 3 #[(0, x), (1, y), (2, z)]) (hx : A.eval x = .int .i64 r) (hy : A.eval y = .int .i64 s) (hz : A.eval z = .int .i64 t) (W : World) :
    (execOp A.eval o).run Tryz.prog W = .ok (.value (.slice (some ⟨W.heap.size, 0, none⟩) 3 3)) (W.alloc (.cells #[.int .i64 r, .int .i64 s, .int .i64 t] 3)) := by
  have h : (Instr.buildSlice 139 3 #[(0, .int .i64 r), (1, .int .i64 s), (2, .int .i64 t)]).run Tryz.prog W = .ok (.slice (some ⟨W.heap.size, 0, none⟩) 3 3) (W.alloc (.cells #[.int .i64 r, .int .i64 s, .int .i64 t] 3)) := by kernel_rfl
  simp [execOp, hop, hx, hy, hz, h, Result.andThen]
end
def numsF (f : Fu) : Bool := inB 1 16 f.1 && inB 1 512 (f.2.length : Nat)
/-- What is known of slots 3, 6, 9, 13. -/
def keyN (r n : Int) (d : Tmp) (u : Value) (w : World) : Prop := if d = 3 then AskW w u 1 16 else if d = 6 then IntsW w u [r] else if d = 9 then AskW w u 1 512 else IntsW w u [n]
theorem keyN_adds (r n : Int) (d : Tmp) (u : Value) (w w' : World) (ha : Adds w w') (h : keyN r n d u w) : keyN r n d u w' := by
  unfold keyN at *
  split
  · rename_i e; rw [if_pos e] at h; exact h.adds ha
  · rename_i e; rw [if_neg e] at h
    split
    · rename_i e2; rw [if_pos e2] at h; exact h.adds ha
    · rename_i e2; rw [if_neg e2] at h
      split
      · rename_i e3; rw [if_pos e3] at h; exact h.adds ha
      · rename_i e3; rw [if_neg e3] at h; exact h.adds ha
set_option maxRecDepth 100000 in
set_option maxHeartbeats 4000000 in
theorem nums1_any (r : Int) (ao : Option Addr) (len cap : Nat) (w : World) : Calls Tryz.prog 87 #[.agg #[.int .i64 r, .slice ao len cap]] w fun e w' => e = .returned (.bool (inB 1 16 r && inB 1 512 (len : Nat))) ∧ Adds w w' := by
  obtain ⟨w1, hw1⟩ : ∃ w1, w.alloc (.cells #[.int .i64 r, .slice ao len cap] 46) = w1 := ⟨_, rfl⟩
  have HA1 := Lib.hid (show Adds w w1 by rw [← hw1]; exact (Gr.new _ _).adds)
  have HB1 := Lib.hid (show BkS 46 w1 w.heap.size [.int .i64 r, .slice ao len cap] by rw [← hw1]; exact BkS.new _ _ _)
  have HD := Lib.hid (show ∀ w', Adds w1.drew w' → w'.cell? ⟨w.heap.size, 0, none⟩ = some (.int .i64 r) ∧ w'.cell? ⟨w.heap.size, 1, none⟩ = some (.slice ao len cap) from fun w' h =>
    ⟨(HB1.out.adds (Adds.trans (Adds.drew _) h)).cell 0, (HB1.out.adds (Adds.trans (Adds.drew _) h)).cell 1⟩)
  have HE := Lib.hid (fun (v u : Value) (lo hi : Int) (x : Int) (W : World) (h1 : AskW W v lo hi) (h2 : IntsW W u [x]) => show Calls Tryz.prog 84 #[v, u] W fun e w' => e = .returned (.bool (inB lo hi x)) ∧ Adds W w' from
    (everyI v u lo hi [x] W h1 h2).mono fun e w' ⟨h3, h4⟩ => ⟨by rw [h3]; simp, h4 ▸ Adds.refl _⟩)
  have HI : Hid (∀ (x : Int) (W : World), IntsW (W.alloc (.cells #[.int .i64 x] 3)) (.slice (some ⟨W.heap.size, 0, none⟩) 1 1) [x] ∧ Adds W (W.alloc (.cells #[.int .i64 x] 3))) := Lib.hid fun x W => ⟨IntsW.lit W [x] (by simp) _ rfl _, (Gr.new _ _).adds⟩
  have HWi : Hid (∀ (lo hi : Int) (W : World), Calls Tryz.prog 85 #[.int .i64 lo, .int .i64 hi] W fun e w' => ∃ v, e = .returned v ∧ AskW w' v lo hi ∧ Adds W w') := Lib.hid fun lo hi W => (within_any lo hi W).mono fun e w' ⟨v, h1, h2, h3⟩ => ⟨v, h1, h2, h3.adds⟩
  obtain ⟨n, hn⟩ : ∃ n : Int, (len : Int) = n := ⟨_, rfl⟩
  rw [hn]
  cases hb : inB 1 16 r
  · have HB := Lib.hid hb
    clear hb
    go_enter Tryz.func87, Tryz.ntmps87
    go_wp2_with fail
    refine wp_region_loose [3, 6] (keyN r n) Adds (by kernel_rfl) (by kernel_rfl) (by simp []) Adds.refl (fun _ _ _ h k => Adds.trans h k) (fun d u _ _ h k => keyN_adds r n d u _ _ h k) ?_
    repeat (refine wpL_step (fun K hK => ?_); first
      | (refine stepL_key (f := 85) (args := #[.int .i64 1, .int .i64 16]) 3 rfl rfl rfl rfl ?_ (fun w' hw' => HWi.out 1 16 w') ?_; (· (intro w'; clear hK; go_simp)); refine hK _ ?_; clear hK K)
      | (refine stepL_skip rfl rfl rfl ?_; go_simp; refine hK _ ?_; clear hK K)
      | (refine stepL_ex (v := .bool false) rfl rfl rfl Adds.refl ?_ ?_; (· (intro w' hw'; clear hK; go_simp)); go_simp; refine hK _ ?_; clear hK K)
      | (refine stepL_ex rfl rfl rfl Adds.refl (fun w' hw' => rfl) ?_; go_simp; refine hK _ ?_; clear hK K)
      | (refine stepL_ex (v := .int .i64 r) rfl rfl rfl Adds.refl ?_ ?_; (· (intro w' hw'; clear hK; have hc := HD.out w' hw'; go_simp)); go_simp; refine hK _ ?_; clear hK K)
      | (refine stepL_mk 6 rfl rfl rfl rfl (fun w' hw' => ⟨_, _, mkI1_run rfl rfl w', (HI.out r w').1, (HI.out r w').2⟩) ?_; refine hK _ ?_; clear hK K)
      | (refine stepL_call2 (v := .bool false) (d := 3) (e := 6) (f := 84) (fun a b => #[a, b]) rfl rfl ?_ (fun w' a b _ h1 h2 => by have := HE.out a b 1 16 r w' h1 h2; rw [HB.out] at this; exact this) ?_; (· (intro w' a b hw' h1 h2; clear hK; refine ⟨rfl, ?_⟩; go_simp)); go_simp; refine hK _ ?_; clear hK K))
    refine wpL_nil ?_
    intro w4 a4
    simp only [forL]
    intro u1 _ u2 _
    have HA4 := Lib.hid (Adds.trans HA1.out (Adds.trans (Adds.drew w1) a4))
    clear a4
    go_wp2_with fail
    go_ret
    exact ⟨rfl, HA4.out⟩
  · have HB := Lib.hid hb
    clear hb
    obtain ⟨r2, hr2⟩ : ∃ r2, inB 1 512 n = r2 := ⟨_, rfl⟩
    have HB2 := Lib.hid hr2
    rw [hr2]
    clear hr2
    go_enter Tryz.func87, Tryz.ntmps87
    go_wp2_with fail
    refine wp_region_loose [3, 6, 9, 13] (keyN r n) Adds (by kernel_rfl) (by kernel_rfl) (by simp []) Adds.refl (fun _ _ _ h k => Adds.trans h k) (fun d u _ _ h k => keyN_adds r n d u _ _ h k) ?_
    repeat (refine wpL_step (fun K hK => ?_); first
      | (refine stepL_key (f := 85) (args := #[.int .i64 1, .int .i64 16]) 3 rfl rfl rfl rfl ?_ (fun w' hw' => HWi.out 1 16 w') ?_; (· (intro w'; clear hK; go_simp)); refine hK _ ?_; clear hK K)
      | (refine stepL_key (f := 85) (args := #[.int .i64 1, .int .i64 512]) 9 rfl rfl rfl rfl ?_ (fun w' hw' => HWi.out 1 512 w') ?_; (· (intro w'; clear hK; go_simp)); refine hK _ ?_; clear hK K)
      | (refine stepL_ex (v := .bool true) rfl rfl rfl Adds.refl ?_ ?_; (· (intro w' hw'; clear hK; go_simp)); go_simp; refine hK _ ?_; clear hK K)
      | (refine stepL_ex (v := .bool r2) rfl rfl rfl Adds.refl ?_ ?_; (· (intro w' hw'; clear hK; go_simp)); go_simp; refine hK _ ?_; clear hK K)
      | (refine stepL_ex rfl rfl rfl Adds.refl (fun w' hw' => rfl) ?_; go_simp; refine hK _ ?_; clear hK K)
      | (refine stepL_ex (v := .int .i64 r) rfl rfl rfl Adds.refl ?_ ?_; (· (intro w' hw'; clear hK; have hc := HD.out w' hw'; go_simp)); go_simp; refine hK _ ?_; clear hK K)
      | (refine stepL_ex (v := .slice ao len cap) rfl rfl rfl Adds.refl ?_ ?_; (· (intro w' hw'; clear hK; have hc := HD.out w' hw'; go_simp)); go_simp; refine hK _ ?_; clear hK K)
      | (refine stepL_ex (v := .int .i64 n) rfl rfl rfl Adds.refl ?_ ?_; (· (intro w' hw'; clear hK; go_simp)); go_simp; refine hK _ ?_; clear hK K)
      | (refine stepL_mk 6 rfl rfl rfl rfl (fun w' hw' => ⟨_, _, mkI1_run rfl rfl w', (HI.out r w').1, (HI.out r w').2⟩) ?_; refine hK _ ?_; clear hK K)
      | (refine stepL_mk 13 rfl rfl rfl rfl (fun w' hw' => ⟨_, _, mkI1_run rfl rfl w', (HI.out n w').1, (HI.out n w').2⟩) ?_; refine hK _ ?_; clear hK K)
      | (refine stepL_call2 (v := .bool true) (d := 3) (e := 6) (f := 84) (fun a b => #[a, b]) rfl rfl ?_ (fun w' a b _ h1 h2 => by have := HE.out a b 1 16 r w' h1 h2; rw [HB.out] at this; exact this) ?_; (· (intro w' a b hw' h1 h2; clear hK; refine ⟨rfl, ?_⟩; go_simp)); go_simp; refine hK _ ?_; clear hK K)
      | (refine stepL_call2 (v := .bool r2) (d := 9) (e := 13) (f := 84) (fun a b => #[a, b]) rfl rfl ?_ (fun w' a b _ h1 h2 => by have := HE.out a b 1 512 n w' h1 h2; rw [HB2.out] at this; exact this) ?_; (· (intro w' a b hw' h1 h2; clear hK; refine ⟨rfl, ?_⟩; go_simp)); go_simp; refine hK _ ?_; clear hK K))
    refine wpL_nil ?_
    intro w4 a4
    simp only [forL]
    intro u1 _ u2 _ u3 _ u4 _
    have HA4 := Lib.hid (Adds.trans HA1.out (Adds.trans (Adds.drew w1) a4))
    clear a4
    go_wp2_with fail
    go_ret
    exact ⟨rfl, HA4.out⟩
end Go.Proofs.YtdkgehhlikaocaaGreat
