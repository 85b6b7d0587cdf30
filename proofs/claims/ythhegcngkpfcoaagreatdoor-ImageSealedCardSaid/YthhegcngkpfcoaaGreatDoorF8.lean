/- Merged: GMem, G1, G2. -/
import Derived.Test.YthhegcngkpfcoaaGreatDoorF7
namespace Go.Proofs.YthhegcngkpfcoaaGreatDoor
open Go Go.RowKit Go.Shelf

/-- A function: its registers and its code. A program: functions, mutexes, locks, groups. -/
abbrev Fu := Int × List In
abbrev Pg := List Fu × Int × Int × Int
abbrev zI : In := (0, 0, 0, 0, 0)
abbrev zF : Fu := (0, [])
def At5 (w : World) (g o : Nat) (x : In) : Prop :=
  w.cell? ⟨g, o, none⟩ = some (.int .i64 x.1) ∧ w.cell? ⟨g, o + 1, none⟩ = some (.int .i64 x.2.1) ∧ w.cell? ⟨g, o + 2, none⟩ = some (.int .i64 x.2.2.1) ∧ w.cell? ⟨g, o + 3, none⟩ = some (.int .i64 x.2.2.2.1) ∧ w.cell? ⟨g, o + 4, none⟩ = some (.int .u32 x.2.2.2.2)
def CodeW (n : Nat) (w : World) (v : Value) (c : List In) : Prop :=
  ∃ ao cap, v = .slice ao c.length cap ∧ c.length ≤ cap ∧ cap ≤ maxLen ∧ (c ≠ [] → ∃ g off, ao = some ⟨g, off, none⟩ ∧ g < n ∧ ∀ i, i < c.length → At5 w g (off + i * 5) (c.getD i zI))
def FuncAt (n : Nat) (w : World) (g o : Nat) (f : Fu) : Prop :=
  w.cell? ⟨g, o, none⟩ = some (.int .i64 f.1) ∧ ∃ u, w.cell? ⟨g, o + 1, none⟩ = some u ∧ CodeW n w u f.2 ∧ (∀ x ∈ f.2, OkIn x)
def FuncsW (n : Nat) (w : World) (v : Value) (fs : List Fu) : Prop :=
  ∃ ao cap, v = .slice ao fs.length cap ∧ fs.length ≤ cap ∧ cap ≤ maxLen ∧ (fs ≠ [] → ∃ g off, ao = some ⟨g, off, none⟩ ∧ g < n ∧ ∀ i, i < fs.length → FuncAt n w g (off + i * 2) (fs.getD i zF))
abbrev pgV (v : Value) (p : Pg) : Value := .agg #[v, .int .i64 p.2.1, .int .i64 p.2.2.1, .int .i64 p.2.2.2]
abbrev pgC (v : Value) (p : Pg) : List Value := [v, .int .i64 p.2.1, .int .i64 p.2.2.1, .int .i64 p.2.2.2]
theorem At5.below {n g o : Nat} {w w' : World} {x : In} (h : At5 w g o x) (hb : Below n w w') (hg : g < n) : At5 w' g o x := by
  obtain ⟨h0, h1, h2, h3, h4⟩ := h
  exact ⟨(hb.cell (p := ⟨g, o, none⟩) hg).trans h0, (hb.cell (p := ⟨g, o + 1, none⟩) hg).trans h1, (hb.cell (p := ⟨g, o + 2, none⟩) hg).trans h2, (hb.cell (p := ⟨g, o + 3, none⟩) hg).trans h3, (hb.cell (p := ⟨g, o + 4, none⟩) hg).trans h4⟩
theorem CodeW.below {n : Nat} {w w' : World} {v : Value} {c : List In} (h : CodeW n w v c) (hb : Below n w w') : CodeW n w' v c := by
  obtain ⟨ao, cap, rfl, h1, h2, h3⟩ := h
  exact ⟨ao, cap, rfl, h1, h2, fun hl => by obtain ⟨g, off, e, hg, hc⟩ := h3 hl; exact ⟨g, off, e, hg, fun i hi => (hc i hi).below hb hg⟩⟩
theorem FuncAt.below {n g o : Nat} {w w' : World} {f : Fu} (h : FuncAt n w g o f) (hb : Below n w w') (hg : g < n) : FuncAt n w' g o f := by
  obtain ⟨h0, u, h1, h2, h3⟩ := h
  exact ⟨(hb.cell (p := ⟨g, o, none⟩) hg).trans h0, u, (hb.cell (p := ⟨g, o + 1, none⟩) hg).trans h1, h2.below hb, h3⟩
theorem FuncsW.below {n : Nat} {w w' : World} {v : Value} {fs : List Fu} (h : FuncsW n w v fs) (hb : Below n w w') : FuncsW n w' v fs := by
  obtain ⟨ao, cap, rfl, h1, h2, h3⟩ := h
  exact ⟨ao, cap, rfl, h1, h2, fun hl => by obtain ⟨g, off, e, hg, hc⟩ := h3 hl; exact ⟨g, off, e, hg, fun i hi => (hc i hi).below hb hg⟩⟩
/-- What lies in a world lies below its size. -/
theorem CodeW.here {n : Nat} {w : World} {v : Value} {c : List In} (h : CodeW n w v c) : CodeW w.heap.size w v c := by
  obtain ⟨ao, cap, rfl, h1, h2, h3⟩ := h
  refine ⟨ao, cap, rfl, h1, h2, fun hl => ?_⟩
  obtain ⟨g, off, e, hg, hc⟩ := h3 hl
  exact ⟨g, off, e, World.block_lt_of_cell? w _ (hc 0 (List.length_pos_iff.2 hl)).1, hc⟩
theorem FuncsW.here {n : Nat} {w : World} {v : Value} {fs : List Fu} (h : FuncsW n w v fs) : FuncsW w.heap.size w v fs := by
  obtain ⟨ao, cap, rfl, h1, h2, h3⟩ := h
  refine ⟨ao, cap, rfl, h1, h2, fun hl => ?_⟩
  obtain ⟨g, off, e, hg, hc⟩ := h3 hl
  exact ⟨g, off, e, World.block_lt_of_cell? w _ (hc 0 (List.length_pos_iff.2 hl)).1, fun i hi => by obtain ⟨k0, u, k1, k2, k3⟩ := hc i hi; exact ⟨k0, u, k1, k2.here, k3⟩⟩
theorem CodeW.adds {n : Nat} {w w' : World} {v : Value} {c : List In} (h : CodeW n w v c) (ha : Adds w w') : CodeW w.heap.size w' v c := h.here.below ha
theorem FuncsW.adds {n : Nat} {w w' : World} {v : Value} {fs : List Fu} (h : FuncsW n w v fs) (ha : Adds w w') : FuncsW w.heap.size w' v fs := h.here.below ha
/-- A function of a program's, where there is one. -/
theorem FuncsW.at {n : Nat} {w : World} {ao : Option Addr} {cap : Nat} {fs : List Fu} (h : FuncsW n w (.slice ao fs.length cap) fs) {i : Nat} (hi : i < fs.length) : ∃ g off, ao = some ⟨g, off, none⟩ ∧ g < n ∧ FuncAt n w g (off + i * 2) (fs.getD i zF) := by
  obtain ⟨ao', cap', e, _, _, h3⟩ := h
  simp only [Value.slice.injEq, true_and] at e
  obtain ⟨rfl, rfl⟩ := e
  obtain ⟨g, off, e, hg, hc⟩ := h3 (by rintro rfl; simp at hi)
  exact ⟨g, off, e, hg, hc i hi⟩
theorem CodeW.at {n : Nat} {w : World} {ao : Option Addr} {cap : Nat} {c : List In} (h : CodeW n w (.slice ao c.length cap) c) {i : Nat} (hi : i < c.length) : ∃ g off, ao = some ⟨g, off, none⟩ ∧ g < n ∧ At5 w g (off + i * 5) (c.getD i zI) := by
  obtain ⟨ao', cap', e, _, _, h3⟩ := h
  simp only [Value.slice.injEq, true_and] at e
  obtain ⟨rfl, rfl⟩ := e
  obtain ⟨g, off, e, hg, hc⟩ := h3 (by rintro rfl; simp at hi)
  exact ⟨g, off, e, hg, hc i hi⟩
theorem CodeW.form {n : Nat} {w : World} {v : Value} {c : List In} (h : CodeW n w v c) : ∃ ao cap, v = .slice ao c.length cap ∧ c.length ≤ cap ∧ cap ≤ maxLen := by
  obtain ⟨ao, cap, e, h1, h2, _⟩ := h
  exact ⟨ao, cap, e, h1, h2⟩
end Go.Proofs.YthhegcngkpfcoaaGreatDoor
namespace Go.Proofs.YthhegcngkpfcoaaGreatDoor
open Go Go.RowKit Go.Shelf

def hasB (len : Nat) (at_ : Int) : Bool := decide (0 ≤ at_ ∧ at_ < (len : Int))
set_option maxRecDepth 100000 in
theorem hasF (ao : Option Addr) (len cap : Nat) (x : Int) (w : World) : Calls Tryz.prog 105 #[.slice ao len cap, .int .i64 x] w fun e w' => e = .returned (.bool (hasB len x)) ∧ w = w' := by
  by_cases h0 : 0 ≤ x
  · by_cases h1 : x < (len : Int)
    · have e : hasB len x = true := by unfold hasB; rw [decide_eq_true_eq]; exact ⟨h0, h1⟩
      rw [e]
      go_enter Tryz.func105, Tryz.ntmps105
      go_wp2
      go_ret
      exact ⟨rfl, rfl⟩
    · have e : hasB len x = false := by unfold hasB; rw [decide_eq_false_iff_not]; omega
      rw [e]
      go_enter Tryz.func105, Tryz.ntmps105
      go_wp2
      go_ret
      exact ⟨rfl, rfl⟩
  · have e : hasB len x = false := by unfold hasB; rw [decide_eq_false_iff_not]; omega
    rw [e]
    go_enter Tryz.func105, Tryz.ntmps105
    go_wp2
    go_ret
    exact ⟨rfl, rfl⟩
set_option maxRecDepth 100000 in
theorem hasI (ao : Option Addr) (len cap : Nat) (x : Int) (w : World) : Calls Tryz.prog 104 #[.slice ao len cap, .int .i64 x] w fun e w' => e = .returned (.bool (hasB len x)) ∧ w = w' := by
  by_cases h0 : 0 ≤ x
  · by_cases h1 : x < (len : Int)
    · have e : hasB len x = true := by unfold hasB; rw [decide_eq_true_eq]; exact ⟨h0, h1⟩
      rw [e]
      go_enter Tryz.func104, Tryz.ntmps104
      go_wp2
      go_ret
      exact ⟨rfl, rfl⟩
    · have e : hasB len x = false := by unfold hasB; rw [decide_eq_false_iff_not]; omega
      rw [e]
      go_enter Tryz.func104, Tryz.ntmps104
      go_wp2
      go_ret
      exact ⟨rfl, rfl⟩
  · have e : hasB len x = false := by unfold hasB; rw [decide_eq_false_iff_not]; omega
    rw [e]
    go_enter Tryz.func104, Tryz.ntmps104
    go_wp2
    go_ret
    exact ⟨rfl, rfl⟩

def inB (lo hi x : Int) : Bool := decide (lo ≤ x ∧ x ≤ hi)
/-- The ask of a number whether it is within bounds. -/
def AskW (w : World) (v : Value) (lo hi : Int) : Prop := ∃ b1 b2, v = .func (.func 74) #[] #[.pointer (some ⟨b1, 0, none⟩), .pointer (some ⟨b2, 0, none⟩)] ∧ w.cell? ⟨b1, 0, none⟩ = some (.int .i64 lo) ∧ w.cell? ⟨b2, 0, none⟩ = some (.int .i64 hi)
theorem AskW.adds {w w' : World} {v : Value} {lo hi : Int} (h : AskW w v lo hi) (ha : Adds w w') : AskW w' v lo hi := by
  obtain ⟨b1, b2, e, h1, h2⟩ := h
  exact ⟨b1, b2, e, ha.cellAt h1, ha.cellAt h2⟩
set_option maxRecDepth 100000 in
theorem within_any (lo hi : Int) (w : World) : Calls Tryz.prog 55 #[.int .i64 lo, .int .i64 hi] w fun e w' => ∃ v, e = .returned v ∧ AskW w' v lo hi ∧ Gr w w' := by
  go_enter Tryz.func55, Tryz.ntmps55
  go_wp2
  go_ret
  exact ⟨_, rfl, ⟨_, _, rfl, by simp, by simp⟩, (Gr.new _ _).alloc _⟩
set_option maxRecDepth 100000 in
theorem ask_any (b1 b2 : Nat) (lo hi x : Int) (w : World) (h1 : w.cell? ⟨b1, 0, none⟩ = some (.int .i64 lo)) (h2 : w.cell? ⟨b2, 0, none⟩ = some (.int .i64 hi)) :
    Calls Tryz.prog 74 #[.int .i64 x, .pointer (some ⟨b1, 0, none⟩), .pointer (some ⟨b2, 0, none⟩)] w fun e w' => e = .returned (.bool (inB lo hi x)) ∧ w = w' := by
  by_cases l1 : lo ≤ x
  · by_cases l2 : x ≤ hi
    · have e : inB lo hi x = true := by unfold inB; rw [decide_eq_true_eq]; exact ⟨l1, l2⟩
      rw [e]
      go_enter Tryz.func74, Tryz.ntmps74
      go_wp2
      go_ret
      exact ⟨rfl, rfl⟩
    · have e : inB lo hi x = false := by unfold inB; rw [decide_eq_false_iff_not]; omega
      rw [e]
      go_enter Tryz.func74, Tryz.ntmps74
      go_wp2
      go_ret
      exact ⟨rfl, rfl⟩
  · have e : inB lo hi x = false := by unfold inB; rw [decide_eq_false_iff_not]; omega
    rw [e]
    go_enter Tryz.func74, Tryz.ntmps74
    go_wp2
    go_ret
    exact ⟨rfl, rfl⟩
/-- A slice of a few numbers. -/
def IntsW (w : World) (v : Value) (l : List Int) : Prop := l.length ≤ 1000 ∧ ∃ b cap, v = .slice (some ⟨b, 0, none⟩) l.length cap ∧ ∀ i, i < l.length → w.cell? ⟨b, i, none⟩ = some (.int .i64 (l.getD i 0))
theorem IntsW.adds {w w' : World} {v : Value} {l : List Int} (h : IntsW w v l) (ha : Adds w w') : IntsW w' v l := by
  obtain ⟨h0, b, cap, e, h1⟩ := h
  exact ⟨h0, b, cap, e, fun i hi => ha.cellAt (h1 i hi)⟩
theorem all_take {α : Type} (p : α → Bool) (l : List α) (z : α) (k : Nat) (h : (l.take k).all p = true) (hk : k < l.length) (hp : p (l.getD k z) = true) : (l.take (k + 1)).all p = true := by
  rw [List.take_add_one, List.all_append, h]
  have e : l[k]? = some (l.getD k z) := by simp [List.getD_eq_getElem?_getD, hk]
  rw [e]
  simpa using hp
theorem all_not {α : Type} (p : α → Bool) (l : List α) (z : α) (k : Nat) (hk : k < l.length) (hp : p (l.getD k z) = false) : l.all p = false := by
  rw [List.all_eq_false]
  refine ⟨l.getD k z, ?_, by rw [hp]; simp⟩
  rw [List.getD_eq_getElem?_getD, List.getElem?_eq_getElem hk]
  exact List.getElem_mem hk
set_option maxRecDepth 100000 in
set_option maxHeartbeats 2000000 in
theorem everyI (v u : Value) (lo hi : Int) (l : List Int) (w : World) (ha : AskW w v lo hi) (hl : IntsW w u l) : Calls Tryz.prog 54 #[v, u] w fun e w' => e = .returned (.bool (l.all (inB lo hi))) ∧ w = w' := by
  obtain ⟨b1, b2, rfl, h1, h2⟩ := ha
  obtain ⟨hn, b, cap, rfl, hc⟩ := hl
  have HA := Lib.hid (fun x => ask_any b1 b2 lo hi x w h1 h2)
  have HC := Lib.hid hc
  have HN := Lib.hid hn
  clear h1 h2 hc hn
  go_enter Tryz.func54, Tryz.ntmps54
  go_wp2
  go_loop [9] (fun i => ∃ k : Nat, i = .int .i64 k ∧ k ≤ l.length ∧ Hid ((l.take k).all (inB lo hi) = true)) (fun i => l.length + 1 - (intOf i).toNat)
  case atStart => exact ⟨0, rfl, Nat.zero_le _, Lib.hid (by simp)⟩
  case round =>
    obtain ⟨k, rfl, hk, HT⟩ := hrel
    have hlI : (l.length : Int) ≤ 1000 := by have := HN.out; omega
    by_cases hlt : k < l.length
    · have ck := HC.out k hlt
      obtain ⟨x, hx⟩ : ∃ x, l.getD k 0 = x := ⟨_, rfl⟩
      rw [hx] at ck
      have HLt := Lib.hid (And.intro hlt hx)
      have hltI : (k : Int) < (l.length : Int) := by omega
      obtain ⟨r, hr⟩ : ∃ r, inB lo hi x = r := ⟨_, rfl⟩
      have HX := Lib.hid (HA.out x)
      rw [hr] at HX
      have HR := Lib.hid hr
      clear hr hx hlt
      cases r
      · go_wp2_with (go_at_call 74; refine HX.out.mono ?_; rintro e w1 ⟨rfl, rfl⟩)
        go_ret
        rw [all_not (inB lo hi) l 0 k HLt.out.1 (by rw [HLt.out.2]; exact HR.out)]
        exact ⟨rfl, rfl⟩
      · go_wp2_with (go_at_call 74; refine HX.out.mono ?_; rintro e w1 ⟨rfl, rfl⟩)
        go_round
        case rel => exact ⟨k + 1, by go_num, HLt.out.1, Lib.hid (all_take (inB lo hi) l 0 k HT.out HLt.out.1 (by rw [HLt.out.2]; exact HR.out))⟩
        case measure => simp [intOf]; have := HLt.out.1; omega
    · have e : l.all (inB lo hi) = true := by have := HT.out; rwa [List.take_of_length_le (by omega)] at this
      have HE := Lib.hid e
      have hge : ¬ (k : Int) < (l.length : Int) := by omega
      clear hlt e
      go_wp2
      go_ret
      rw [HE.out]
      exact ⟨rfl, rfl⟩
end Go.Proofs.YthhegcngkpfcoaaGreatDoor
namespace Go.Proofs.YthhegcngkpfcoaaGreatDoor
open Go Go.RowKit Go.Shelf
section
variable {P : Program} {ops : Array Oper} {C : World → Prop} {R : World → World → Prop} {keys : List Tmp} {F : Tmp → Value → World → Prop}
/-- A call with a known value that is handed two slots of which the predicate alone is known. -/
theorem stepL_call2 {o : Oper} {A : Act} {K : Act → Prop} {v : Value} {f : FuncId} {d e : Tmp} (args : Value → Value → Array Value) (hk : isKey keys o = false) (hl : lk ops keys o = [d, e])
    (hrun : ∀ w u x, C w → F d u w → F e x w → Region.wanted o (yielded ops ((A.put (some d) u).put (some e) x).tmps) = true ∧ (execOp ((A.put (some d) u).put (some e) x).eval o).run P w = .ok (.enter f (args u x)) w)
    (hc : ∀ w u x, C w → F d u w → F e x w → Calls P f (args u x) w fun z w' => z = .returned v ∧ R w w') (h : K (A.put o.dst v)) : stepL P ops C R keys F o A K := by
  unfold stepL
  rw [if_neg (by rw [hk]; simp)]
  refine ⟨v, fun w hcw => ?_, h⟩
  rw [hl]
  intro u hu x hx
  obtain ⟨h1, h2⟩ := hrun w u x hcw hu hx
  show if _ then _ else _
  rw [if_pos h1, h2]
  exact (hc w u x hcw hu hx).mono fun e w' ⟨he, hr⟩ => ⟨v, he, rfl, hr⟩
end
theorem IntsW.lit (w : World) (l : List Int) (hl : l.length ≤ 1000) (cs : Array Value) (hc : cs = (l.map (Value.int .i64)).toArray) (t : TypeId) : IntsW (w.alloc (.cells cs t)) (.slice (some ⟨w.heap.size, 0, none⟩) l.length l.length) l := by
  subst hc
  refine ⟨hl, _, _, rfl, fun i hi => ?_⟩
  rw [cell_of_row _ w.heap.size i _ _ _ (heap_new w _)]
  simp [hi]
section
variable {A : Act} {o : Oper}
theorem mkI1_run {x : Operand} {r : Int} (hop : o.op = .buildSlice 46 1 #[(0, x)]) (hx : A.eval x = .int .i64 r) (W : World) :
    (execOp A.eval o).run Tryz.prog W = .ok (.value (.slice (some ⟨W.heap.size, 0, none⟩) 1 1)) (W.alloc (.cells #[.int .i64 r] 3)) := by
  have h : (Instr.buildSlice 46 1 #[(0, .int .i64 r)]).run Tryz.prog W = .ok (.slice (some ⟨W.heap.size, 0, none⟩) 1 1) (W.alloc (.cells #[.int .i64 r] 3)) := by kernel_rfl
  simp [execOp, hop, hx, h, Result.andThen]
theorem mkI3_run {x y z : Operand} {r s t : Int} (hop : o.op = .buildSlice 46 3 #[(0, x), (1, y), (2, z)]) (hx : A.eval x = .int .i64 r) (hy : A.eval y = .int .i64 s) (hz : A.eval z = .int .i64 t) (W : World) :
    (execOp A.eval o).run Tryz.prog W = .ok (.value (.slice (some ⟨W.heap.size, 0, none⟩) 3 3)) (W.alloc (.cells #[.int .i64 r, .int .i64 s, .int .i64 t] 3)) := by
  have h : (Instr.buildSlice 46 3 #[(0, .int .i64 r), (1, .int .i64 s), (2, .int .i64 t)]).run Tryz.prog W = .ok (.slice (some ⟨W.heap.size, 0, none⟩) 3 3) (W.alloc (.cells #[.int .i64 r, .int .i64 s, .int .i64 t] 3)) := by kernel_rfl
  simp [execOp, hop, hx, hy, hz, h, Result.andThen]
end
def numsF (f : Fu) : Bool := inB 1 16 f.1 && inB 1 512 (f.2.length : Nat)
/-- What is known of slots 3, 6, 9, 13. -/
def keyN (r n : Int) (d : Tmp) (u : Value) (w : World) : Prop := if d = 3 then AskW w u 1 16 else if d = 6 then IntsW w u [r] else if d = 9 then AskW w u 1 512 else IntsW w u [n]
theorem keyN_adds (r n : Int) (d : Tmp) (u : Value) (w w' : World) (ha : Adds w w') (h : keyN r n d u w) : keyN r n d u w' := by
  unfold keyN at *
  split
  · rename_i e; rw [if_pos e] at h; exact h.adds ha
  · rename_i e; rw [if_neg e] at h
    split
    · rename_i e2; rw [if_pos e2] at h; exact h.adds ha
    · rename_i e2; rw [if_neg e2] at h
      split
      · rename_i e3; rw [if_pos e3] at h; exact h.adds ha
      · rename_i e3; rw [if_neg e3] at h; exact h.adds ha
set_option maxRecDepth 100000 in
set_option maxHeartbeats 4000000 in
theorem nums1_any (r : Int) (ao : Option Addr) (len cap : Nat) (w : World) : Calls Tryz.prog 57 #[.agg #[.int .i64 r, .slice ao len cap]] w fun e w' => e = .returned (.bool (inB 1 16 r && inB 1 512 (len : Nat))) ∧ Adds w w' := by
  obtain ⟨w1, hw1⟩ : ∃ w1, w.alloc (.cells #[.int .i64 r, .slice ao len cap] 55) = w1 := ⟨_, rfl⟩
  have HA1 := Lib.hid (show Adds w w1 by rw [← hw1]; exact (Gr.new _ _).adds)
  have HB1 := Lib.hid (show BkS 55 w1 w.heap.size [.int .i64 r, .slice ao len cap] by rw [← hw1]; exact BkS.new _ _ _)
  have HD := Lib.hid (show ∀ w', Adds w1.drew w' → w'.cell? ⟨w.heap.size, 0, none⟩ = some (.int .i64 r) ∧ w'.cell? ⟨w.heap.size, 1, none⟩ = some (.slice ao len cap) from fun w' h =>
    ⟨(HB1.out.adds (Adds.trans (Adds.drew _) h)).cell 0, (HB1.out.adds (Adds.trans (Adds.drew _) h)).cell 1⟩)
  have HE := Lib.hid (fun (v u : Value) (lo hi : Int) (x : Int) (W : World) (h1 : AskW W v lo hi) (h2 : IntsW W u [x]) => show Calls Tryz.prog 54 #[v, u] W fun e w' => e = .returned (.bool (inB lo hi x)) ∧ Adds W w' from
    (everyI v u lo hi [x] W h1 h2).mono fun e w' ⟨h3, h4⟩ => ⟨by rw [h3]; simp, h4 ▸ Adds.refl _⟩)
  have HI : Hid (∀ (x : Int) (W : World), IntsW (W.alloc (.cells #[.int .i64 x] 3)) (.slice (some ⟨W.heap.size, 0, none⟩) 1 1) [x] ∧ Adds W (W.alloc (.cells #[.int .i64 x] 3))) := Lib.hid fun x W => ⟨IntsW.lit W [x] (by simp) _ rfl _, (Gr.new _ _).adds⟩
  have HWi : Hid (∀ (lo hi : Int) (W : World), Calls Tryz.prog 55 #[.int .i64 lo, .int .i64 hi] W fun e w' => ∃ v, e = .returned v ∧ AskW w' v lo hi ∧ Adds W w') := Lib.hid fun lo hi W => (within_any lo hi W).mono fun e w' ⟨v, h1, h2, h3⟩ => ⟨v, h1, h2, h3.adds⟩
  obtain ⟨n, hn⟩ : ∃ n : Int, (len : Int) = n := ⟨_, rfl⟩
  rw [hn]
  cases hb : inB 1 16 r
  · have HB := Lib.hid hb
    clear hb
    go_enter Tryz.func57, Tryz.ntmps57
    go_wp2_with fail
    refine wp_region_loose [3, 6] (keyN r n) Adds (by kernel_rfl) (by kernel_rfl) (by simp []) Adds.refl (fun _ _ _ h k => Adds.trans h k) (fun d u _ _ h k => keyN_adds r n d u _ _ h k) ?_
    repeat (refine wpL_step (fun K hK => ?_); first
      | (refine stepL_key (f := 55) (args := #[.int .i64 1, .int .i64 16]) 3 rfl rfl rfl rfl ?_ (fun w' hw' => HWi.out 1 16 w') ?_; (· (intro w'; clear hK; go_simp)); refine hK _ ?_; clear hK K)
      | (refine stepL_skip rfl rfl rfl ?_; go_simp; refine hK _ ?_; clear hK K)
      | (refine stepL_ex (v := .bool false) rfl rfl rfl Adds.refl ?_ ?_; (· (intro w' hw'; clear hK; go_simp)); go_simp; refine hK _ ?_; clear hK K)
      | (refine stepL_ex rfl rfl rfl Adds.refl (fun w' hw' => rfl) ?_; go_simp; refine hK _ ?_; clear hK K)
      | (refine stepL_ex (v := .int .i64 r) rfl rfl rfl Adds.refl ?_ ?_; (· (intro w' hw'; clear hK; have hc := HD.out w' hw'; go_simp)); go_simp; refine hK _ ?_; clear hK K)
      | (refine stepL_mk 6 rfl rfl rfl rfl (fun w' hw' => ⟨_, _, mkI1_run rfl rfl w', (HI.out r w').1, (HI.out r w').2⟩) ?_; refine hK _ ?_; clear hK K)
      | (refine stepL_call2 (v := .bool false) (d := 3) (e := 6) (f := 54) (fun a b => #[a, b]) rfl rfl ?_ (fun w' a b _ h1 h2 => by have := HE.out a b 1 16 r w' h1 h2; rw [HB.out] at this; exact this) ?_; (· (intro w' a b hw' h1 h2; clear hK; refine ⟨rfl, ?_⟩; go_simp)); go_simp; refine hK _ ?_; clear hK K))
    refine wpL_nil ?_
    intro w4 a4
    simp only [forL]
    intro u1 _ u2 _
    have HA4 := Lib.hid (Adds.trans HA1.out (Adds.trans (Adds.drew w1) a4))
    clear a4
    go_wp2_with fail
    go_ret
    exact ⟨rfl, HA4.out⟩
  · have HB := Lib.hid hb
    clear hb
    obtain ⟨r2, hr2⟩ : ∃ r2, inB 1 512 n = r2 := ⟨_, rfl⟩
    have HB2 := Lib.hid hr2
    rw [hr2]
    clear hr2
    go_enter Tryz.func57, Tryz.ntmps57
    go_wp2_with fail
    refine wp_region_loose [3, 6, 9, 13] (keyN r n) Adds (by kernel_rfl) (by kernel_rfl) (by simp []) Adds.refl (fun _ _ _ h k => Adds.trans h k) (fun d u _ _ h k => keyN_adds r n d u _ _ h k) ?_
    repeat (refine wpL_step (fun K hK => ?_); first
      | (refine stepL_key (f := 55) (args := #[.int .i64 1, .int .i64 16]) 3 rfl rfl rfl rfl ?_ (fun w' hw' => HWi.out 1 16 w') ?_; (· (intro w'; clear hK; go_simp)); refine hK _ ?_; clear hK K)
      | (refine stepL_key (f := 55) (args := #[.int .i64 1, .int .i64 512]) 9 rfl rfl rfl rfl ?_ (fun w' hw' => HWi.out 1 512 w') ?_; (· (intro w'; clear hK; go_simp)); refine hK _ ?_; clear hK K)
      | (refine stepL_ex (v := .bool true) rfl rfl rfl Adds.refl ?_ ?_; (· (intro w' hw'; clear hK; go_simp)); go_simp; refine hK _ ?_; clear hK K)
      | (refine stepL_ex (v := .bool r2) rfl rfl rfl Adds.refl ?_ ?_; (· (intro w' hw'; clear hK; go_simp)); go_simp; refine hK _ ?_; clear hK K)
      | (refine stepL_ex rfl rfl rfl Adds.refl (fun w' hw' => rfl) ?_; go_simp; refine hK _ ?_; clear hK K)
      | (refine stepL_ex (v := .int .i64 r) rfl rfl rfl Adds.refl ?_ ?_; (· (intro w' hw'; clear hK; have hc := HD.out w' hw'; go_simp)); go_simp; refine hK _ ?_; clear hK K)
      | (refine stepL_ex (v := .slice ao len cap) rfl rfl rfl Adds.refl ?_ ?_; (· (intro w' hw'; clear hK; have hc := HD.out w' hw'; go_simp)); go_simp; refine hK _ ?_; clear hK K)
      | (refine stepL_ex (v := .int .i64 n) rfl rfl rfl Adds.refl ?_ ?_; (· (intro w' hw'; clear hK; go_simp)); go_simp; refine hK _ ?_; clear hK K)
      | (refine stepL_mk 6 rfl rfl rfl rfl (fun w' hw' => ⟨_, _, mkI1_run rfl rfl w', (HI.out r w').1, (HI.out r w').2⟩) ?_; refine hK _ ?_; clear hK K)
      | (refine stepL_mk 13 rfl rfl rfl rfl (fun w' hw' => ⟨_, _, mkI1_run rfl rfl w', (HI.out n w').1, (HI.out n w').2⟩) ?_; refine hK _ ?_; clear hK K)
      | (refine stepL_call2 (v := .bool true) (d := 3) (e := 6) (f := 54) (fun a b => #[a, b]) rfl rfl ?_ (fun w' a b _ h1 h2 => by have := HE.out a b 1 16 r w' h1 h2; rw [HB.out] at this; exact this) ?_; (· (intro w' a b hw' h1 h2; clear hK; refine ⟨rfl, ?_⟩; go_simp)); go_simp; refine hK _ ?_; clear hK K)
      | (refine stepL_call2 (v := .bool r2) (d := 9) (e := 13) (f := 54) (fun a b => #[a, b]) rfl rfl ?_ (fun w' a b _ h1 h2 => by have := HE.out a b 1 512 n w' h1 h2; rw [HB2.out] at this; exact this) ?_; (· (intro w' a b hw' h1 h2; clear hK; refine ⟨rfl, ?_⟩; go_simp)); go_simp; refine hK _ ?_; clear hK K))
    refine wpL_nil ?_
    intro w4 a4
    simp only [forL]
    intro u1 _ u2 _ u3 _ u4 _
    have HA4 := Lib.hid (Adds.trans HA1.out (Adds.trans (Adds.drew w1) a4))
    clear a4
    go_wp2_with fail
    go_ret
    exact ⟨rfl, HA4.out⟩
end Go.Proofs.YthhegcngkpfcoaaGreatDoor
