/- Merged: AF1. -/
import Derived.WalkKit
import Derived.WalkSpells
import Derived.Laws.BitsAllLaws
import Derived.Maps.OwnSet
import Derived.Test.YthhegcngkpfcoaaGreatRows
import Derived.Test.YthhegcngkpfcoaaGreatY11
import Derived.Test.YthhegcngkpfcoaaGreatY0
namespace Go.Proofs.YthhegcngkpfcoaaGreat
open Go Go.RowKit

/-- What one kind's function makes of a pair. -/
def PairPost (n : Nat) (w : World) (e : Ending) (w' : World) : Prop := e = .returned (.int .u32 n) ∧ Adds w w'
def pairV (a b : Nat) : Value := .agg #[.int .u32 a, .int .u32 b]
theorem adds_box (w : World) (o : Obj) : Adds w (w.alloc o) := (Below.refl _ _).alloc (Nat.le_refl _) _

theorem up_any (a b : Nat) (_ha : a < 4294967296) (hb : b < 4294967296) (w : World) :
    Calls Tryz.prog 130 #[.int .u32 a, .int .u32 b] w fun e w' => e = .returned (.int .u32 (doN 9 a b : Nat)) ∧ w = w' := by
  go_enter Tryz.func130, Tryz.ntmps130
  go_wp2
  go_ret
  exact ⟨ret_int (by simp [doN]), rfl⟩
theorem down_word (a b : Nat) (_ha : a < 4294967296) (hb : b < 4294967296) (w : World) :
    Calls Tryz.prog 132 #[.int .u32 a, .int .u32 b] w fun e w' => e = .returned (.int .u32 (doN 10 a b : Nat)) ∧ w = w' := by
  go_enter Tryz.func132, Tryz.ntmps132
  go_wp2
  go_ret
  exact ⟨ret_int (by simp [doN]), rfl⟩
theorem truth_any (z : Bool) (w : World) :
    Calls Tryz.prog 134 #[.bool z] w fun e w' => e = .returned (.int .u32 ((if z then 1 else 0 : Nat) : Int)) ∧ w = w' := by
  cases z <;>
  · go_enter Tryz.func134, Tryz.ntmps134
    go_wp2
    go_ret
    exact ⟨rfl, rfl⟩
theorem kind1_any (a b : Nat) (_ha : a < 4294967296) (_hb : b < 4294967296) (_hz : byNone 1 b = false) (w : World) :
    Calls Tryz.prog 121 #[pairV a b] w (PairPost (doN 1 a b) w) := by
  unfold pairV
  go_enter Tryz.func121, Tryz.ntmps121
  go_wp2
  go_ret
  exact ⟨ret_int (by simp only [doN]; omega), adds_box _ _⟩
theorem kind2_any (a b : Nat) (_ha : a < 4294967296) (hb : b < 4294967296) (_hz : byNone 2 b = false) (w : World) :
    Calls Tryz.prog 122 #[pairV a b] w (PairPost (doN 2 a b) w) := by
  unfold pairV
  go_enter Tryz.func122, Tryz.ntmps122
  go_wp2
  go_ret
  exact ⟨ret_int (by simp only [doN]; omega), adds_box _ _⟩
theorem kind3_any (a b : Nat) (_ha : a < 4294967296) (_hb : b < 4294967296) (_hz : byNone 3 b = false) (w : World) :
    Calls Tryz.prog 123 #[pairV a b] w (PairPost (doN 3 a b) w) := by
  unfold pairV
  go_enter Tryz.func123, Tryz.ntmps123
  go_wp2
  go_ret
  exact ⟨ret_int (by simp [doN]), adds_box _ _⟩
theorem kind4_any (a b : Nat) (ha : a < 4294967296) (hb : b < 4294967296) (hz : byNone 4 b = false) (w : World) :
    Calls Tryz.prog 124 #[pairV a b] w (PairPost (doN 4 a b) w) := by
  have hb0 : b ≠ 0 := by rintro rfl; simp [byNone] at hz
  clear hz
  have h4 : ((a / b : Nat) : Int) % 4294967296 = ((a / b : Nat) : Int) := by have h5 := Nat.lt_of_le_of_lt (Nat.div_le_self a b) ha; generalize a / b = q at h5 ⊢; omega
  unfold pairV
  go_enter Tryz.func124, Tryz.ntmps124
  go_wp2
  go_ret
  exact ⟨ret_int (by simp [doN]), adds_box _ _⟩
theorem kind5_any (a b : Nat) (ha : a < 4294967296) (hb : b < 4294967296) (hz : byNone 5 b = false) (w : World) :
    Calls Tryz.prog 125 #[pairV a b] w (PairPost (doN 5 a b) w) := by
  have hb0 : b ≠ 0 := by rintro rfl; simp [byNone] at hz
  clear hz
  unfold pairV
  go_enter Tryz.func125, Tryz.ntmps125
  go_wp2
  go_ret
  exact ⟨ret_int (by simp [doN]), adds_box _ _⟩
theorem kind6_any (a b : Nat) (ha : a < 4294967296) (hb : b < 4294967296) (_hz : byNone 6 b = false) (w : World) :
    Calls Tryz.prog 126 #[pairV a b] w (PairPost (doN 6 a b) w) := by
  have HB := u32_and_nat a b ha hb
  unfold pairV
  go_enter Tryz.func126, Tryz.ntmps126
  go_wp2
  go_ret
  exact ⟨rfl, adds_box _ _⟩
theorem kind7_any (a b : Nat) (ha : a < 4294967296) (hb : b < 4294967296) (_hz : byNone 7 b = false) (w : World) :
    Calls Tryz.prog 127 #[pairV a b] w (PairPost (doN 7 a b) w) := by
  have HB := u32_or_nat a b ha hb
  unfold pairV
  go_enter Tryz.func127, Tryz.ntmps127
  go_wp2
  go_ret
  exact ⟨rfl, adds_box _ _⟩
theorem kind8_any (a b : Nat) (ha : a < 4294967296) (hb : b < 4294967296) (_hz : byNone 8 b = false) (w : World) :
    Calls Tryz.prog 128 #[pairV a b] w (PairPost (doN 8 a b) w) := by
  have HB := u32_xor_nat a b ha hb
  unfold pairV
  go_enter Tryz.func128, Tryz.ntmps128
  go_wp2
  go_ret
  exact ⟨rfl, adds_box _ _⟩
theorem kind9_any (a b : Nat) (ha : a < 4294967296) (hb : b < 4294967296) (_hz : byNone 9 b = false) (w : World) :
    Calls Tryz.prog 129 #[pairV a b] w (PairPost (doN 9 a b) w) := by
  have HC := Lib.hid (up_any a b ha hb)
  unfold pairV
  go_enter Tryz.func129, Tryz.ntmps129
  go_wp2_with (go_at_call 130; refine (HC.out _).mono ?_; rintro e w' ⟨rfl, rfl⟩)
  go_ret
  exact ⟨rfl, adds_box _ _⟩
theorem kind10_any (a b : Nat) (ha : a < 4294967296) (hb : b < 4294967296) (_hz : byNone 10 b = false) (w : World) :
    Calls Tryz.prog 131 #[pairV a b] w (PairPost (doN 10 a b) w) := by
  have HC := Lib.hid (down_word a b ha hb)
  unfold pairV
  go_enter Tryz.func131, Tryz.ntmps131
  go_wp2_with (go_at_call 132; refine (HC.out _).mono ?_; rintro e w' ⟨rfl, rfl⟩)
  go_ret
  exact ⟨rfl, adds_box _ _⟩
theorem kind11_any (a b : Nat) (_ha : a < 4294967296) (_hb : b < 4294967296) (_hz : byNone 11 b = false) (w : World) :
    Calls Tryz.prog 133 #[pairV a b] w (PairPost (doN 11 a b) w) := by
  unfold pairV
  go_enter Tryz.func133, Tryz.ntmps133
  go_wp2_with (go_at_call 134; refine (truth_any _ _).mono ?_; rintro e w' ⟨rfl, rfl⟩)
  all_goals
    go_ret
    exact ⟨ret_int (by simp only [doN]; first | (rw [if_pos (by omega)]; rfl) | (rw [if_neg (by omega)]; rfl)), adds_box _ _⟩
theorem kind12_any (a b : Nat) (_ha : a < 4294967296) (_hb : b < 4294967296) (_hz : byNone 12 b = false) (w : World) :
    Calls Tryz.prog 135 #[pairV a b] w (PairPost (doN 12 a b) w) := by
  unfold pairV
  go_enter Tryz.func135, Tryz.ntmps135
  go_wp2_with (go_at_call 134; refine (truth_any _ _).mono ?_; rintro e w' ⟨rfl, rfl⟩)
  all_goals
    go_ret
    exact ⟨ret_int (by simp only [doN]; first | (rw [if_pos (by omega)]; rfl) | (rw [if_neg (by omega)]; rfl)), adds_box _ _⟩

/-! ### The map -/
theorem Adds.turn {w w1 w2 : World} {b : Nat} (h : Adds w w1) (hb : w.heap.size ≤ b) (g : w1.grownBy w2 (some b)) : Adds w w2 :=
  Below.grown h g h.size fun k hk => by cases hk; exact hb

def recF : Nat → FuncId
  | 1 => 121 | 2 => 122 | 3 => 123 | 4 => 124 | 5 => 125 | 6 => 126
  | 7 => 127 | 8 => 128 | 9 => 129 | 10 => 131 | 11 => 133 | 12 => 135
  | _ => 0
/-- How an element of the map reads: by the number of its function. -/
def funElem : Value → Option (DataW Unit × List MemPlace)
  | .func (.func f) first captured => if first.size = 0 ∧ captured.size = 0 then some (.lit (.int .u64 f), []) else none
  | .nilFunc => some (.nil, [])
  | _ => none
theorem funElem_inv {v : Value} {f : Nat} {ps : List MemPlace} (h : funElem v = some (.lit (.int .u64 f), ps)) : v = .func (.func f) #[] #[] := by
  unfold funElem at h
  split at h
  · split at h
    · rename_i hc
      simp at h
      obtain ⟨h, _⟩ := h
      rw [Array.eq_empty_of_size_eq_zero hc.1, Array.eq_empty_of_size_eq_zero hc.2, Int.ofNat.inj h]
    · simp at h
  · simp at h
  · simp at h
theorem funElem_nil {v : Value} {ps : List MemPlace} (h : funElem v = some (.nil, ps)) : v = .nilFunc := by
  unfold funElem at h
  split at h
  · split at h
    · simp at h
    · simp at h
  · rfl
  · simp at h
def recD : Nat → DataW Unit
  | 0 => .map []
  | n + 1 => (recD n).put (.int .i64 (n + 1 : Nat)) (.lit (.int .u64 (recF (n + 1))))
theorem karith : Maps.Keyed Tryz.prog 136 := Maps.int_keyed Tryz.underlying136
theorem zeroFun (w : World) : (zeroValue 152).run Tryz.prog w = .ok .nilFunc w := by kernel_rfl
abbrev RecM (w : World) (b n : Nat) : Prop := w.ownsMap Tryz.prog 136 funElem b n (recD n)

theorem wpList_insert_own {P : Program} (w : World) {ops : Array Oper} {rest : List Oper} {o : Oper} {a : Act} {Q : Exit → Act → World → Prop}
    (hg : o.guard = none) (m x v : Operand) (t : TypeId) (hop : o.op = Op.insert t m x v)
    (k e : TypeId) (K : Maps.Keyed P k) (ht : P.underlying t = some (.map k e)) (R : Value → Option (DataW Unit × List MemPlace)) (b n : Nat) (D : DataW Unit)
    (hm : a.eval m = .map (some b)) (hown : w.ownsMap P k R b n D) (hn : n < maxLen) (key val : Value) (kl : Lit) (hx : a.eval x = key) (hv : a.eval v = val) (hkey : keyOf P k key = some kl)
    (d : DataW Unit) (ps : List MemPlace) (hval : R val = some (d, ps))
    (hK : ∀ w', w'.ownsMap P k R b (n + 1) (D.put kl d) → w.grownBy w' (some b) → wpList P ops Q rest (a.put o.dst undef) w') :
    wpList P ops Q (o :: rest) a w := by
  refine wpList_plain hg fun K' hK' => ?_
  obtain ⟨w', hrun, r1, r2⟩ := hown.update K ht hn hkey hval
  unfold Oper.wp
  simp [execOp, hop, hm, hx, hv, hrun, Result.andThen]
  exact hK' _ _ (hK w' r1 r2)

def MapPost (w : World) (e : Ending) (w' : World) : Prop := ∃ b, e = .returned (.map (some b)) ∧ w.heap.size ≤ b ∧ RecM w' b 12 ∧ Adds w w'
set_option maxRecDepth 100000 in
theorem reckonings_any (w : World) : Calls Tryz.prog 114 #[] w (MapPost w) := by
  have hmm := @run_makeMap Tryz.prog
  have O0 := Lib.hid (show RecM (w.alloc (.map #[] 0)) w.heap.size 0 from World.ownsMap_made _ _ _ _)
  have G := Lib.hid (show Adds w (w.alloc (.map #[] 0)) from adds_box _ _)
  go_enter Tryz.func114, Tryz.ntmps114
  go_wp2_with (first
    | (refine wpList_insert_own _ rfl _ _ _ 154 rfl 136 152 karith Tryz.underlying154 funElem w.heap.size 0 (recD 0) rfl O0.out (by decide) _ _ (.int .i64 1) rfl rfl (Maps.keyOf_int_mk Tryz.underlying136 (by decide)) (.lit (.int .u64 (recF 1))) [] rfl ?_; intro w1 own1 g1; have O1 := Lib.hid (show RecM w1 w.heap.size 1 from own1); clear own1 O0; have G := Lib.hid (G.out.turn (Nat.le_refl _) g1); clear g1)
    | (refine wpList_insert_own _ rfl _ _ _ 154 rfl 136 152 karith Tryz.underlying154 funElem w.heap.size 1 (recD 1) rfl O1.out (by decide) _ _ (.int .i64 2) rfl rfl (Maps.keyOf_int_mk Tryz.underlying136 (by decide)) (.lit (.int .u64 (recF 2))) [] rfl ?_; intro w2 own2 g2; have O2 := Lib.hid (show RecM w2 w.heap.size 2 from own2); clear own2 O1; have G := Lib.hid (G.out.turn (Nat.le_refl _) g2); clear g2)
    | (refine wpList_insert_own _ rfl _ _ _ 154 rfl 136 152 karith Tryz.underlying154 funElem w.heap.size 2 (recD 2) rfl O2.out (by decide) _ _ (.int .i64 3) rfl rfl (Maps.keyOf_int_mk Tryz.underlying136 (by decide)) (.lit (.int .u64 (recF 3))) [] rfl ?_; intro w3 own3 g3; have O3 := Lib.hid (show RecM w3 w.heap.size 3 from own3); clear own3 O2; have G := Lib.hid (G.out.turn (Nat.le_refl _) g3); clear g3)
    | (refine wpList_insert_own _ rfl _ _ _ 154 rfl 136 152 karith Tryz.underlying154 funElem w.heap.size 3 (recD 3) rfl O3.out (by decide) _ _ (.int .i64 4) rfl rfl (Maps.keyOf_int_mk Tryz.underlying136 (by decide)) (.lit (.int .u64 (recF 4))) [] rfl ?_; intro w4 own4 g4; have O4 := Lib.hid (show RecM w4 w.heap.size 4 from own4); clear own4 O3; have G := Lib.hid (G.out.turn (Nat.le_refl _) g4); clear g4)
    | (refine wpList_insert_own _ rfl _ _ _ 154 rfl 136 152 karith Tryz.underlying154 funElem w.heap.size 4 (recD 4) rfl O4.out (by decide) _ _ (.int .i64 5) rfl rfl (Maps.keyOf_int_mk Tryz.underlying136 (by decide)) (.lit (.int .u64 (recF 5))) [] rfl ?_; intro w5 own5 g5; have O5 := Lib.hid (show RecM w5 w.heap.size 5 from own5); clear own5 O4; have G := Lib.hid (G.out.turn (Nat.le_refl _) g5); clear g5)
    | (refine wpList_insert_own _ rfl _ _ _ 154 rfl 136 152 karith Tryz.underlying154 funElem w.heap.size 5 (recD 5) rfl O5.out (by decide) _ _ (.int .i64 6) rfl rfl (Maps.keyOf_int_mk Tryz.underlying136 (by decide)) (.lit (.int .u64 (recF 6))) [] rfl ?_; intro w6 own6 g6; have O6 := Lib.hid (show RecM w6 w.heap.size 6 from own6); clear own6 O5; have G := Lib.hid (G.out.turn (Nat.le_refl _) g6); clear g6)
    | (refine wpList_insert_own _ rfl _ _ _ 154 rfl 136 152 karith Tryz.underlying154 funElem w.heap.size 6 (recD 6) rfl O6.out (by decide) _ _ (.int .i64 7) rfl rfl (Maps.keyOf_int_mk Tryz.underlying136 (by decide)) (.lit (.int .u64 (recF 7))) [] rfl ?_; intro w7 own7 g7; have O7 := Lib.hid (show RecM w7 w.heap.size 7 from own7); clear own7 O6; have G := Lib.hid (G.out.turn (Nat.le_refl _) g7); clear g7)
    | (refine wpList_insert_own _ rfl _ _ _ 154 rfl 136 152 karith Tryz.underlying154 funElem w.heap.size 7 (recD 7) rfl O7.out (by decide) _ _ (.int .i64 8) rfl rfl (Maps.keyOf_int_mk Tryz.underlying136 (by decide)) (.lit (.int .u64 (recF 8))) [] rfl ?_; intro w8 own8 g8; have O8 := Lib.hid (show RecM w8 w.heap.size 8 from own8); clear own8 O7; have G := Lib.hid (G.out.turn (Nat.le_refl _) g8); clear g8)
    | (refine wpList_insert_own _ rfl _ _ _ 154 rfl 136 152 karith Tryz.underlying154 funElem w.heap.size 8 (recD 8) rfl O8.out (by decide) _ _ (.int .i64 9) rfl rfl (Maps.keyOf_int_mk Tryz.underlying136 (by decide)) (.lit (.int .u64 (recF 9))) [] rfl ?_; intro w9 own9 g9; have O9 := Lib.hid (show RecM w9 w.heap.size 9 from own9); clear own9 O8; have G := Lib.hid (G.out.turn (Nat.le_refl _) g9); clear g9)
    | (refine wpList_insert_own _ rfl _ _ _ 154 rfl 136 152 karith Tryz.underlying154 funElem w.heap.size 9 (recD 9) rfl O9.out (by decide) _ _ (.int .i64 10) rfl rfl (Maps.keyOf_int_mk Tryz.underlying136 (by decide)) (.lit (.int .u64 (recF 10))) [] rfl ?_; intro w10 own10 g10; have O10 := Lib.hid (show RecM w10 w.heap.size 10 from own10); clear own10 O9; have G := Lib.hid (G.out.turn (Nat.le_refl _) g10); clear g10)
    | (refine wpList_insert_own _ rfl _ _ _ 154 rfl 136 152 karith Tryz.underlying154 funElem w.heap.size 10 (recD 10) rfl O10.out (by decide) _ _ (.int .i64 11) rfl rfl (Maps.keyOf_int_mk Tryz.underlying136 (by decide)) (.lit (.int .u64 (recF 11))) [] rfl ?_; intro w11 own11 g11; have O11 := Lib.hid (show RecM w11 w.heap.size 11 from own11); clear own11 O10; have G := Lib.hid (G.out.turn (Nat.le_refl _) g11); clear g11)
    | (refine wpList_insert_own _ rfl _ _ _ 154 rfl 136 152 karith Tryz.underlying154 funElem w.heap.size 11 (recD 11) rfl O11.out (by decide) _ _ (.int .i64 12) rfl rfl (Maps.keyOf_int_mk Tryz.underlying136 (by decide)) (.lit (.int .u64 (recF 12))) [] rfl ?_; intro w12 own12 g12; have O12 := Lib.hid (show RecM w12 w.heap.size 12 from own12); clear own12 O11; have G := Lib.hid (G.out.turn (Nat.le_refl _) g12); clear g12))
  go_ret
  exact ⟨_, rfl, Nat.le_refl _, O12.out, G.out⟩

theorem kindA_any (k a b : Nat) (h1 : 1 ≤ k) (h12 : k ≤ 12) (ha : a < 4294967296) (hb : b < 4294967296) (hz : byNone k b = false) (w : World) :
    Calls Tryz.prog (recF k) #[pairV a b] w (PairPost (doN k a b) w) := by
  match k, h1, h12 with
  | 1, _, _ => exact kind1_any a b ha hb hz w
  | 2, _, _ => exact kind2_any a b ha hb hz w
  | 3, _, _ => exact kind3_any a b ha hb hz w
  | 4, _, _ => exact kind4_any a b ha hb hz w
  | 5, _, _ => exact kind5_any a b ha hb hz w
  | 6, _, _ => exact kind6_any a b ha hb hz w
  | 7, _, _ => exact kind7_any a b ha hb hz w
  | 8, _, _ => exact kind8_any a b ha hb hz w
  | 9, _, _ => exact kind9_any a b ha hb hz w
  | 10, _, _ => exact kind10_any a b ha hb hz w
  | 11, _, _ => exact kind11_any a b ha hb hz w
  | 12, _, _ => exact kind12_any a b ha hb hz w

theorem recD_list : recD 12 = .map ((List.range 12).map fun i => (.int .i64 (i + 1 : Nat), .lit (.int .u64 (recF (i + 1))))) := by kernel_rfl
theorem wf_kind (k : Nat) (h1 : 1 ≤ k) (h12 : k ≤ 12) : (Lit.int .i64 (k : Int)).wf = true := by
  match k, h1, h12 with
  | 1, _, _ => decide
  | 2, _, _ => decide
  | 3, _, _ => decide
  | 4, _, _ => decide
  | 5, _, _ => decide
  | 6, _, _ => decide
  | 7, _, _ => decide
  | 8, _, _ => decide
  | 9, _, _ => decide
  | 10, _, _ => decide
  | 11, _, _ => decide
  | 12, _, _ => decide

theorem has_kind (k : Nat) (h1 : 1 ≤ k) (h12 : k ≤ 12) : Maps.has (recD 12) (.int .i64 k) = true := by
  match k, h1, h12 with
  | 1, _, _ => show _ = _; kernel_rfl
  | 2, _, _ => show _ = _; kernel_rfl
  | 3, _, _ => show _ = _; kernel_rfl
  | 4, _, _ => show _ = _; kernel_rfl
  | 5, _, _ => show _ = _; kernel_rfl
  | 6, _, _ => show _ = _; kernel_rfl
  | 7, _, _ => show _ = _; kernel_rfl
  | 8, _, _ => show _ = _; kernel_rfl
  | 9, _, _ => show _ = _; kernel_rfl
  | 10, _, _ => show _ = _; kernel_rfl
  | 11, _, _ => show _ = _; kernel_rfl
  | 12, _, _ => show _ = _; kernel_rfl

theorem at_kind (k : Nat) (h1 : 1 ≤ k) (h12 : k ≤ 12) : (recD 12).atKey (.int .i64 k) .nil = .lit (.int .u64 (recF k)) := by
  match k, h1, h12 with
  | 1, _, _ => show _ = _; kernel_rfl
  | 2, _, _ => show _ = _; kernel_rfl
  | 3, _, _ => show _ = _; kernel_rfl
  | 4, _, _ => show _ = _; kernel_rfl
  | 5, _, _ => show _ = _; kernel_rfl
  | 6, _, _ => show _ = _; kernel_rfl
  | 7, _, _ => show _ = _; kernel_rfl
  | 8, _, _ => show _ = _; kernel_rfl
  | 9, _, _ => show _ = _; kernel_rfl
  | 10, _, _ => show _ = _; kernel_rfl
  | 11, _, _ => show _ = _; kernel_rfl
  | 12, _, _ => show _ = _; kernel_rfl

theorem look_kind (k : Nat) (h1 : 1 ≤ k) (h12 : k ≤ 12) (b : Nat) (w : World) (h : RecM w b 12) :
    (Instr.lookup 154 (.map (some b)) (.int .i64 k) true).run Tryz.prog w = .ok (.tuple #[.func (.func (recF k)) #[] #[], .bool true]) w := by
  obtain ⟨v, ps, hr, hv⟩ := h.look_ok karith Tryz.underlying154 (zeroFun w) (zd := .nil) (zp := []) rfl (Maps.keyOf_int_mk Tryz.underlying136 (wf_kind k h1 h12))
  rw [at_kind k h1 h12] at hv
  rw [funElem_inv hv, has_kind k h1 h12] at hr
  exact hr
theorem none_kind (x : Int) (hk : ¬ (1 ≤ x ∧ x ≤ 12)) : Maps.has (recD 12) (.int .i64 x) = false ∧ (recD 12).atKey (.int .i64 x) .nil = .nil := by
  have hne : ∀ i : Nat, i < 12 → ((Lit.int .i64 ((i + 1 : Nat) : Int)).sameKey (.int .i64 x)) = false := by
    intro i hi
    have : ¬ ((i : Int) + 1 = x) := by omega
    simp [Lit.sameKey, this]
  have e1 : Maps.has (recD 12) (.int .i64 x) = false := by
    rw [recD_list, Maps.has_eq, List.any_eq_false]
    intro p hp
    obtain ⟨i, hi, rfl⟩ := List.mem_map.1 hp
    rw [hne i (List.mem_range.1 hi)]; simp
  exact ⟨e1, Maps.atKey_of_not_has e1 _⟩
theorem look_none (x : Int) (hx : (Lit.int .i64 x).wf = true) (hk : ¬ (1 ≤ x ∧ x ≤ 12)) (b : Nat) (w : World) (h : RecM w b 12) :
    (Instr.lookup 154 (.map (some b)) (.int .i64 x) true).run Tryz.prog w = .ok (.tuple #[.nilFunc, .bool false]) w := by
  obtain ⟨v, ps, hr, hv⟩ := h.look_ok karith Tryz.underlying154 (zeroFun w) (zd := .nil) (zp := []) rfl (Maps.keyOf_int_mk Tryz.underlying136 (a := x) hx)
  obtain ⟨e1, e2⟩ := none_kind x hk
  rw [e2] at hv
  rw [funElem_nil hv, e1] at hr
  exact hr
end Go.Proofs.YthhegcngkpfcoaaGreat
