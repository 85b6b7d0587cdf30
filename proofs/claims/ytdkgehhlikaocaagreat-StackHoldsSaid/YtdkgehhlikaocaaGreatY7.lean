/- Merged: AF1, AMem, AF2. -/
import Derived.WalkKit
import Derived.WalkSpells
import Derived.Laws.BitsAllLaws
import Derived.Maps.OwnSet
import Derived.Test.YtdkgehhlikaocaaGreatRows
import Derived.Test.YtdkgehhlikaocaaGreatY6
import Derived.Test.YtdkgehhlikaocaaGreatY0
import Derived.Shelf.Abstract
namespace Go.Proofs.YtdkgehhlikaocaaGreat
open Go Go.RowKit

/-- What one kind's function makes of a pair. -/
def PairPost (n : Nat) (w : World) (e : Ending) (w' : World) : Prop := e = .returned (.int .u32 n) ∧ Adds w w'
def pairV (a b : Nat) : Value := .agg #[.int .u32 a, .int .u32 b]
theorem adds_box (w : World) (o : Obj) : Adds w (w.alloc o) := (Below.refl _ _).alloc (Nat.le_refl _) _

theorem up_any (a b : Nat) (_ha : a < 4294967296) (hb : b < 4294967296) (w : World) :
    Calls Tryz.prog 129 #[.int .u32 a, .int .u32 b] w fun e w' => e = .returned (.int .u32 (doN 9 a b : Nat)) ∧ w = w' := by
  go_enter Tryz.func129, Tryz.ntmps129
  go_wp2
  go_ret
  exact ⟨ret_int (by simp [doN]), rfl⟩
theorem down_word (a b : Nat) (_ha : a < 4294967296) (hb : b < 4294967296) (w : World) :
    Calls Tryz.prog 131 #[.int .u32 a, .int .u32 b] w fun e w' => e = .returned (.int .u32 (doN 10 a b : Nat)) ∧ w = w' := by
  go_enter Tryz.func131, Tryz.ntmps131
  go_wp2
  go_ret
  exact ⟨ret_int (by simp [doN]), rfl⟩
theorem truth_any (z : Bool) (w : World) :
    Calls Tryz.prog 133 #[.bool z] w fun e w' => e = .returned (.int .u32 ((if z then 1 else 0 : Nat) : Int)) ∧ w = w' := by
  cases z <;>
  · go_enter Tryz.func133, Tryz.ntmps133
    go_wp2
    go_ret
    exact ⟨rfl, rfl⟩
theorem kind1_any (a b : Nat) (_ha : a < 4294967296) (_hb : b < 4294967296) (_hz : byNone 1 b = false) (w : World) :
    Calls Tryz.prog 120 #[pairV a b] w (PairPost (doN 1 a b) w) := by
  unfold pairV
  go_enter Tryz.func120, Tryz.ntmps120
  go_wp2
  go_ret
  exact ⟨ret_int (by simp only [doN]; omega), adds_box _ _⟩
theorem kind2_any (a b : Nat) (_ha : a < 4294967296) (hb : b < 4294967296) (_hz : byNone 2 b = false) (w : World) :
    Calls Tryz.prog 121 #[pairV a b] w (PairPost (doN 2 a b) w) := by
  unfold pairV
  go_enter Tryz.func121, Tryz.ntmps121
  go_wp2
  go_ret
  exact ⟨ret_int (by simp only [doN]; omega), adds_box _ _⟩
theorem kind3_any (a b : Nat) (_ha : a < 4294967296) (_hb : b < 4294967296) (_hz : byNone 3 b = false) (w : World) :
    Calls Tryz.prog 122 #[pairV a b] w (PairPost (doN 3 a b) w) := by
  unfold pairV
  go_enter Tryz.func122, Tryz.ntmps122
  go_wp2
  go_ret
  exact ⟨ret_int (by simp [doN]), adds_box _ _⟩
theorem kind4_any (a b : Nat) (ha : a < 4294967296) (hb : b < 4294967296) (hz : byNone 4 b = false) (w : World) :
    Calls Tryz.prog 123 #[pairV a b] w (PairPost (doN 4 a b) w) := by
  have hb0 : b ≠ 0 := by rintro rfl; simp [byNone] at hz
  clear hz
  have h4 : ((a / b : Nat) : Int) % 4294967296 = ((a / b : Nat) : Int) := by have h5 := Nat.lt_of_le_of_lt (Nat.div_le_self a b) ha; generalize a / b = q at h5 ⊢; omega
  unfold pairV
  go_enter Tryz.func123, Tryz.ntmps123
  go_wp2
  go_ret
  exact ⟨ret_int (by simp [doN]), adds_box _ _⟩
theorem kind5_any (a b : Nat) (ha : a < 4294967296) (hb : b < 4294967296) (hz : byNone 5 b = false) (w : World) :
    Calls Tryz.prog 124 #[pairV a b] w (PairPost (doN 5 a b) w) := by
  have hb0 : b ≠ 0 := by rintro rfl; simp [byNone] at hz
  clear hz
  unfold pairV
  go_enter Tryz.func124, Tryz.ntmps124
  go_wp2
  go_ret
  exact ⟨ret_int (by simp [doN]), adds_box _ _⟩
theorem kind6_any (a b : Nat) (ha : a < 4294967296) (hb : b < 4294967296) (_hz : byNone 6 b = false) (w : World) :
    Calls Tryz.prog 125 #[pairV a b] w (PairPost (doN 6 a b) w) := by
  have HB := u32_and_nat a b ha hb
  unfold pairV
  go_enter Tryz.func125, Tryz.ntmps125
  go_wp2
  go_ret
  exact ⟨rfl, adds_box _ _⟩
theorem kind7_any (a b : Nat) (ha : a < 4294967296) (hb : b < 4294967296) (_hz : byNone 7 b = false) (w : World) :
    Calls Tryz.prog 126 #[pairV a b] w (PairPost (doN 7 a b) w) := by
  have HB := u32_or_nat a b ha hb
  unfold pairV
  go_enter Tryz.func126, Tryz.ntmps126
  go_wp2
  go_ret
  exact ⟨rfl, adds_box _ _⟩
theorem kind8_any (a b : Nat) (ha : a < 4294967296) (hb : b < 4294967296) (_hz : byNone 8 b = false) (w : World) :
    Calls Tryz.prog 127 #[pairV a b] w (PairPost (doN 8 a b) w) := by
  have HB := u32_xor_nat a b ha hb
  unfold pairV
  go_enter Tryz.func127, Tryz.ntmps127
  go_wp2
  go_ret
  exact ⟨rfl, adds_box _ _⟩
theorem kind9_any (a b : Nat) (ha : a < 4294967296) (hb : b < 4294967296) (_hz : byNone 9 b = false) (w : World) :
    Calls Tryz.prog 128 #[pairV a b] w (PairPost (doN 9 a b) w) := by
  have HC := Lib.hid (up_any a b ha hb)
  unfold pairV
  go_enter Tryz.func128, Tryz.ntmps128
  go_wp2_with (go_at_call 129; refine (HC.out _).mono ?_; rintro e w' ⟨rfl, rfl⟩)
  go_ret
  exact ⟨rfl, adds_box _ _⟩
theorem kind10_any (a b : Nat) (ha : a < 4294967296) (hb : b < 4294967296) (_hz : byNone 10 b = false) (w : World) :
    Calls Tryz.prog 130 #[pairV a b] w (PairPost (doN 10 a b) w) := by
  have HC := Lib.hid (down_word a b ha hb)
  unfold pairV
  go_enter Tryz.func130, Tryz.ntmps130
  go_wp2_with (go_at_call 131; refine (HC.out _).mono ?_; rintro e w' ⟨rfl, rfl⟩)
  go_ret
  exact ⟨rfl, adds_box _ _⟩
theorem kind11_any (a b : Nat) (_ha : a < 4294967296) (_hb : b < 4294967296) (_hz : byNone 11 b = false) (w : World) :
    Calls Tryz.prog 132 #[pairV a b] w (PairPost (doN 11 a b) w) := by
  unfold pairV
  go_enter Tryz.func132, Tryz.ntmps132
  go_wp2_with (go_at_call 133; refine (truth_any _ _).mono ?_; rintro e w' ⟨rfl, rfl⟩)
  all_goals
    go_ret
    exact ⟨ret_int (by simp only [doN]; first | (rw [if_pos (by omega)]; rfl) | (rw [if_neg (by omega)]; rfl)), adds_box _ _⟩
theorem kind12_any (a b : Nat) (_ha : a < 4294967296) (_hb : b < 4294967296) (_hz : byNone 12 b = false) (w : World) :
    Calls Tryz.prog 134 #[pairV a b] w (PairPost (doN 12 a b) w) := by
  unfold pairV
  go_enter Tryz.func134, Tryz.ntmps134
  go_wp2_with (go_at_call 133; refine (truth_any _ _).mono ?_; rintro e w' ⟨rfl, rfl⟩)
  all_goals
    go_ret
    exact ⟨ret_int (by simp only [doN]; first | (rw [if_pos (by omega)]; rfl) | (rw [if_neg (by omega)]; rfl)), adds_box _ _⟩

/-! ### The map -/
theorem Adds.turn {w w1 w2 : World} {b : Nat} (h : Adds w w1) (hb : w.heap.size ≤ b) (g : w1.grownBy w2 (some b)) : Adds w w2 :=
  Below.grown h g h.size fun k hk => by cases hk; exact hb

def recF : Nat → FuncId
  | 1 => 120 | 2 => 121 | 3 => 122 | 4 => 123 | 5 => 124 | 6 => 125
  | 7 => 126 | 8 => 127 | 9 => 128 | 10 => 130 | 11 => 132 | 12 => 134
  | _ => 0
/-- How an element of the map reads: by the number of its function. -/
def funElem : Value → Option (DataW Unit × List MemPlace)
  | .func (.func f) first captured => if first.size = 0 ∧ captured.size = 0 then some (.lit (.int .u64 f), []) else none
  | .nilFunc => some (.nil, [])
  | _ => none
theorem funElem_inv {v : Value} {f : Nat} {ps : List MemPlace} (h : funElem v = some (.lit (.int .u64 f), ps)) : v = .func (.func f) #[] #[] := by
  unfold funElem at h
  split at h
  · split at h
    · rename_i hc
      simp at h
      obtain ⟨h, _⟩ := h
      rw [Array.eq_empty_of_size_eq_zero hc.1, Array.eq_empty_of_size_eq_zero hc.2, Int.ofNat.inj h]
    · simp at h
  · simp at h
  · simp at h
theorem funElem_nil {v : Value} {ps : List MemPlace} (h : funElem v = some (.nil, ps)) : v = .nilFunc := by
  unfold funElem at h
  split at h
  · split at h
    · simp at h
    · simp at h
  · rfl
  · simp at h
def recD : Nat → DataW Unit
  | 0 => .map []
  | n + 1 => (recD n).put (.int .i64 (n + 1 : Nat)) (.lit (.int .u64 (recF (n + 1))))
theorem karith : Maps.Keyed Tryz.prog 137 := Maps.int_keyed Tryz.underlying137
theorem zeroFun (w : World) : (zeroValue 152).run Tryz.prog w = .ok .nilFunc w := by kernel_rfl
abbrev RecM (w : World) (b n : Nat) : Prop := w.ownsMap Tryz.prog 137 funElem b n (recD n)

theorem wpList_insert_own {P : Program} (w : World) {ops : Array Oper} {rest : List Oper} {o : Oper} {a : Act} {Q : Exit → Act → World → Prop}
    (hg : o.guard = none) (m x v : Operand) (t : TypeId) (hop : o.op = Op.insert t m x v)
    (k e : TypeId) (K : Maps.Keyed P k) (ht : P.underlying t = some (.map k e)) (R : Value → Option (DataW Unit × List MemPlace)) (b n : Nat) (D : DataW Unit)
    (hm : a.eval m = .map (some b)) (hown : w.ownsMap P k R b n D) (hn : n < maxLen) (key val : Value) (kl : Lit) (hx : a.eval x = key) (hv : a.eval v = val) (hkey : keyOf P k key = some kl)
    (d : DataW Unit) (ps : List MemPlace) (hval : R val = some (d, ps))
    (hK : ∀ w', w'.ownsMap P k R b (n + 1) (D.put kl d) → w.grownBy w' (some b) → wpList P ops Q rest (a.put o.dst undef) w') :
    wpList P ops Q (o :: rest) a w := by
  refine wpList_plain hg fun K' hK' => ?_
  obtain ⟨w', hrun, r1, r2⟩ := hown.update K ht hn hkey hval
  unfold Oper.wp
  simp [execOp, hop, hm, hx, hv, hrun, Result.andThen]
  exact hK' _ _ (hK w' r1 r2)

def MapPost (w : World) (e : Ending) (w' : World) : Prop := ∃ b, e = .returned (.map (some b)) ∧ w.heap.size ≤ b ∧ RecM w' b 12 ∧ Adds w w'
set_option maxRecDepth 100000 in
theorem reckonings_any (w : World) : Calls Tryz.prog 113 #[] w (MapPost w) := by
  have hmm := @run_makeMap Tryz.prog
  have O0 := Lib.hid (show RecM (w.alloc (.map #[] 0)) w.heap.size 0 from World.ownsMap_made _ _ _ _)
  have G := Lib.hid (show Adds w (w.alloc (.map #[] 0)) from adds_box _ _)
  go_enter Tryz.func113, Tryz.ntmps113
  go_wp2_with (first
    | (refine wpList_insert_own _ rfl _ _ _ 154 rfl 137 152 karith Tryz.underlying154 funElem w.heap.size 0 (recD 0) rfl O0.out (by decide) _ _ (.int .i64 1) rfl rfl (Maps.keyOf_int_mk Tryz.underlying137 (by decide)) (.lit (.int .u64 (recF 1))) [] rfl ?_; intro w1 own1 g1; have O1 := Lib.hid (show RecM w1 w.heap.size 1 from own1); clear own1 O0; have G := Lib.hid (G.out.turn (Nat.le_refl _) g1); clear g1)
    | (refine wpList_insert_own _ rfl _ _ _ 154 rfl 137 152 karith Tryz.underlying154 funElem w.heap.size 1 (recD 1) rfl O1.out (by decide) _ _ (.int .i64 2) rfl rfl (Maps.keyOf_int_mk Tryz.underlying137 (by decide)) (.lit (.int .u64 (recF 2))) [] rfl ?_; intro w2 own2 g2; have O2 := Lib.hid (show RecM w2 w.heap.size 2 from own2); clear own2 O1; have G := Lib.hid (G.out.turn (Nat.le_refl _) g2); clear g2)
    | (refine wpList_insert_own _ rfl _ _ _ 154 rfl 137 152 karith Tryz.underlying154 funElem w.heap.size 2 (recD 2) rfl O2.out (by decide) _ _ (.int .i64 3) rfl rfl (Maps.keyOf_int_mk Tryz.underlying137 (by decide)) (.lit (.int .u64 (recF 3))) [] rfl ?_; intro w3 own3 g3; have O3 := Lib.hid (show RecM w3 w.heap.size 3 from own3); clear own3 O2; have G := Lib.hid (G.out.turn (Nat.le_refl _) g3); clear g3)
    | (refine wpList_insert_own _ rfl _ _ _ 154 rfl 137 152 karith Tryz.underlying154 funElem w.heap.size 3 (recD 3) rfl O3.out (by decide) _ _ (.int .i64 4) rfl rfl (Maps.keyOf_int_mk Tryz.underlying137 (by decide)) (.lit (.int .u64 (recF 4))) [] rfl ?_; intro w4 own4 g4; have O4 := Lib.hid (show RecM w4 w.heap.size 4 from own4); clear own4 O3; have G := Lib.hid (G.out.turn (Nat.le_refl _) g4); clear g4)
    | (refine wpList_insert_own _ rfl _ _ _ 154 rfl 137 152 karith Tryz.underlying154 funElem w.heap.size 4 (recD 4) rfl O4.out (by decide) _ _ (.int .i64 5) rfl rfl (Maps.keyOf_int_mk Tryz.underlying137 (by decide)) (.lit (.int .u64 (recF 5))) [] rfl ?_; intro w5 own5 g5; have O5 := Lib.hid (show RecM w5 w.heap.size 5 from own5); clear own5 O4; have G := Lib.hid (G.out.turn (Nat.le_refl _) g5); clear g5)
    | (refine wpList_insert_own _ rfl _ _ _ 154 rfl 137 152 karith Tryz.underlying154 funElem w.heap.size 5 (recD 5) rfl O5.out (by decide) _ _ (.int .i64 6) rfl rfl (Maps.keyOf_int_mk Tryz.underlying137 (by decide)) (.lit (.int .u64 (recF 6))) [] rfl ?_; intro w6 own6 g6; have O6 := Lib.hid (show RecM w6 w.heap.size 6 from own6); clear own6 O5; have G := Lib.hid (G.out.turn (Nat.le_refl _) g6); clear g6)
    | (refine wpList_insert_own _ rfl _ _ _ 154 rfl 137 152 karith Tryz.underlying154 funElem w.heap.size 6 (recD 6) rfl O6.out (by decide) _ _ (.int .i64 7) rfl rfl (Maps.keyOf_int_mk Tryz.underlying137 (by decide)) (.lit (.int .u64 (recF 7))) [] rfl ?_; intro w7 own7 g7; have O7 := Lib.hid (show RecM w7 w.heap.size 7 from own7); clear own7 O6; have G := Lib.hid (G.out.turn (Nat.le_refl _) g7); clear g7)
    | (refine wpList_insert_own _ rfl _ _ _ 154 rfl 137 152 karith Tryz.underlying154 funElem w.heap.size 7 (recD 7) rfl O7.out (by decide) _ _ (.int .i64 8) rfl rfl (Maps.keyOf_int_mk Tryz.underlying137 (by decide)) (.lit (.int .u64 (recF 8))) [] rfl ?_; intro w8 own8 g8; have O8 := Lib.hid (show RecM w8 w.heap.size 8 from own8); clear own8 O7; have G := Lib.hid (G.out.turn (Nat.le_refl _) g8); clear g8)
    | (refine wpList_insert_own _ rfl _ _ _ 154 rfl 137 152 karith Tryz.underlying154 funElem w.heap.size 8 (recD 8) rfl O8.out (by decide) _ _ (.int .i64 9) rfl rfl (Maps.keyOf_int_mk Tryz.underlying137 (by decide)) (.lit (.int .u64 (recF 9))) [] rfl ?_; intro w9 own9 g9; have O9 := Lib.hid (show RecM w9 w.heap.size 9 from own9); clear own9 O8; have G := Lib.hid (G.out.turn (Nat.le_refl _) g9); clear g9)
    | (refine wpList_insert_own _ rfl _ _ _ 154 rfl 137 152 karith Tryz.underlying154 funElem w.heap.size 9 (recD 9) rfl O9.out (by decide) _ _ (.int .i64 10) rfl rfl (Maps.keyOf_int_mk Tryz.underlying137 (by decide)) (.lit (.int .u64 (recF 10))) [] rfl ?_; intro w10 own10 g10; have O10 := Lib.hid (show RecM w10 w.heap.size 10 from own10); clear own10 O9; have G := Lib.hid (G.out.turn (Nat.le_refl _) g10); clear g10)
    | (refine wpList_insert_own _ rfl _ _ _ 154 rfl 137 152 karith Tryz.underlying154 funElem w.heap.size 10 (recD 10) rfl O10.out (by decide) _ _ (.int .i64 11) rfl rfl (Maps.keyOf_int_mk Tryz.underlying137 (by decide)) (.lit (.int .u64 (recF 11))) [] rfl ?_; intro w11 own11 g11; have O11 := Lib.hid (show RecM w11 w.heap.size 11 from own11); clear own11 O10; have G := Lib.hid (G.out.turn (Nat.le_refl _) g11); clear g11)
    | (refine wpList_insert_own _ rfl _ _ _ 154 rfl 137 152 karith Tryz.underlying154 funElem w.heap.size 11 (recD 11) rfl O11.out (by decide) _ _ (.int .i64 12) rfl rfl (Maps.keyOf_int_mk Tryz.underlying137 (by decide)) (.lit (.int .u64 (recF 12))) [] rfl ?_; intro w12 own12 g12; have O12 := Lib.hid (show RecM w12 w.heap.size 12 from own12); clear own12 O11; have G := Lib.hid (G.out.turn (Nat.le_refl _) g12); clear g12))
  go_ret
  exact ⟨_, rfl, Nat.le_refl _, O12.out, G.out⟩

theorem kindA_any (k a b : Nat) (h1 : 1 ≤ k) (h12 : k ≤ 12) (ha : a < 4294967296) (hb : b < 4294967296) (hz : byNone k b = false) (w : World) :
    Calls Tryz.prog (recF k) #[pairV a b] w (PairPost (doN k a b) w) := by
  match k, h1, h12 with
  | 1, _, _ => exact kind1_any a b ha hb hz w
  | 2, _, _ => exact kind2_any a b ha hb hz w
  | 3, _, _ => exact kind3_any a b ha hb hz w
  | 4, _, _ => exact kind4_any a b ha hb hz w
  | 5, _, _ => exact kind5_any a b ha hb hz w
  | 6, _, _ => exact kind6_any a b ha hb hz w
  | 7, _, _ => exact kind7_any a b ha hb hz w
  | 8, _, _ => exact kind8_any a b ha hb hz w
  | 9, _, _ => exact kind9_any a b ha hb hz w
  | 10, _, _ => exact kind10_any a b ha hb hz w
  | 11, _, _ => exact kind11_any a b ha hb hz w
  | 12, _, _ => exact kind12_any a b ha hb hz w

theorem recD_list : recD 12 = .map ((List.range 12).map fun i => (.int .i64 (i + 1 : Nat), .lit (.int .u64 (recF (i + 1))))) := by kernel_rfl
theorem wf_kind (k : Nat) (h1 : 1 ≤ k) (h12 : k ≤ 12) : (Lit.int .i64 (k : Int)).wf = true := by
  match k, h1, h12 with
  | 1, _, _ => decide
  | 2, _, _ => decide
  | 3, _, _ => decide
  | 4, _, _ => decide
  | 5, _, _ => decide
  | 6, _, _ => decide
  | 7, _, _ => decide
  | 8, _, _ => decide
  | 9, _, _ => decide
  | 10, _, _ => decide
  | 11, _, _ => decide
  | 12, _, _ => decide

theorem has_kind (k : Nat) (h1 : 1 ≤ k) (h12 : k ≤ 12) : Maps.has (recD 12) (.int .i64 k) = true := by
  match k, h1, h12 with
  | 1, _, _ => show _ = _; kernel_rfl
  | 2, _, _ => show _ = _; kernel_rfl
  | 3, _, _ => show _ = _; kernel_rfl
  | 4, _, _ => show _ = _; kernel_rfl
  | 5, _, _ => show _ = _; kernel_rfl
  | 6, _, _ => show _ = _; kernel_rfl
  | 7, _, _ => show _ = _; kernel_rfl
  | 8, _, _ => show _ = _; kernel_rfl
  | 9, _, _ => show _ = _; kernel_rfl
  | 10, _, _ => show _ = _; kernel_rfl
  | 11, _, _ => show _ = _; kernel_rfl
  | 12, _, _ => show _ = _; kernel_rfl

theorem at_kind (k : Nat) (h1 : 1 ≤ k) (h12 : k ≤ 12) : (recD 12).atKey (.int .i64 k) .nil = .lit (.int .u64 (recF k)) := by
  match k, h1, h12 with
  | 1, _, _ => show _ = _; kernel_rfl
  | 2, _, _ => show _ = _; kernel_rfl
  | 3, _, _ => show _ = _; kernel_rfl
  | 4, _, _ => show _ = _; kernel_rfl
  | 5, _, _ => show _ = _; kernel_rfl
  | 6, _, _ => show _ = _; kernel_rfl
  | 7, _, _ => show _ = _; kernel_rfl
  | 8, _, _ => show _ = _; kernel_rfl
  | 9, _, _ => show _ = _; kernel_rfl
  | 10, _, _ => show _ = _; kernel_rfl
  | 11, _, _ => show _ = _; kernel_rfl
  | 12, _, _ => show _ = _; kernel_rfl

theorem look_kind (k : Nat) (h1 : 1 ≤ k) (h12 : k ≤ 12) (b : Nat) (w : World) (h : RecM w b 12) :
    (Instr.lookup 154 (.map (some b)) (.int .i64 k) true).run Tryz.prog w = .ok (.tuple #[.func (.func (recF k)) #[] #[], .bool true]) w := by
  obtain ⟨v, ps, hr, hv⟩ := h.look_ok karith Tryz.underlying154 (zeroFun w) (zd := .nil) (zp := []) rfl (Maps.keyOf_int_mk Tryz.underlying137 (wf_kind k h1 h12))
  rw [at_kind k h1 h12] at hv
  rw [funElem_inv hv, has_kind k h1 h12] at hr
  exact hr
theorem none_kind (x : Int) (hk : ¬ (1 ≤ x ∧ x ≤ 12)) : Maps.has (recD 12) (.int .i64 x) = false ∧ (recD 12).atKey (.int .i64 x) .nil = .nil := by
  have hne : ∀ i : Nat, i < 12 → ((Lit.int .i64 ((i + 1 : Nat) : Int)).sameKey (.int .i64 x)) = false := by
    intro i hi
    have : ¬ ((i : Int) + 1 = x) := by omega
    simp [Lit.sameKey, this]
  have e1 : Maps.has (recD 12) (.int .i64 x) = false := by
    rw [recD_list, Maps.has_eq, List.any_eq_false]
    intro p hp
    obtain ⟨i, hi, rfl⟩ := List.mem_map.1 hp
    rw [hne i (List.mem_range.1 hi)]; simp
  exact ⟨e1, Maps.atKey_of_not_has e1 _⟩
theorem look_none (x : Int) (hx : (Lit.int .i64 x).wf = true) (hk : ¬ (1 ≤ x ∧ x ≤ 12)) (b : Nat) (w : World) (h : RecM w b 12) :
    (Instr.lookup 154 (.map (some b)) (.int .i64 x) true).run Tryz.prog w = .ok (.tuple #[.nilFunc, .bool false]) w := by
  obtain ⟨v, ps, hr, hv⟩ := h.look_ok karith Tryz.underlying154 (zeroFun w) (zd := .nil) (zp := []) rfl (Maps.keyOf_int_mk Tryz.underlying137 (a := x) hx)
  obtain ⟨e1, e2⟩ := none_kind x hk
  rw [e2] at hv
  rw [funElem_nil hv, e1] at hr
  exact hr
end Go.Proofs.YtdkgehhlikaocaaGreat
namespace Go.Proofs.YtdkgehhlikaocaaGreat
open Go Go.RowKit

theorem adds_cell {w w' : World} (h : Adds w w') {b o : Nat} {v : Value} (hc : w.cell? ⟨b, o, none⟩ = some v) : w'.cell? ⟨b, o, none⟩ = some v :=
  (h.cell (p := ⟨b, o, none⟩) (World.block_lt_of_cell? w _ hc)).trans hc

def cellV (b : UInt32) : Value := .int .u32 (b.toNat : Nat)

/-- v is a slice whose words read l in w; they lie in blocks below n. -/
def Cells32 (n : Nat) (w : World) (v : Value) (l : List UInt32) : Prop :=
  ∃ ao cap, v = .slice ao l.length cap ∧ l.length ≤ cap ∧ cap ≤ maxLen ∧
    (l ≠ [] → ∃ b off, ao = some ⟨b, off, none⟩ ∧ b < n ∧ ∀ i, i < l.length → w.cell? ⟨b, off + i, none⟩ = some (cellV (l.getD i 0)))

theorem Cells32.below {n : Nat} {w w' : World} {v : Value} {l : List UInt32} (h : Cells32 n w v l) (hb : Below n w w') : Cells32 n w' v l := by
  obtain ⟨ao, cap, rfl, h1, h2, h3⟩ := h
  refine ⟨ao, cap, rfl, h1, h2, fun hl => ?_⟩
  obtain ⟨b, off, e, hbn, hc⟩ := h3 hl
  exact ⟨b, off, e, hbn, fun i hi => (hb.cell (p := ⟨b, off + i, none⟩) hbn).trans (hc i hi)⟩
theorem Cells32.mono {n m : Nat} {w : World} {v : Value} {l : List UInt32} (h : Cells32 n w v l) (hm : n ≤ m) : Cells32 m w v l := by
  obtain ⟨ao, cap, rfl, h1, h2, h3⟩ := h
  refine ⟨ao, cap, rfl, h1, h2, fun hl => ?_⟩
  obtain ⟨b, off, e, hbn, hc⟩ := h3 hl
  exact ⟨b, off, e, by omega, hc⟩
/-- The blocks are those that are there. -/
theorem Cells32.here {n : Nat} {w : World} {v : Value} {l : List UInt32} (h : Cells32 n w v l) : Cells32 w.heap.size w v l := by
  obtain ⟨ao, cap, rfl, h1, h2, h3⟩ := h
  refine ⟨ao, cap, rfl, h1, h2, fun hl => ?_⟩
  obtain ⟨b, off, e, hbn, hc⟩ := h3 hl
  exact ⟨b, off, e, World.block_lt_of_cell? w _ (hc 0 (List.length_pos_iff.2 hl)), hc⟩
theorem Cells32.nil {n : Nat} (w : World) : Cells32 n w (.slice none 0 0) [] := ⟨none, 0, rfl, by simp, by simp, fun h => absurd rfl h⟩

theorem Cells32.adds {w w' : World} {v : Value} {l : List UInt32} (h : Cells32 w.heap.size w v l) (ha : Adds w w') : Cells32 w'.heap.size w' v l := (h.below ha).here
theorem cells32_adds {n : Nat} {w w' : World} {v : Value} {l : List UInt32} (h : Cells32 n w v l) (ha : Adds w w') : Cells32 w'.heap.size w' v l := h.here.adds ha

theorem Cells32.len {n : Nat} {w : World} {ao : Option Addr} {len cap : Nat} {l : List UInt32} (h : Cells32 n w (.slice ao len cap) l) : len = l.length ∧ l.length ≤ cap ∧ cap ≤ 9223372036854775807 := by
  obtain ⟨_, _, e, h1, h2, _⟩ := h
  cases e
  exact ⟨rfl, h1, h2⟩

theorem cells32_lit (w : World) (l : List UInt32) (hl : l.length ≤ maxLen) : Cells32 (w.heap.size + 1) (w.alloc (.cells (l.map cellV).toArray 30)) (.slice (some ⟨w.heap.size, 0, none⟩) l.length l.length) l := by
  refine ⟨_, _, rfl, Nat.le_refl _, hl, fun _ => ⟨w.heap.size, 0, rfl, by omega, fun i hi => ?_⟩⟩
  rw [cell_of_row _ w.heap.size (0 + i) _ _ _ (heap_alloc_new w _)]
  simp [hi]
end Go.Proofs.YtdkgehhlikaocaaGreat
namespace Go.Proofs.YtdkgehhlikaocaaGreat
open Go Go.RowKit

theorem divides_any (k a b : Nat) (hk : k ≤ 12) (hb : b < 4294967296) (w : World) :
    Calls Tryz.prog 116 #[pairV a b, .int .i64 k] w fun e w' => e = .returned (.bool (byNone k b)) ∧ Adds w w' := by
  unfold pairV byNone
  by_cases h0 : b = 0
  · subst h0
    by_cases h4 : k = 4
    · subst h4
      go_enter Tryz.func116, Tryz.ntmps116
      go_wp2
      go_ret
      exact ⟨rfl, adds_box _ _⟩
    · by_cases h5 : k = 5
      · subst h5
        go_enter Tryz.func116, Tryz.ntmps116
        go_wp2
        go_ret
        exact ⟨rfl, adds_box _ _⟩
      · have e4 : ((k : Int) == 4) = false := by rw [beq_eq_false_iff_ne]; omega
        have e5 : ((k : Int) == 5) = false := by rw [beq_eq_false_iff_ne]; omega
        go_enter Tryz.func116, Tryz.ntmps116
        go_wp2
        go_ret
        exact ⟨ret_bool (by simp [h4, h5]), adds_box _ _⟩
  · have e0 : ((b : Int) == 0) = false := by rw [beq_eq_false_iff_ne]; omega
    go_enter Tryz.func116, Tryz.ntmps116
    go_wp2
    go_ret
    exact ⟨ret_bool (by simp [h0]), adds_box _ _⟩

theorem enter_kind (k : Nat) (h1 : 1 ≤ k) (h12 : k ≤ 12) (v : Value) (w : World) : (callFunc (recF k) #[v]).run Tryz.prog w = .ok (.enter (recF k) #[v]) w := by
  match k, h1, h12 with
  | 1, _, _ => exact enters_of Tryz.func120 (by kernel_rfl) rfl _ _
  | 2, _, _ => exact enters_of Tryz.func121 (by kernel_rfl) rfl _ _
  | 3, _, _ => exact enters_of Tryz.func122 (by kernel_rfl) rfl _ _
  | 4, _, _ => exact enters_of Tryz.func123 (by kernel_rfl) rfl _ _
  | 5, _, _ => exact enters_of Tryz.func124 (by kernel_rfl) rfl _ _
  | 6, _, _ => exact enters_of Tryz.func125 (by kernel_rfl) rfl _ _
  | 7, _, _ => exact enters_of Tryz.func126 (by kernel_rfl) rfl _ _
  | 8, _, _ => exact enters_of Tryz.func127 (by kernel_rfl) rfl _ _
  | 9, _, _ => exact enters_of Tryz.func128 (by kernel_rfl) rfl _ _
  | 10, _, _ => exact enters_of Tryz.func130 (by kernel_rfl) rfl _ _
  | 11, _, _ => exact enters_of Tryz.func132 (by kernel_rfl) rfl _ _
  | 12, _, _ => exact enters_of Tryz.func134 (by kernel_rfl) rfl _ _

/-- What the closure answers. -/
def takeN (k a b : Nat) : Nat := if byNone k b then 0 else doN k a b
def takeE (k b : Nat) : Int := if byNone k b then 150 else 0
set_option maxRecDepth 100000 in
theorem take_it (k a b : Nat) (h1 : 1 ≤ k) (h12 : k ≤ 12) (ha : a < 4294967296) (hb : b < 4294967296) (b3 b9 : Nat) (w : World) (h3 : w.cell? ⟨b3, 0, none⟩ = some (.int .i64 k)) (h9 : w.cell? ⟨b9, 0, none⟩ = some (.func (.func (recF k)) #[] #[])) :
    Calls Tryz.prog 115 #[.int .u32 a, .int .u32 b, .pointer (some ⟨b3, 0, none⟩), .pointer (some ⟨b9, 0, none⟩)] w
      fun e w' => e = .returned (.tuple #[.int .u32 (takeN k a b : Nat), .int .i64 (takeE k b)]) ∧ Adds w w' := by
  have HD := Lib.hid (fun W => divides_any k a b h12 hb W)
  have A0 := Lib.hid (adds_box w (.cells #[.int .u32 a, .int .u32 b] 159))
  have h3a := adds_cell A0.out h3
  have H9 := Lib.hid (adds_cell A0.out h9)
  have HB0 := Lib.hid (cell_of_row _ w.heap.size 0 _ _ _ (heap_alloc_new w (.cells #[.int .u32 a, .int .u32 b] 159)))
  have HB1 := Lib.hid (cell_of_row _ w.heap.size 1 _ _ _ (heap_alloc_new w (.cells #[.int .u32 a, .int .u32 b] 159)))
  clear h3 h9
  unfold takeN takeE
  cases hz : byNone k b with
  | true =>
    rw [hz] at HD
    go_enter Tryz.func115, Tryz.ntmps115
    go_wp2
    refine wp_scope_fwd 0 rfl ?_
    go_wp2_with (go_at_call 116; refine (HD.out _).mono ?_; rintro e w1 ⟨rfl, a1⟩; have A1 := Lib.hid a1; clear a1)
    go_step3
    refine ⟨rfl, ?_⟩
    go_wp2
    rw [Exit.noGoto_ret]
    go_ret2
    exact ⟨rfl, A0.out.trans A1.out⟩
  | false =>
    rw [hz] at HD
    have hcf := enter_kind k h1 h12
    have HK := Lib.hid (fun W => kindA_any k a b h1 h12 ha hb hz W)
    go_enter Tryz.func115, Tryz.ntmps115
    go_wp2
    refine wp_scope_fwd 0 rfl ?_
    go_wp2_with (go_at_call 116; refine (HD.out _).mono ?_; rintro e w1 ⟨rfl, a1⟩; have c0 := adds_cell a1 HB0.out; have c1 := adds_cell a1 HB1.out; have h9 := adds_cell a1 H9.out; have A1 := Lib.hid a1; clear a1)
    refine (HK.out _).mono ?_
    rintro e w2 ⟨rfl, a2⟩
    have A2 := Lib.hid a2; clear a2
    go_wp2
    simp only [Exit.jump]
    go_ret2
    exact ⟨rfl, A0.out.trans (A1.out.trans A2.out)⟩

/-- What several words come to: the last word, how many were taken, an error. -/
def foldN (k : Nat) : Nat → List UInt32 → Nat × Nat × Int
  | a, [] => (a, 0, 0)
  | a, b :: l => if byNone k b.toNat then (a, 0, 150) else ((foldN k (doN k a b.toNat) l).1, (foldN k (doN k a b.toNat) l).2.1 + 1, (foldN k (doN k a b.toNat) l).2.2)
theorem foldN_at (k so : Nat) (l : List UInt32) (i : Nat) (h : i < l.length) : foldN k so (l.drop i) = if byNone k (l.getD i 0).toNat then (so, 0, 150) else
    ((foldN k (doN k so (l.getD i 0).toNat) (l.drop (i + 1))).1, (foldN k (doN k so (l.getD i 0).toNat) (l.drop (i + 1))).2.1 + 1, (foldN k (doN k so (l.getD i 0).toNat) (l.drop (i + 1))).2.2) := by
  rw [List.drop_eq_getElem_cons h, foldN]
  simp [h]
theorem foldN_end (k so : Nat) (l : List UInt32) (i : Nat) (h : ¬ i < l.length) : foldN k so (l.drop i) = (so, 0, 0) := by
  rw [List.drop_eq_nil_of_le (by omega), foldN]
/-- So far: the word that is left, and how many were taken. -/
def SoFar (k a : Nat) (l : List UInt32) (i so : Nat) : Prop := i ≤ l.length ∧ so < 4294967296 ∧ foldN k a l = ((foldN k so (l.drop i)).1, (foldN k so (l.drop i)).2.1 + i, (foldN k so (l.drop i)).2.2)
theorem SoFar.start (k a : Nat) (l : List UInt32) (ha : a < 4294967296) : SoFar k a l 0 a := ⟨Nat.zero_le _, ha, by simp⟩
theorem SoFar.next {k a : Nat} {l : List UInt32} {i so : Nat} (h : SoFar k a l i so) (hi : i < l.length) (hz : byNone k (l.getD i 0).toNat = false) : SoFar k a l (i + 1) (doN k so (l.getD i 0).toNat) := by
  obtain ⟨_, h2, h3⟩ := h
  refine ⟨hi, doN_lt h2 (l.getD i 0).toNat_lt hz, ?_⟩
  rw [h3, foldN_at k so l i hi, hz]
  simp
  omega
theorem SoFar.refused {k a : Nat} {l : List UInt32} {i so : Nat} (h : SoFar k a l i so) (hi : i < l.length) (hz : byNone k (l.getD i 0).toNat = true) : foldN k a l = (so, i, 150) := by
  rw [h.2.2, foldN_at k so l i hi, hz]
  simp
theorem SoFar.done {k a : Nat} {l : List UInt32} {i so : Nat} (h : SoFar k a l i so) (hi : ¬ i < l.length) : foldN k a l = (so, l.length, 0) := by
  have := h.1
  rw [h.2.2, foldN_end k so l i hi]
  simp
  omega
def FoldPost (r : Nat × Nat × Int) (w : World) (e : Ending) (w' : World) : Prop := e = .returned (.tuple #[.int .u32 r.1, .int .i64 r.2.1, .int .i64 r.2.2]) ∧ Adds w w'

set_option maxRecDepth 100000 in
theorem fold_it (k a : Nat) (h1 : 1 ≤ k) (h12 : k ≤ 12) (ha : a < 4294967296) {n : Nat} (v : Value) (l : List UInt32) (b3 b9 : Nat) (w : World) (hv : Cells32 n w v l) (h3 : w.cell? ⟨b3, 0, none⟩ = some (.int .i64 k)) (h9 : w.cell? ⟨b9, 0, none⟩ = some (.func (.func (recF k)) #[] #[])) :
    Calls Tryz.prog 114 #[.int .u32 a, v, .func (.func 115) #[] #[.pointer (some ⟨b3, 0, none⟩), .pointer (some ⟨b9, 0, none⟩)]] w (FoldPost (foldN k a l) w) := by
  have HT := Lib.hid (fun a b ha hb W (h : Adds w W) => take_it k a b h1 h12 ha hb b3 b9 W (adds_cell h h3) (adds_cell h h9))
  have HV := Lib.hid hv; clear hv h3 h9
  obtain ⟨ao, cap, rfl, hc1, hc2, _⟩ := id HV.out
  have HS := Lib.hid (SoFar.start k a l ha); clear ha
  unfold maxLen at hc2
  go_enter Tryz.func114, Tryz.ntmps114
  go_wp2_with fail
  go_loopw [0, 9, 10, 11, 12, 15] (fun s _ _ _ _ i wr => ∃ m so : Nat, s = .int .u32 so ∧ i = .int .i64 m ∧ SoFar k a l m so ∧ Adds w wr) (fun _ _ _ _ _ i _ => l.length - (intOf i).toNat)
  case atStart => exact ⟨0, a, rfl, rfl, HS.out, Adds.refl _⟩
  case round =>
    obtain ⟨m, so, rfl, rfl, hso, har⟩ := hrel
    have HSO := Lib.hid hso
    have HA := Lib.hid har
    have hso32 := hso.2.1
    clear hso har
    by_cases hlt : m < l.length
    · obtain ⟨_, _, e, _, _, hh3⟩ := cells32_adds HV.out HA.out
      cases e
      obtain ⟨b1, off, rfl, _, hcs⟩ := hh3 (by rintro rfl; simp at hlt)
      have hcell := hcs m hlt
      unfold cellV at hcell
      clear hcs hh3
      have HN := Lib.hid (fun hz => HSO.out.next hlt hz)
      have HR := Lib.hid (fun hz => HSO.out.refused hlt hz)
      have hx32 := (l.getD m 0).toNat_lt
      obtain ⟨x, hx⟩ : ∃ x, (l.getD m 0).toNat = x := ⟨_, rfl⟩
      rw [hx] at HN HR hcell hx32
      clear hx
      have HC := Lib.hid (HT.out so x hso32 hx32 wr HA.out)
      unfold takeN takeE at HC
      cases hz : byNone k x with
      | true =>
        rw [hz] at HC
        go_wp2_with (go_at_call 115; refine HC.out.mono ?_; rintro e w2 ⟨rfl, a2⟩; have A2 := Lib.hid a2; clear a2)
        go_ret3
        exact ⟨by rw [HR.out hz]; rfl, HA.out.trans A2.out⟩
      | false =>
        rw [hz] at HC
        go_wp2_with (go_at_call 115; refine HC.out.mono ?_; rintro e w2 ⟨rfl, a2⟩; have A2 := Lib.hid a2; clear a2)
        go_roundw
        case rel => exact ⟨m + 1, doN k so x, rfl, by go_num, HN.out hz, HA.out.trans A2.out⟩
        case measure => simp [intOf]; omega
    · have HD := Lib.hid (HSO.out.done hlt)
      go_wp2_with fail
      go_ret3
      exact ⟨by rw [HD.out]; rfl, HA.out⟩

end Go.Proofs.YtdkgehhlikaocaaGreat
