/- The document's Text of an instruction that may be: contract. (genH4.py wrote this.) -/
import Derived.Test.YtkodjmdghjcndaaGreatDoorIH3
namespace Go.Proofs.YtkodjmdghjcndaaGreatDoor
open Go Go.RowKit Go.Shelf

theorem str_appI (a b : List UInt8) : str a ++ str b = str (a ++ b) := by
  apply ByteArray.ext; simp [str]
/-- What a letter adds to a text. -/
def tokL (a b c i : Nat) (l : UInt8) : List UInt8 :=
  if l = 97 then 32 :: 114 :: Lib.decDigits a else if l = 98 then 32 :: 114 :: Lib.decDigits b else if l = 99 then 32 :: 114 :: Lib.decDigits c else if l = 110 then 32 :: Lib.decDigits c
  else if l = 105 then 32 :: Lib.decDigits i else if l = 102 then 32 :: 102 :: Lib.decDigits i else []
theorem lett_mem (op : Nat) (h1 : 1 ≤ op) (h2 : op ≤ 19) : ∀ l ∈ lettN op, l = 97 ∨ l = 98 ∨ l = 99 ∨ l = 110 ∨ l = 105 ∨ l = 102 ∨ l = 107 := by
  have h : ∀ k : Fin 20, k.val ≠ 0 → ∀ l ∈ lettN k.val, l = 97 ∨ l = 98 ∨ l = 99 ∨ l = 110 ∨ l = 105 ∨ l = 102 ∨ l = 107 := by decide
  exact h ⟨op, by omega⟩ (by show op ≠ 0; omega)
theorem lett_len (op : Nat) (h1 : 1 ≤ op) (h2 : op ≤ 19) : (lettN op).length ≤ 4 := by
  have h : ∀ k : Fin 20, (lettN k.val).length ≤ 4 := by decide
  exact h ⟨op, by omega⟩
/-- The numbers of one that may be. -/
theorem may_nums {x : In} (h : mayI x = true) : ∃ op a b c i : Nat, x = ((op : Int), (a : Int), (b : Int), (c : Int), (i : Int)) ∧ 1 ≤ op ∧ op ≤ 19 ∧ a < 256 ∧ b < 256 ∧ c < 256 ∧ i < 4294967296 ∧ (op = 3 → 1 ≤ i ∧ i ≤ 12) := by
  obtain ⟨op, hop, h1, h2, hl⟩ := mayI_op h
  obtain ⟨o, a, b, c, i⟩ := x
  obtain rfl : o = op := hop
  have key : 0 ≤ a ∧ a < 256 ∧ 0 ≤ b ∧ b < 256 ∧ 0 ≤ c ∧ c < 256 ∧ 0 ≤ i ∧ i < 4294967296 ∧ (op = 3 → 1 ≤ i ∧ i ≤ 12) := by
    match op, h1, h2 with
    | 1, _, _ | 2, _, _ | 3, _, _ | 4, _, _ | 5, _, _ | 6, _, _ | 7, _, _ | 8, _, _ | 9, _, _ | 10, _, _ | 11, _, _ | 12, _, _ | 13, _, _ | 14, _, _ | 15, _, _ | 16, _, _ | 17, _, _ | 18, _, _ | 19, _, _ =>
      simp [holdsL, partsN, holdsP, bare, putP, getP, loN, hiN] at hl
      omega
    | k + 20, _, h => exact absurd h (by omega)
  obtain ⟨k1, k2, k3, k4, k5, k6, k7, k8, k9⟩ := key
  refine ⟨op, a.toNat, b.toNat, c.toNat, i.toNat, ?_, h1, h2, by omega, by omega, by omega, by omega, fun h => by have := k9 h; omega⟩
  rw [show ((a.toNat : Nat) : Int) = a by omega, show ((b.toNat : Nat) : Int) = b by omega, show ((c.toNat : Nat) : Int) = c by omega, show ((i.toNat : Nat) : Int) = i by omega]
theorem text_flat {op a b c i : Nat} (h1 : 1 ≤ op) (h2 : op ≤ 19) : textI ((op : Int), (a : Int), (b : Int), (c : Int), (i : Int)) = firstI ((op : Int), (a : Int), (b : Int), (c : Int), (i : Int)) ++ (lettN op).flatMap (tokL a b c i) := by
  rw [textI_cons]
  congr 1
  match op, h1, h2 with
  | 1, _, _ | 2, _, _ | 3, _, _ | 4, _, _ | 5, _, _ | 6, _, _ | 7, _, _ | 8, _, _ | 9, _, _ | 10, _, _ | 11, _, _ | 12, _, _ | 13, _, _ | 14, _, _ | 15, _, _ | 16, _, _ | 17, _, _ | 18, _, _ | 19, _, _ =>
    simp [partsN, lettN, tokL, tokP, markN, getP]
  | k + 20, _, h => exact absurd h (by omega)
theorem nDigits_leI (k : Nat) : ∀ n, n < 10 ^ (k + 1) → Lib.nDigits n ≤ k + 1 := by
  induction k with
  | zero => intro n h; rw [Lib.nDigits, dif_pos (by omega)]; omega
  | succ k ih =>
    intro n h
    by_cases h10 : n < 10
    · rw [Lib.nDigits, dif_pos h10]; omega
    · rw [Lib.nDigits, dif_neg h10]
      have := ih (n / 10) (by rw [Nat.pow_succ] at h; omega)
      omega
theorem dec_le10 (n : Nat) (h : n < 4294967296) : (Lib.decDigits n).length ≤ 10 := by
  rw [Lib.decDigits_length]
  exact nDigits_leI 9 n (by omega)
theorem tok_len {a b c i : Nat} (ha : a < 256) (hb : b < 256) (hc : c < 256) (hi : i < 4294967296) (l : UInt8) : (tokL a b c i l).length ≤ 12 := by
  have h1 := dec_le10 a (by omega)
  have h2 := dec_le10 b (by omega)
  have h3 := dec_le10 c (by omega)
  have h4 := dec_le10 i hi
  unfold tokL
  repeat' split
  all_goals simp only [List.length_cons, List.length_nil]; omega
theorem flat_le {α β : Type} (f : α → List β) (k : Nat) (h : ∀ x, (f x).length ≤ k) : ∀ l : List α, (l.flatMap f).length ≤ l.length * k
  | [] => by simp
  | x :: l => by have := h x; have := flat_le f k h l; simp only [List.flatMap_cons, List.length_append, List.length_cons, Nat.add_mul]; omega
theorem first_len {x : In} (hm : mayI x = true) : (firstI x).length ≤ 7 := by
  have h1 : ∀ k : Fin 12, (nmB.getD k.val []).length ≤ 7 := by decide
  have h2 : ∀ k : Fin 20, (nmIB.getD k.val []).length ≤ 7 := by decide
  obtain ⟨op, a, b, c, i, rfl, o1, o2, _, _, _, _, h3⟩ := may_nums hm
  unfold firstI
  split
  · rename_i h
    simp only at h
    have := h3 (by omega)
    exact h1 ⟨((i : Int) - 1).toNat, by omega⟩
  · exact h2 ⟨op, by omega⟩
theorem tok_1 (L : List UInt8) (j : Nat) (a b c i : Nat) (l : UInt8) (h : L[j]? = some l) : (L.take (j + 1)).flatMap (tokL a b c i) = (L.take j).flatMap (tokL a b c i) ++ tokL a b c i l := by
  rw [List.take_add_one, h]
  simp
def sel2 (c : Bool) (v o : Value) : Value := cond c v o
theorem sel2_t (v o : Value) : sel2 true v o = v := rfl
/-- How region 4 of Text stands. -/
def RegT4 (_q b3 : Nat) (W0 : World) (l0 : Bool) (b fr : Act) (w : World) : Prop := b = fr ∧ Adds W0 w ∧ (l0 = true → ∀ i, i < 12 → w.cell? ⟨b3, i, none⟩ = some (nmV i))
theorem wp_calmI {P : Program} {c : Code} {Q : Exit → Act → World → Prop} {a : Act} {w : World} (h : c.wp P (Exit.then (Q .normal) (fun _ _ _ => False)) a w) : c.wp P Q a w :=
  Code.wp_mono (Q := Exit.then (Q .normal) (fun _ _ _ => False)) (fun e _ _ hq => by cases e <;> first | exact hq | exact hq.elim) h
set_option maxRecDepth 100000 in
set_option maxHeartbeats 8000000 in
theorem refText8 (x : In) (hm : mayI x = true) (w : World) (hv : IVars w) : Calls Tryz.prog 14 #[insV x] w fun e w' => e = .returned (.string (str (textI x))) ∧ Adds w w' := by
  have hfl := first_len hm
  obtain ⟨op, a, b, c, i, hx, o1, o2, ha, hb, hc, hi, h3⟩ := may_nums hm
  rw [hx, text_flat o1 o2]
  rw [hx] at hfl
  have hN0 := fun W => refNamesI_any op o1 o2 W
  have hfst : firstI ((op : Int), (a : Int), (b : Int), (c : Int), (i : Int)) = if op = 3 then nmB.getD (i - 1) [] else wdB (op - 1) := by
    unfold firstI wdB
    show (if (op : Int) = 3 then nmB.getD ((i : Int) - 1).toNat [] else nmIB.getD (op : Int).toNat []) = _
    by_cases h : op = 3
    · rw [if_pos (by omega), if_pos h, show ((i : Int) - 1).toNat = i - 1 by omega]
    · rw [if_neg (by omega), if_neg h, show (op : Int).toNat = op - 1 + 1 by omega]
  rw [hfst] at hfl ⊢
  clear hfst
  have HTL := Lib.hid (fun j => flat_le (tokL a b c i) 12 (tok_len ha hb hc hi) ((lettN op).take j))
  have HML := Lib.hid (lett_mem op o1 o2)
  have HLL := Lib.hid (lett_len op o1 o2)
  generalize lettN op = L at hN0 HTL HML HLL ⊢
  have HN := Lib.hid hN0
  have HV := Lib.hid hv
  have HIa := Lib.hid (fun W (h : Adds w W) => itoa8 a (by omega) W (hv.below h))
  have HIb := Lib.hid (fun W (h : Adds w W) => itoa8 b (by omega) W (hv.below h))
  have HIc := Lib.hid (fun W (h : Adds w W) => itoa8 c (by omega) W (hv.below h))
  have HIi := Lib.hid (fun W (h : Adds w W) => fmtU8 i (by omega) W (hv.below h))
  have hiI : (i : Int) < 4294967296 := by omega
  have ho1 : (1 : Int) ≤ (op : Int) := by omega
  have ho2 : (op : Int) ≤ 19 := by omega
  have hda := dec_le10 a (by omega)
  have hdb := dec_le10 b (by omega)
  have hdc := dec_le10 c (by omega)
  have hdi := dec_le10 i hi
  obtain ⟨da, hda'⟩ : ∃ d, Lib.decDigits a = d := ⟨_, rfl⟩
  obtain ⟨db, hdb'⟩ : ∃ d, Lib.decDigits b = d := ⟨_, rfl⟩
  obtain ⟨dc, hdc'⟩ : ∃ d, Lib.decDigits c = d := ⟨_, rfl⟩
  obtain ⟨di, hdi'⟩ : ∃ d, Lib.decDigits i = d := ⟨_, rfl⟩
  rw [hda'] at hda HIa
  rw [hdb'] at hdb HIb
  rw [hdc'] at hdc HIc
  rw [hdi'] at hdi HIi
  have HD := Lib.hid (And.intro hda (And.intro hdb (And.intro hdc hdi)))
  have HDe := Lib.hid (And.intro hda' (And.intro hdb' (And.intro hdc' hdi')))
  clear hda hdb hdc hdi hda' hdb' hdc' hdi' ha hb hc hi hx hN0 hm
  obtain ⟨o, ho⟩ : ∃ z : Int, (op : Int) = z := ⟨_, rfl⟩
  obtain ⟨ii, hii⟩ : ∃ z : Int, (i : Int) = z := ⟨_, rfl⟩
  rw [ho] at HN ho1 ho2
  rw [hii] at HIi hiI
  rw [ho, hii]
  obtain ⟨w1, hw1⟩ : ∃ w1, w.alloc (.cells (insC (o, (a : Int), (b : Int), (c : Int), ii)).toArray 25) = w1 := ⟨_, rfl⟩
  have A1 := Lib.hid (show Adds w w1 by rw [← hw1]; exact (Gr.new _ _).adds)
  have B1 := Lib.hid (show BkS 25 w1 w.heap.size (insC (o, (a : Int), (b : Int), (c : Int), ii)) by rw [← hw1]; exact BkS.new _ _ _)
  have e0 : w1.cell? ⟨w.heap.size, 0, none⟩ = some (.int .i64 o) := B1.out.cell 0
  suffices KEY : ∀ f : List UInt8, f.length ≤ 7 → (f = if op = 3 then nmB.getD (i - 1) [] else wdB (op - 1)) → Calls Tryz.prog 14 #[insV (o, (a : Int), (b : Int), (c : Int), ii)] w fun e w' => e = .returned (.string (str (f ++ L.flatMap (tokL a b c i)))) ∧ Adds w w' from KEY _ hfl rfl
  intro f hfl2 hfe
  clear hfl
  have HF := Lib.hid hfl2
  obtain ⟨k, hk⟩ : ∃ k, op = k + 1 := ⟨op - 1, by omega⟩
  have ek : o - 1 = (k : Int) := by omega
  have lk : (k : Int) < 19 := by omega
  have hii0 : (0 : Int) ≤ ii := by omega
  by_cases hk2 : k = 2
  · subst hk2
    rw [if_pos hk] at hfe
    obtain ⟨q, hq⟩ : ∃ q, i = q + 1 := ⟨i - 1, by have := h3 hk; omega⟩
    have hq12 : q < 12 := by have := h3 hk; omega
    rw [show i - 1 = q by omega] at hfe
    have HFe := Lib.hid hfe
    have HQ := Lib.hid hq12
    have eq : ii - 1 = (q : Int) := by omega
    have lq : (q : Int) < 12 := by omega
    have i33 : (o == 3) = true := by rw [beq_iff_eq]; omega
    have ek2 : o - 1 = 2 := by omega
    have lii : ii ≤ 12 := by omega
    have lii1 : 1 ≤ ii := by omega
    clear hfe hfl2 hq12 h3 ek lk hk hq ho hii
    go_enter Tryz.func14, Tryz.ntmps14
    go_wp2_with (go_at_call 41; refine (refWords8 _).mono ?_; rintro e w2 ⟨v2, rfl, ⟨b2, rfl, hc2⟩, q2⟩; have A2 := Lib.hid q2; have cw : w2.cell? ⟨b2, 2, none⟩ = some (.string (str (wdB 2))) := hc2 2 (by omega); clear hc2 q2)
    have f4 : w2.cell? ⟨w.heap.size, 4, none⟩ = some (.int .u32 ii) := (B1.out.adds A2.out).cell 4
    obtain ⟨nm2, hnm2⟩ : ∃ z, str (wdB 2) = z := ⟨_, rfl⟩
    obtain ⟨nmq, hnmq⟩ : ∃ z, str (nmB.getD q []) = z := ⟨_, rfl⟩
    have HNq := Lib.hid hnmq
    try rw [hnm2]
    have hmx : Tryz.prog.follows .mixedOrders = true := by kernel_rfl
    clear f4 cw hnm2 hnmq
    refine (wpIn_wide (n := 6)).1 ?_
    refine wpIn_region_inv (fun L bb wz => ∃ b3 : Nat, RegT4 q b3 w2 (L 0) bb ({ tmps := #[insV (o, (a : Int), (b : Int), (c : Int), ii), Value.pointer (some { block := w.heap.size, off := 0 }), Value.string { data := #[] }, Value.int IntKind.i64 o, sel2 (L 7) (Value.string nmq) (Value.string nm2), undef, undef, Value.pointer (some { block := w.heap.size, off := 0 }), Value.int IntKind.i64 o, Value.slice (some { block := b2, off := 0 }) 19 19, Value.int IntKind.i64 o, Value.int IntKind.i64 2, Value.pointer (some { block := b2, off := 2 }), Value.string nm2, Value.int IntKind.i64 o, Value.bool true, sel2 (L 0) (Value.slice (some { block := b3, off := 0 }) 12 12) (undef), sel2 (L 1) (Value.pointer (some { block := w.heap.size, off := 4 })) (undef), sel2 (L 2) (Value.int IntKind.u32 ii) (undef), sel2 (L 3) (Value.int IntKind.i64 ii) (undef), sel2 (L 4) (Value.int IntKind.i64 (q : Int)) (undef), sel2 (L 5) (Value.pointer (some { block := b3, off := q })) (undef), sel2 (L 6) (Value.string nmq) (undef), undef, undef, undef, undef, undef, undef, undef, undef, undef, undef, undef, undef, undef, undef, undef, undef, undef, undef, undef, undef, undef, undef, undef, undef, undef, undef, undef, undef, undef, undef, undef, undef, undef, undef, undef, undef, undef, undef, undef, undef, undef, undef, undef, undef, undef, undef, undef, undef, undef, undef, undef, undef, undef, undef, undef, undef, undef, undef, undef, undef, undef, undef], defers := [] }) wz) hmx (by kernel_rfl) ?inv0 ?step ?fin
    case inv0 => exact ⟨0, rfl, Adds.drew _, fun h => by cases h⟩
    case step =>
      rintro L bb wz i' op' hop hL hC he ⟨b3, rfl, hA, hF⟩
      have q5 := hC 5 _ rfl
      have q6 := hC 6 _ rfl
      simp [Region.binds] at q5 q6
      have HA := Lib.hid hA
      have HF3 := Lib.hid hF
      clear hA hF
      rcases i' with _ | _ | _ | _ | _ | _ | _ | _ | i'
      · simp only [List.getElem?_cons_zero, Option.some.injEq] at hop
        subst hop
        try simp [Region.binds] at he
        have z5 : L 5 = false := by cases h : L 5 with | false => rfl | true => (have hq := q5 h; simp [hL] at hq)
        clear q5 q6 hC
        gi_wp2_with (refine ⟨trivial, ?_⟩; gi_at_call 47; refine (callsIn_wide.2 (refNames_any _)).mono ?_; rintro e w3 ⟨v3, rfl, ⟨b4, rfl, _, hc3⟩, q3⟩; have A3 := Lib.hid (Adds.trans HA.out q3); have HC3 := Lib.hid hc3; clear hc3 q3)
        exact ⟨b4, by simp [sel2, *], A3.out, fun _ => HC3.out⟩
      · simp only [List.getElem?_cons_zero, List.getElem?_cons_succ, Option.some.injEq] at hop
        subst hop
        try simp [Region.binds] at he
        clear q5 q6 hC
        gi_wp2
        exact ⟨b3, by simp [sel2, *], HA.out, fun h => HF3.out (by first | exact h | simpa using h | simp [he])⟩
      · simp only [List.getElem?_cons_zero, List.getElem?_cons_succ, Option.some.injEq] at hop
        subst hop
        try simp [Region.binds] at he
        have f4 : wz.cell? ⟨w.heap.size, 4, none⟩ = some (.int .u32 ii) := ((B1.out.adds A2.out).adds HA.out).cell 4
        simp only [he, sel2_t]
        clear q5 q6 hC
        gi_wp2
        exact ⟨b3, by simp [sel2, *], HA.out, fun h => HF3.out (by first | exact h | simpa using h | simp [he])⟩
      · simp only [List.getElem?_cons_zero, List.getElem?_cons_succ, Option.some.injEq] at hop
        subst hop
        try simp [Region.binds] at he
        simp only [he, sel2_t]
        clear q5 q6 hC
        gi_wp2
        exact ⟨b3, by simp [sel2, *], HA.out, fun h => HF3.out (by first | exact h | simpa using h | simp [he])⟩
      · simp only [List.getElem?_cons_zero, List.getElem?_cons_succ, Option.some.injEq] at hop
        subst hop
        try simp [Region.binds] at he
        simp only [he, sel2_t]
        clear q5 q6 hC
        gi_wp2
        exact ⟨b3, by simp [sel2, *], HA.out, fun h => HF3.out (by first | exact h | simpa using h | simp [he])⟩
      · simp only [List.getElem?_cons_zero, List.getElem?_cons_succ, Option.some.injEq] at hop
        subst hop
        try simp [Region.binds] at he
        have p0 : L 0 = true := by simp [he]
        clear q5 q6 hC
        simp only [he, sel2_t]
        gi_wp2
        exact ⟨b3, by simp [sel2, *], HA.out, fun h => HF3.out p0⟩
      · simp only [List.getElem?_cons_zero, List.getElem?_cons_succ, Option.some.injEq] at hop
        subst hop
        try simp [Region.binds] at he
        have p5 : L 5 = true := by simp [he]
        have p0 : L 0 = true := by have h := q5 p5; simp [h]
        clear q5 q6 hC
        have cn : wz.cell? ⟨b3, q, none⟩ = some (.string nmq) := by
          have h := HF3.out p0 q HQ.out
          unfold nmV nm at h
          rw [HNq.out] at h
          exact h
        simp only [he, sel2_t]
        gi_wp2
        exact ⟨b3, by simp [sel2, *], HA.out, fun h => HF3.out p0⟩
      · simp only [List.getElem?_cons_zero, List.getElem?_cons_succ, Option.some.injEq] at hop
        subst hop
        try simp [Region.binds] at he
        have p5 : L 5 = true := by have h := q6 (by simp [he]); simp [h]
        have p0 : L 0 = true := by have h := q5 p5; simp [h]
        clear q5 q6 hC
        simp only [he, sel2_t]
        gi_wp2
        exact ⟨b3, by simp [sel2, *], HA.out, fun h => HF3.out p0⟩
      · simp at hop
    case fin =>
      rintro bb w3 ⟨b3, rfl, hA, hF⟩
      simp only [List.length_cons, List.length_nil, Nat.reduceAdd, Nat.reduceLT, decide_true, sel2_t]
      have A3 := Lib.hid (Adds.trans A2.out hA)
      clear hA hF
      have HFe2 := Lib.hid (show nmq = str f by rw [← HNq.out, HFe.out])
      go_wp2_with (go_at_call 43; refine (HN.out _).mono ?_; rintro e w5 ⟨rfl, q5⟩; have A5 := Lib.hid (Adds.trans A3.out q5); clear q5)
      go_loopw [4, 6] (fun sv iv wr => ∃ (j : Nat), iv = .int .i64 j ∧ j ≤ L.length ∧ Hid (Adds w1 wr) ∧ sv = .string (str (f ++ (L.take j).flatMap (tokL a b c i)))) (fun _ iv _ => L.length + 1 - (intOf iv).toNat)
      case atStart => exact ⟨0, rfl, Nat.zero_le _, A5, by rw [HFe2.out]; simp⟩
      case round =>
        obtain ⟨j, rfl, hj, HA, rfl⟩ := hrel
        have hj4 : (j : Int) ≤ 4 := by have := HLL.out; omega
        have HJ := Lib.hid (show (f ++ (L.take j).flatMap (tokL a b c i)).length ≤ 55 by
          have h1 := HTL.out j
          have h2 := HF.out
          have h4 := HLL.out
          have h5 : (L.take j).length ≤ 4 := by rw [List.length_take]; omega
          rw [List.length_append]; omega)
        obtain ⟨pre, hpre⟩ : ∃ p, f ++ (L.take j).flatMap (tokL a b c i) = p := ⟨_, rfl⟩
        have HPre := Lib.hid hpre
        rw [hpre] at HJ
        rw [hpre]
        clear hpre
        have g1 : wr.cell? ⟨w.heap.size, 1, none⟩ = some (.int .i64 a) := (B1.out.adds HA.out).cell 1
        have g2 : wr.cell? ⟨w.heap.size, 2, none⟩ = some (.int .i64 b) := (B1.out.adds HA.out).cell 2
        have g3 : wr.cell? ⟨w.heap.size, 3, none⟩ = some (.int .i64 c) := (B1.out.adds HA.out).cell 3
        have g4 : wr.cell? ⟨w.heap.size, 4, none⟩ = some (.int .u32 ii) := (B1.out.adds HA.out).cell 4
        obtain ⟨s, hs⟩ : ∃ s, str L = s := ⟨_, rfl⟩
        rw [hs]
        have hsz : (s.size : Int) = (L.length : Nat) := by rw [← hs, str_size8]
        by_cases hlt : j < L.length
        · have hltI : (j : Int) < (L.length : Nat) := by omega
          have hb : ∀ h : j < s.size, s[j]'h = L[j] := fun h => by
            subst hs
            exact str_at L j hlt h
          obtain ⟨l, hl⟩ : ∃ l, L[j] = l := ⟨_, rfl⟩
          rw [hl] at hb
          have HL := Lib.hid (show L[j]? = some l by rw [← hl]; exact List.getElem?_eq_getElem hlt)
          have HLt := Lib.hid hlt
          have hj2 : j < s.size := by omega
          have hbx : (s[j]'hj2).toNat = l.toNat := by rw [hb]
          have HT := Lib.hid (tok_1 L j a b c i l HL.out)
          have hll := HML.out l (List.mem_of_getElem? HL.out)
          have HSS := Lib.hid hs
          clear hl hlt hb hs hj
          rcases hll with rfl | rfl | rfl | rfl | rfl | rfl | rfl
          · obtain ⟨t1, ht1⟩ : ∃ t, str (pre ++ [32, 114]) = t := ⟨_, rfl⟩
            obtain ⟨t2, ht2⟩ : ∃ t, str (pre ++ [32, 114] ++ da) = t := ⟨_, rfl⟩
            have hc1 : str pre ++ (⟨#[32, 114]⟩ : ByteArray) = t1 := by rw [← ht1]; exact str_appI pre [32, 114]
            have hc2 : t1 ++ str da = t2 := by rw [← ht1, ← ht2]; exact str_appI _ _
            have hs0 : (str pre).size ≤ 55 := by rw [str_size8]; exact HJ.out
            have hs1 : t1.size ≤ 57 := by rw [← ht1, str_size8, List.length_append]; have := HJ.out; simp; omega
            have hs2 : (str da).size ≤ 10 := by rw [str_size8]; have := HD.out; omega
            have HE := Lib.hid (show t2 = str (f ++ (L.take (j + 1)).flatMap (tokL a b c i)) by
              rw [← ht2, HT.out, ← List.append_assoc, HPre.out]
              congr 1
              have := HDe.out
              simp [tokL, this])
            have hbx2 : ((s[j]'hj2).toNat : Int) = 97 := by rw [hbx]; rfl
            clear ht1 ht2 hbx
            generalize str pre = sp at *
            generalize str da = sd at *
            go_wp2_with (go_at_call 48; refine (HIa.out _ (Adds.trans A1.out HA.out)).mono ?_; rintro e w6 ⟨rfl, q6⟩; have A6 := Lib.hid (Adds.trans HA.out q6); clear q6)
            go_roundw
            case rel => exact ⟨j + 1, by go_num, HLt.out, A6, by rw [HE.out]⟩
            case measure => simp [intOf]; have := HLt.out; omega
          · obtain ⟨t1, ht1⟩ : ∃ t, str (pre ++ [32, 114]) = t := ⟨_, rfl⟩
            obtain ⟨t2, ht2⟩ : ∃ t, str (pre ++ [32, 114] ++ db) = t := ⟨_, rfl⟩
            have hc1 : str pre ++ (⟨#[32, 114]⟩ : ByteArray) = t1 := by rw [← ht1]; exact str_appI pre [32, 114]
            have hc2 : t1 ++ str db = t2 := by rw [← ht1, ← ht2]; exact str_appI _ _
            have hs0 : (str pre).size ≤ 55 := by rw [str_size8]; exact HJ.out
            have hs1 : t1.size ≤ 57 := by rw [← ht1, str_size8, List.length_append]; have := HJ.out; simp; omega
            have hs2 : (str db).size ≤ 10 := by rw [str_size8]; have := HD.out; omega
            have HE := Lib.hid (show t2 = str (f ++ (L.take (j + 1)).flatMap (tokL a b c i)) by
              rw [← ht2, HT.out, ← List.append_assoc, HPre.out]
              congr 1
              have := HDe.out
              simp [tokL, this])
            have hbx2 : ((s[j]'hj2).toNat : Int) = 98 := by rw [hbx]; rfl
            clear ht1 ht2 hbx
            generalize str pre = sp at *
            generalize str db = sd at *
            go_wp2_with (go_at_call 48; refine (HIb.out _ (Adds.trans A1.out HA.out)).mono ?_; rintro e w6 ⟨rfl, q6⟩; have A6 := Lib.hid (Adds.trans HA.out q6); clear q6)
            go_roundw
            case rel => exact ⟨j + 1, by go_num, HLt.out, A6, by rw [HE.out]⟩
            case measure => simp [intOf]; have := HLt.out; omega
          · obtain ⟨t1, ht1⟩ : ∃ t, str (pre ++ [32, 114]) = t := ⟨_, rfl⟩
            obtain ⟨t2, ht2⟩ : ∃ t, str (pre ++ [32, 114] ++ dc) = t := ⟨_, rfl⟩
            have hc1 : str pre ++ (⟨#[32, 114]⟩ : ByteArray) = t1 := by rw [← ht1]; exact str_appI pre [32, 114]
            have hc2 : t1 ++ str dc = t2 := by rw [← ht1, ← ht2]; exact str_appI _ _
            have hs0 : (str pre).size ≤ 55 := by rw [str_size8]; exact HJ.out
            have hs1 : t1.size ≤ 57 := by rw [← ht1, str_size8, List.length_append]; have := HJ.out; simp; omega
            have hs2 : (str dc).size ≤ 10 := by rw [str_size8]; have := HD.out; omega
            have HE := Lib.hid (show t2 = str (f ++ (L.take (j + 1)).flatMap (tokL a b c i)) by
              rw [← ht2, HT.out, ← List.append_assoc, HPre.out]
              congr 1
              have := HDe.out
              simp [tokL, this])
            have hbx2 : ((s[j]'hj2).toNat : Int) = 99 := by rw [hbx]; rfl
            clear ht1 ht2 hbx
            generalize str pre = sp at *
            generalize str dc = sd at *
            go_wp2_with (go_at_call 48; refine (HIc.out _ (Adds.trans A1.out HA.out)).mono ?_; rintro e w6 ⟨rfl, q6⟩; have A6 := Lib.hid (Adds.trans HA.out q6); clear q6)
            go_roundw
            case rel => exact ⟨j + 1, by go_num, HLt.out, A6, by rw [HE.out]⟩
            case measure => simp [intOf]; have := HLt.out; omega
          · obtain ⟨t1, ht1⟩ : ∃ t, str (pre ++ [32]) = t := ⟨_, rfl⟩
            obtain ⟨t2, ht2⟩ : ∃ t, str (pre ++ [32] ++ dc) = t := ⟨_, rfl⟩
            have hc1 : str pre ++ (⟨#[32]⟩ : ByteArray) = t1 := by rw [← ht1]; exact str_appI pre [32]
            have hc2 : t1 ++ str dc = t2 := by rw [← ht1, ← ht2]; exact str_appI _ _
            have hs0 : (str pre).size ≤ 55 := by rw [str_size8]; exact HJ.out
            have hs1 : t1.size ≤ 57 := by rw [← ht1, str_size8, List.length_append]; have := HJ.out; simp; omega
            have hs2 : (str dc).size ≤ 10 := by rw [str_size8]; have := HD.out; omega
            have HE := Lib.hid (show t2 = str (f ++ (L.take (j + 1)).flatMap (tokL a b c i)) by
              rw [← ht2, HT.out, ← List.append_assoc, HPre.out]
              congr 1
              have := HDe.out
              simp [tokL, this])
            have hbx2 : ((s[j]'hj2).toNat : Int) = 110 := by rw [hbx]; rfl
            clear ht1 ht2 hbx
            generalize str pre = sp at *
            generalize str dc = sd at *
            go_wp2_with (go_at_call 48; refine (HIc.out _ (Adds.trans A1.out HA.out)).mono ?_; rintro e w6 ⟨rfl, q6⟩; have A6 := Lib.hid (Adds.trans HA.out q6); clear q6)
            go_roundw
            case rel => exact ⟨j + 1, by go_num, HLt.out, A6, by rw [HE.out]⟩
            case measure => simp [intOf]; have := HLt.out; omega
          · obtain ⟨t1, ht1⟩ : ∃ t, str (pre ++ [32]) = t := ⟨_, rfl⟩
            obtain ⟨t2, ht2⟩ : ∃ t, str (pre ++ [32] ++ di) = t := ⟨_, rfl⟩
            have hc1 : str pre ++ (⟨#[32]⟩ : ByteArray) = t1 := by rw [← ht1]; exact str_appI pre [32]
            have hc2 : t1 ++ str di = t2 := by rw [← ht1, ← ht2]; exact str_appI _ _
            have hs0 : (str pre).size ≤ 55 := by rw [str_size8]; exact HJ.out
            have hs1 : t1.size ≤ 57 := by rw [← ht1, str_size8, List.length_append]; have := HJ.out; simp; omega
            have hs2 : (str di).size ≤ 10 := by rw [str_size8]; have := HD.out; omega
            have HE := Lib.hid (show t2 = str (f ++ (L.take (j + 1)).flatMap (tokL a b c i)) by
              rw [← ht2, HT.out, ← List.append_assoc, HPre.out]
              congr 1
              have := HDe.out
              simp [tokL, this])
            have hbx2 : ((s[j]'hj2).toNat : Int) = 105 := by rw [hbx]; rfl
            clear ht1 ht2 hbx
            generalize str pre = sp at *
            generalize str di = sd at *
            go_wp2_with (go_at_call 49; refine (HIi.out _ (Adds.trans A1.out HA.out)).mono ?_; rintro e w6 ⟨rfl, q6⟩; have A6 := Lib.hid (Adds.trans HA.out q6); clear q6)
            go_roundw
            case rel => exact ⟨j + 1, by go_num, HLt.out, A6, by rw [HE.out]⟩
            case measure => simp [intOf]; have := HLt.out; omega
          · obtain ⟨t1, ht1⟩ : ∃ t, str (pre ++ [32, 102]) = t := ⟨_, rfl⟩
            obtain ⟨t2, ht2⟩ : ∃ t, str (pre ++ [32, 102] ++ di) = t := ⟨_, rfl⟩
            have hc1 : str pre ++ (⟨#[32, 102]⟩ : ByteArray) = t1 := by rw [← ht1]; exact str_appI pre [32, 102]
            have hc2 : t1 ++ str di = t2 := by rw [← ht1, ← ht2]; exact str_appI _ _
            have hs0 : (str pre).size ≤ 55 := by rw [str_size8]; exact HJ.out
            have hs1 : t1.size ≤ 57 := by rw [← ht1, str_size8, List.length_append]; have := HJ.out; simp; omega
            have hs2 : (str di).size ≤ 10 := by rw [str_size8]; have := HD.out; omega
            have HE := Lib.hid (show t2 = str (f ++ (L.take (j + 1)).flatMap (tokL a b c i)) by
              rw [← ht2, HT.out, ← List.append_assoc, HPre.out]
              congr 1
              have := HDe.out
              simp [tokL, this])
            have hbx2 : ((s[j]'hj2).toNat : Int) = 102 := by rw [hbx]; rfl
            clear ht1 ht2 hbx
            generalize str pre = sp at *
            generalize str di = sd at *
            go_wp2_with (go_at_call 49; refine (HIi.out _ (Adds.trans A1.out HA.out)).mono ?_; rintro e w6 ⟨rfl, q6⟩; have A6 := Lib.hid (Adds.trans HA.out q6); clear q6)
            go_roundw
            case rel => exact ⟨j + 1, by go_num, HLt.out, A6, by rw [HE.out]⟩
            case measure => simp [intOf]; have := HLt.out; omega
          · have HE := Lib.hid (show str pre = str (f ++ (L.take (j + 1)).flatMap (tokL a b c i)) by
              rw [HT.out, ← List.append_assoc, HPre.out]
              congr 1
              simp [tokL])
            have hbx2 : ((s[j]'hj2).toNat : Int) = 107 := by rw [hbx]; rfl
            clear hbx
            generalize str pre = sp at *
            go_wp2
            go_roundw
            case rel => exact ⟨j + 1, by go_num, HLt.out, HA, by rw [HE.out]⟩
            case measure => simp [intOf]; have := HLt.out; omega
        · have hjn : (j : Int) = (L.length : Nat) := by omega
          have HE := Lib.hid (show pre = f ++ L.flatMap (tokL a b c i) by rw [← HPre.out, List.take_of_length_le (by omega)])
          clear hlt hj
          go_wp2
          go_ret
          refine ⟨?_, Adds.trans A1.out HA.out⟩
          rw [← HE.out]
          rfl
  · rw [if_neg (by omega), show op - 1 = k by omega] at hfe
    have HFe := Lib.hid hfe
    have HK := Lib.hid (show k < 19 by omega)
    have i33 : (o == 3) = false := by rw [beq_eq_false_iff_ne]; omega
    clear hfe hfl2 h3 hk hk2 ho hii
    go_enter Tryz.func14, Tryz.ntmps14
    go_wp2_with (first
      | (go_at_call 41; refine (refWords8 _).mono ?_; rintro e w2 ⟨v2, rfl, ⟨b2, rfl, hc2⟩, q2⟩; have A2 := Lib.hid q2; have cw : w2.cell? ⟨b2, k, none⟩ = some (.string (str (wdB k))) := hc2 k HK.out; clear hc2 q2)
      | (go_at_call 43; refine (HN.out _).mono ?_; rintro e w5 ⟨rfl, q5⟩; have A5 := Lib.hid (Adds.trans A2.out q5); clear q5))

    go_loopw [4, 6] (fun sv iv wr => ∃ (j : Nat), iv = .int .i64 j ∧ j ≤ L.length ∧ Hid (Adds w1 wr) ∧ sv = .string (str (f ++ (L.take j).flatMap (tokL a b c i)))) (fun _ iv _ => L.length + 1 - (intOf iv).toNat)
    case atStart => exact ⟨0, rfl, Nat.zero_le _, A5, by rw [HFe.out]; simp⟩
    case round =>
      obtain ⟨j, rfl, hj, HA, rfl⟩ := hrel
      have hj4 : (j : Int) ≤ 4 := by have := HLL.out; omega
      have HJ := Lib.hid (show (f ++ (L.take j).flatMap (tokL a b c i)).length ≤ 55 by
        have h1 := HTL.out j
        have h2 := HF.out
        have h4 := HLL.out
        have h5 : (L.take j).length ≤ 4 := by rw [List.length_take]; omega
        rw [List.length_append]; omega)
      obtain ⟨pre, hpre⟩ : ∃ p, f ++ (L.take j).flatMap (tokL a b c i) = p := ⟨_, rfl⟩
      have HPre := Lib.hid hpre
      rw [hpre] at HJ
      rw [hpre]
      clear hpre
      have g1 : wr.cell? ⟨w.heap.size, 1, none⟩ = some (.int .i64 a) := (B1.out.adds HA.out).cell 1
      have g2 : wr.cell? ⟨w.heap.size, 2, none⟩ = some (.int .i64 b) := (B1.out.adds HA.out).cell 2
      have g3 : wr.cell? ⟨w.heap.size, 3, none⟩ = some (.int .i64 c) := (B1.out.adds HA.out).cell 3
      have g4 : wr.cell? ⟨w.heap.size, 4, none⟩ = some (.int .u32 ii) := (B1.out.adds HA.out).cell 4
      obtain ⟨s, hs⟩ : ∃ s, str L = s := ⟨_, rfl⟩
      rw [hs]
      have hsz : (s.size : Int) = (L.length : Nat) := by rw [← hs, str_size8]
      by_cases hlt : j < L.length
      · have hltI : (j : Int) < (L.length : Nat) := by omega
        have hb : ∀ h : j < s.size, s[j]'h = L[j] := fun h => by
          subst hs
          exact str_at L j hlt h
        obtain ⟨l, hl⟩ : ∃ l, L[j] = l := ⟨_, rfl⟩
        rw [hl] at hb
        have HL := Lib.hid (show L[j]? = some l by rw [← hl]; exact List.getElem?_eq_getElem hlt)
        have HLt := Lib.hid hlt
        have hj2 : j < s.size := by omega
        have hbx : (s[j]'hj2).toNat = l.toNat := by rw [hb]
        have HT := Lib.hid (tok_1 L j a b c i l HL.out)
        have hll := HML.out l (List.mem_of_getElem? HL.out)
        have HSS := Lib.hid hs
        clear hl hlt hb hs hj
        rcases hll with rfl | rfl | rfl | rfl | rfl | rfl | rfl
        · obtain ⟨t1, ht1⟩ : ∃ t, str (pre ++ [32, 114]) = t := ⟨_, rfl⟩
          obtain ⟨t2, ht2⟩ : ∃ t, str (pre ++ [32, 114] ++ da) = t := ⟨_, rfl⟩
          have hc1 : str pre ++ (⟨#[32, 114]⟩ : ByteArray) = t1 := by rw [← ht1]; exact str_appI pre [32, 114]
          have hc2 : t1 ++ str da = t2 := by rw [← ht1, ← ht2]; exact str_appI _ _
          have hs0 : (str pre).size ≤ 55 := by rw [str_size8]; exact HJ.out
          have hs1 : t1.size ≤ 57 := by rw [← ht1, str_size8, List.length_append]; have := HJ.out; simp; omega
          have hs2 : (str da).size ≤ 10 := by rw [str_size8]; have := HD.out; omega
          have HE := Lib.hid (show t2 = str (f ++ (L.take (j + 1)).flatMap (tokL a b c i)) by
            rw [← ht2, HT.out, ← List.append_assoc, HPre.out]
            congr 1
            have := HDe.out
            simp [tokL, this])
          have hbx2 : ((s[j]'hj2).toNat : Int) = 97 := by rw [hbx]; rfl
          clear ht1 ht2 hbx
          generalize str pre = sp at *
          generalize str da = sd at *
          go_wp2_with (go_at_call 48; refine (HIa.out _ (Adds.trans A1.out HA.out)).mono ?_; rintro e w6 ⟨rfl, q6⟩; have A6 := Lib.hid (Adds.trans HA.out q6); clear q6)
          go_roundw
          case rel => exact ⟨j + 1, by go_num, HLt.out, A6, by rw [HE.out]⟩
          case measure => simp [intOf]; have := HLt.out; omega
        · obtain ⟨t1, ht1⟩ : ∃ t, str (pre ++ [32, 114]) = t := ⟨_, rfl⟩
          obtain ⟨t2, ht2⟩ : ∃ t, str (pre ++ [32, 114] ++ db) = t := ⟨_, rfl⟩
          have hc1 : str pre ++ (⟨#[32, 114]⟩ : ByteArray) = t1 := by rw [← ht1]; exact str_appI pre [32, 114]
          have hc2 : t1 ++ str db = t2 := by rw [← ht1, ← ht2]; exact str_appI _ _
          have hs0 : (str pre).size ≤ 55 := by rw [str_size8]; exact HJ.out
          have hs1 : t1.size ≤ 57 := by rw [← ht1, str_size8, List.length_append]; have := HJ.out; simp; omega
          have hs2 : (str db).size ≤ 10 := by rw [str_size8]; have := HD.out; omega
          have HE := Lib.hid (show t2 = str (f ++ (L.take (j + 1)).flatMap (tokL a b c i)) by
            rw [← ht2, HT.out, ← List.append_assoc, HPre.out]
            congr 1
            have := HDe.out
            simp [tokL, this])
          have hbx2 : ((s[j]'hj2).toNat : Int) = 98 := by rw [hbx]; rfl
          clear ht1 ht2 hbx
          generalize str pre = sp at *
          generalize str db = sd at *
          go_wp2_with (go_at_call 48; refine (HIb.out _ (Adds.trans A1.out HA.out)).mono ?_; rintro e w6 ⟨rfl, q6⟩; have A6 := Lib.hid (Adds.trans HA.out q6); clear q6)
          go_roundw
          case rel => exact ⟨j + 1, by go_num, HLt.out, A6, by rw [HE.out]⟩
          case measure => simp [intOf]; have := HLt.out; omega
        · obtain ⟨t1, ht1⟩ : ∃ t, str (pre ++ [32, 114]) = t := ⟨_, rfl⟩
          obtain ⟨t2, ht2⟩ : ∃ t, str (pre ++ [32, 114] ++ dc) = t := ⟨_, rfl⟩
          have hc1 : str pre ++ (⟨#[32, 114]⟩ : ByteArray) = t1 := by rw [← ht1]; exact str_appI pre [32, 114]
          have hc2 : t1 ++ str dc = t2 := by rw [← ht1, ← ht2]; exact str_appI _ _
          have hs0 : (str pre).size ≤ 55 := by rw [str_size8]; exact HJ.out
          have hs1 : t1.size ≤ 57 := by rw [← ht1, str_size8, List.length_append]; have := HJ.out; simp; omega
          have hs2 : (str dc).size ≤ 10 := by rw [str_size8]; have := HD.out; omega
          have HE := Lib.hid (show t2 = str (f ++ (L.take (j + 1)).flatMap (tokL a b c i)) by
            rw [← ht2, HT.out, ← List.append_assoc, HPre.out]
            congr 1
            have := HDe.out
            simp [tokL, this])
          have hbx2 : ((s[j]'hj2).toNat : Int) = 99 := by rw [hbx]; rfl
          clear ht1 ht2 hbx
          generalize str pre = sp at *
          generalize str dc = sd at *
          go_wp2_with (go_at_call 48; refine (HIc.out _ (Adds.trans A1.out HA.out)).mono ?_; rintro e w6 ⟨rfl, q6⟩; have A6 := Lib.hid (Adds.trans HA.out q6); clear q6)
          go_roundw
          case rel => exact ⟨j + 1, by go_num, HLt.out, A6, by rw [HE.out]⟩
          case measure => simp [intOf]; have := HLt.out; omega
        · obtain ⟨t1, ht1⟩ : ∃ t, str (pre ++ [32]) = t := ⟨_, rfl⟩
          obtain ⟨t2, ht2⟩ : ∃ t, str (pre ++ [32] ++ dc) = t := ⟨_, rfl⟩
          have hc1 : str pre ++ (⟨#[32]⟩ : ByteArray) = t1 := by rw [← ht1]; exact str_appI pre [32]
          have hc2 : t1 ++ str dc = t2 := by rw [← ht1, ← ht2]; exact str_appI _ _
          have hs0 : (str pre).size ≤ 55 := by rw [str_size8]; exact HJ.out
          have hs1 : t1.size ≤ 57 := by rw [← ht1, str_size8, List.length_append]; have := HJ.out; simp; omega
          have hs2 : (str dc).size ≤ 10 := by rw [str_size8]; have := HD.out; omega
          have HE := Lib.hid (show t2 = str (f ++ (L.take (j + 1)).flatMap (tokL a b c i)) by
            rw [← ht2, HT.out, ← List.append_assoc, HPre.out]
            congr 1
            have := HDe.out
            simp [tokL, this])
          have hbx2 : ((s[j]'hj2).toNat : Int) = 110 := by rw [hbx]; rfl
          clear ht1 ht2 hbx
          generalize str pre = sp at *
          generalize str dc = sd at *
          go_wp2_with (go_at_call 48; refine (HIc.out _ (Adds.trans A1.out HA.out)).mono ?_; rintro e w6 ⟨rfl, q6⟩; have A6 := Lib.hid (Adds.trans HA.out q6); clear q6)
          go_roundw
          case rel => exact ⟨j + 1, by go_num, HLt.out, A6, by rw [HE.out]⟩
          case measure => simp [intOf]; have := HLt.out; omega
        · obtain ⟨t1, ht1⟩ : ∃ t, str (pre ++ [32]) = t := ⟨_, rfl⟩
          obtain ⟨t2, ht2⟩ : ∃ t, str (pre ++ [32] ++ di) = t := ⟨_, rfl⟩
          have hc1 : str pre ++ (⟨#[32]⟩ : ByteArray) = t1 := by rw [← ht1]; exact str_appI pre [32]
          have hc2 : t1 ++ str di = t2 := by rw [← ht1, ← ht2]; exact str_appI _ _
          have hs0 : (str pre).size ≤ 55 := by rw [str_size8]; exact HJ.out
          have hs1 : t1.size ≤ 57 := by rw [← ht1, str_size8, List.length_append]; have := HJ.out; simp; omega
          have hs2 : (str di).size ≤ 10 := by rw [str_size8]; have := HD.out; omega
          have HE := Lib.hid (show t2 = str (f ++ (L.take (j + 1)).flatMap (tokL a b c i)) by
            rw [← ht2, HT.out, ← List.append_assoc, HPre.out]
            congr 1
            have := HDe.out
            simp [tokL, this])
          have hbx2 : ((s[j]'hj2).toNat : Int) = 105 := by rw [hbx]; rfl
          clear ht1 ht2 hbx
          generalize str pre = sp at *
          generalize str di = sd at *
          go_wp2_with (go_at_call 49; refine (HIi.out _ (Adds.trans A1.out HA.out)).mono ?_; rintro e w6 ⟨rfl, q6⟩; have A6 := Lib.hid (Adds.trans HA.out q6); clear q6)
          go_roundw
          case rel => exact ⟨j + 1, by go_num, HLt.out, A6, by rw [HE.out]⟩
          case measure => simp [intOf]; have := HLt.out; omega
        · obtain ⟨t1, ht1⟩ : ∃ t, str (pre ++ [32, 102]) = t := ⟨_, rfl⟩
          obtain ⟨t2, ht2⟩ : ∃ t, str (pre ++ [32, 102] ++ di) = t := ⟨_, rfl⟩
          have hc1 : str pre ++ (⟨#[32, 102]⟩ : ByteArray) = t1 := by rw [← ht1]; exact str_appI pre [32, 102]
          have hc2 : t1 ++ str di = t2 := by rw [← ht1, ← ht2]; exact str_appI _ _
          have hs0 : (str pre).size ≤ 55 := by rw [str_size8]; exact HJ.out
          have hs1 : t1.size ≤ 57 := by rw [← ht1, str_size8, List.length_append]; have := HJ.out; simp; omega
          have hs2 : (str di).size ≤ 10 := by rw [str_size8]; have := HD.out; omega
          have HE := Lib.hid (show t2 = str (f ++ (L.take (j + 1)).flatMap (tokL a b c i)) by
            rw [← ht2, HT.out, ← List.append_assoc, HPre.out]
            congr 1
            have := HDe.out
            simp [tokL, this])
          have hbx2 : ((s[j]'hj2).toNat : Int) = 102 := by rw [hbx]; rfl
          clear ht1 ht2 hbx
          generalize str pre = sp at *
          generalize str di = sd at *
          go_wp2_with (go_at_call 49; refine (HIi.out _ (Adds.trans A1.out HA.out)).mono ?_; rintro e w6 ⟨rfl, q6⟩; have A6 := Lib.hid (Adds.trans HA.out q6); clear q6)
          go_roundw
          case rel => exact ⟨j + 1, by go_num, HLt.out, A6, by rw [HE.out]⟩
          case measure => simp [intOf]; have := HLt.out; omega
        · have HE := Lib.hid (show str pre = str (f ++ (L.take (j + 1)).flatMap (tokL a b c i)) by
            rw [HT.out, ← List.append_assoc, HPre.out]
            congr 1
            simp [tokL])
          have hbx2 : ((s[j]'hj2).toNat : Int) = 107 := by rw [hbx]; rfl
          clear hbx
          generalize str pre = sp at *
          go_wp2
          go_roundw
          case rel => exact ⟨j + 1, by go_num, HLt.out, HA, by rw [HE.out]⟩
          case measure => simp [intOf]; have := HLt.out; omega
      · have hjn : (j : Int) = (L.length : Nat) := by omega
        have HE := Lib.hid (show pre = f ++ L.flatMap (tokL a b c i) by rw [← HPre.out, List.take_of_length_le (by omega)])
        clear hlt hj
        go_wp2
        go_ret
        refine ⟨?_, Adds.trans A1.out HA.out⟩
        rw [← HE.out]
        rfl
end Go.Proofs.YtkodjmdghjcndaaGreatDoor
