/- The document's words of a text, its list of first words, and its numbers: contracts. -/
import Derived.Test.YtkodjmdghjcndaaGreatDoorIH1
import Derived.Test.YtkodjmdghjcndaaGreatDoorIQ2
import Derived.Test.YtkodjmdghjcndaaGreatDoorBE
namespace Go.Proofs.YtkodjmdghjcndaaGreatDoor
open Go Go.RowKit Go.Shelf

/-- The document's list of first words, in a world. -/
def wdB (i : Nat) : List UInt8 := nmIB.getD (i + 1) []
def WdsAt (w : World) (v : Value) : Prop := ∃ b, v = .slice (some ⟨b, 0, none⟩) 19 19 ∧ ∀ i, i < 19 → w.cell? ⟨b, i, none⟩ = some (.string (str (wdB i)))
theorem WdsAt.adds {w w' : World} {v : Value} (h : WdsAt w v) (ha : Adds w w') : WdsAt w' v := by
  obtain ⟨b, rfl, hc⟩ := h
  exact ⟨b, rfl, fun i hi => ha.cellAt (hc i hi)⟩
theorem refWords8 (w : World) : Calls Tryz.prog 41 #[] w fun e w' => ∃ v, e = .returned v ∧ WdsAt w' v ∧ Adds w w' := by
  go_enter Tryz.func41, Tryz.ntmps41
  go_wp2
  go_ret
  refine ⟨_, rfl, ⟨_, rfl, fun i hi => ?_⟩, Adds.new _ _⟩
  rw [cell_of_row _ w.heap.size i _ _ _ (heap_new w _)]
  match i, hi with
  | 0, _ | 1, _ | 2, _ | 3, _ | 4, _ | 5, _ | 6, _ | 7, _ | 8, _ | 9, _ | 10, _ | 11, _ | 12, _ | 13, _ | 14, _ | 15, _ | 16, _ | 17, _ | 18, _ => rfl
  | k + 19, h => exact absurd h (by omega)

/-- The words of a text: what stands between blanks. -/
def wordsL : List UInt8 → List (List UInt8)
  | [] => [[]]
  | c :: t => if c = 32 then [] :: wordsL t else match wordsL t with | [] => [[c]] | h :: r => (c :: h) :: r
theorem wordsL_ne : ∀ l, wordsL l ≠ []
  | [] => by simp [wordsL]
  | c :: t => by
    unfold wordsL
    split
    · simp
    · split <;> simp
theorem wordsL_one : ∀ p : List UInt8, (∀ c ∈ p, c ≠ 32) → wordsL p = [p]
  | [], _ => rfl
  | c :: t, h => by
    have ih := wordsL_one t (fun d hd => h d (List.mem_cons_of_mem _ hd))
    unfold wordsL
    rw [if_neg (h c List.mem_cons_self), ih]
theorem wordsL_app : ∀ (p r : List UInt8), (∀ c ∈ p, c ≠ 32) → wordsL (p ++ 32 :: r) = p :: wordsL r
  | [], r, _ => by simp [wordsL]
  | c :: t, r, h => by
    have ih := wordsL_app t r (fun d hd => h d (List.mem_cons_of_mem _ hd))
    rw [List.cons_append]
    conv => lhs; unfold wordsL
    rw [if_neg (h c List.mem_cons_self), ih]
def WdsO (n : Nat) (w : World) (v : Value) (l : List (List UInt8)) : Prop := w.ownsRow n 9 1 v l.length (l.map fun x => .string (str x))
theorem infoStr : (Tryz.prog.info? 9).map (fun i => (i.zero, i.size, i.bytes)) = some (some (.string ByteArray.empty), 1, 16) := by kernel_rfl
theorem wpW_append1 {w : World} {ops : Array Oper} {rest : List Oper} {o : Oper} {a : Act} {Q : Exit → Act → World → Prop} (hgd : o.guard = none) (s x : Operand)
    (ho : o.op = .call { callee := .builtin .append, args := #[s, x], argTypes := #[72, 72] }) (base : Nat) (v : Value) (pre : List (List UInt8)) (c : List UInt8) (y : ByteArray) (hy : y = str c) (hs : a.eval s = v) (hown : WdsO base w v pre)
    (k : Nat) (hx : a.eval x = .slice (some ⟨k, 0, none⟩) 1 1) (hk : k = w.heap.size)
    (hlen : pre.length ≤ 100000) (hbase : base ≤ w.heap.size)
    (h : ∀ v' w', WdsO base w' v' (pre ++ [c]) → Below base w w' → wpList Tryz.prog ops Q rest (a.put o.dst v') w') : wpList Tryz.prog ops Q (o :: rest) a (w.alloc (.cells #[.string y] 9)) := by
  subst hk hy
  obtain ⟨i0, hi, hz0, hz1, hz2⟩ := info_parts infoStr
  refine wpList_append_own _ hgd s x 72 ho base 9 i0 (.string ByteArray.empty) 1 16 Tryz.underlying72 hi hz0 hz1 hz2 rfl (by decide) v pre.length (pre.map fun x => .string (str x)) hs (World.ownsRow.alloc hown _) ⟨w.heap.size, 0, none⟩ 1 1 [.string (str c)] hx rfl ?_
    (fun u hu => by simp at hu; subst hu; rfl) (by unfold maxLen; omega) (by omega) (by simp; omega) fun v' w' h1 h2 _ => h v' w' ?_ ?_
  · intro j u hu
    have hadd : (⟨w.heap.size, 0, none⟩ : Addr).add j = ⟨w.heap.size, j, none⟩ := by unfold Addr.add; split <;> simp_all
    rw [hadd, (BkS.new 9 w [.string (str c)]).cell j]
    exact hu
  · unfold WdsO; rw [List.length_append, List.map_append]; exact h1
  · refine (((Below.refl base w).alloc hbase _).grown h2 (by simp; omega) fun k hk => ?_)
    exact (World.ownsRow.lt hown k hk.symm.symm).1
theorem cut_str (s : ByteArray) (a b : Nat) : s.extract a b = str ((s.data.toList.drop a).take (b - a)) := by
  apply ByteArray.ext
  apply Array.toList_inj.1
  rw [Lib.extract_data]
  simp [str]
set_option maxRecDepth 100000 in
set_option maxHeartbeats 4000000 in
theorem refwords8 (s : ByteArray) (hs : s.size ≤ 1000) (w : World) : Calls Tryz.prog 40 #[.string s] w fun e w' => ∃ v, e = .returned v ∧ WdsO w.heap.size w' v (wordsL s.data.toList) ∧ Adds w w' := by
  have hl : s.size = s.data.toList.length := Lib.size_eq s
  obtain ⟨l, hle⟩ : ∃ l, s.data.toList = l := ⟨_, rfl⟩
  have HLe := Lib.hid hle
  rw [hle] at hl ⊢
  have HL := Lib.hid hl
  have hsI : (s.size : Int) ≤ 1000 := by omega
  have hs2 : s.size ≤ 9223372036854775807 := by omega
  clear hl hs hle
  go_enter Tryz.func40, Tryz.ntmps40
  go_wp2
  go_loopw [3, 4, 5] (fun v f i wr => ∃ (pre : List (List UInt8)) (a b : Nat), f = .int .i64 a ∧ i = .int .i64 b ∧ Hid (WdsO w.heap.size wr v pre) ∧ Hid (Adds w wr) ∧ Hid (pre.length ≤ b) ∧ Hid ((b ≤ s.size ∧ a ≤ b ∧ pre ++ wordsL (l.drop a) = wordsL l ∧ (∀ c ∈ (l.drop a).take (b - a), c ≠ 32)) ∨ (b = s.size + 1 ∧ pre = wordsL l))) (fun _ _ i _ => s.size + 2 - (intOf i).toNat)
  case atStart => exact ⟨[], 0, 0, rfl, rfl, Lib.hid (World.ownsRow_nil _ _ _ _), Lib.hid (Adds.refl _), Lib.hid (Nat.le_refl _), Lib.hid (.inl ⟨Nat.zero_le _, Nat.le_refl _, by simp, by simp⟩)⟩
  case round =>
    obtain ⟨pre, a, b, rfl, rfl, HO, HA, HP, HX⟩ := hrel
    by_cases hb : b ≤ s.size
    · have HX1 := Lib.hid (show a ≤ b ∧ pre ++ wordsL (l.drop a) = wordsL l ∧ (∀ c ∈ (l.drop a).take (b - a), c ≠ 32) by rcases HX.out with h | h; (· exact h.2); omega)
      have hab : a ≤ b := HX1.out.1
      have hbI : (b : Int) ≤ (s.size : Int) := by omega
      have habI : (a : Int) ≤ (b : Int) := by omega
      have hpl : pre.length ≤ 100000 := by have := HP.out; omega
      have HPl := Lib.hid hpl
      have HC := Lib.hid (show s.extract a b = str ((l.drop a).take (b - a)) by rw [← HLe.out]; exact cut_str s a b)
      by_cases he : b = s.size
      · subst he
        have HW := Lib.hid (show pre ++ [(l.drop a).take (s.size - a)] = wordsL l by
          have h := HX1.out.2.1
          have h2 : (l.drop a).take (s.size - a) = l.drop a := List.take_of_length_le (by rw [List.length_drop, ← HL.out]; omega)
          have h3 := HX1.out.2.2
          rw [h2] at h3
          rw [wordsL_one _ h3] at h
          rw [h2]; exact h)
        clear hb hpl hbI
        go_wp2_with (at_builtin; (fail_if_success (show wpList _ _ _ ({ dst := some 8, op := _, type := _, pos := _, after := _, guard := _ } :: _) _ _)); (fail_if_success (show wpList _ _ _ ({ dst := some 14, op := _, type := _, pos := _, after := _, guard := _ } :: _) _ _)); go_must (refine wpW_append1 rfl _ _ rfl w.heap.size _ pre ((l.drop a).take (s.size - a)) _ HC.out rfl (by exact HO.out) _ rfl (by simp) HPl.out (by exact HA.out.size) ?_; intro v5 w5 o5 b5; have O5 := Lib.hid o5; have A5 := Lib.hid (Below.trans HA.out b5); clear o5 b5))
        go_roundw
        case rel => exact ⟨pre ++ [(l.drop a).take (s.size - a)], s.size + 1, s.size + 1, by go_num, by go_num, O5, A5, Lib.hid (by have := HP.out; simp; omega), Lib.hid (.inr ⟨rfl, HW.out⟩)⟩
        case measure => simp [intOf]
      · have hlt : b < s.size := by omega
        have hltl : b < l.length := by have := HL.out; omega
        have hg : ∀ h : b < s.size, s[b]'h = l[b] := fun h => by
          have e : s = str l := by rw [← HLe.out]; rfl
          subst e
          exact str_at l b hltl h
        obtain ⟨c, hc⟩ : ∃ c, l[b] = c := ⟨_, rfl⟩
        rw [hc] at hg
        have hbx : (s[b]'hlt).toNat = c.toNat := by rw [hg]
        have HD := Lib.hid (show l.drop b = c :: l.drop (b + 1) by rw [← hc]; exact List.drop_eq_getElem_cons hltl)
        have HS := Lib.hid (show l.drop a = (l.drop a).take (b - a) ++ l.drop b by
          have h := (List.take_append_drop (b - a) (l.drop a)).symm
          rwa [List.drop_drop, show a + (b - a) = b by omega] at h)
        have hneI : ¬ (b : Int) = (s.size : Int) := by omega
        have HLt := Lib.hid hlt
        by_cases h32 : c = 32
        · subst h32
          have HW := Lib.hid (show (pre ++ [(l.drop a).take (b - a)]) ++ wordsL (l.drop (b + 1)) = wordsL l by
            have h := HX1.out.2.1
            rw [HS.out, HD.out, wordsL_app _ _ HX1.out.2.2] at h
            rw [List.append_assoc]; exact h)
          clear hb hpl he hg hc hltl
          go_wp2_with (at_builtin; (fail_if_success (show wpList _ _ _ ({ dst := some 8, op := _, type := _, pos := _, after := _, guard := _ } :: _) _ _)); (fail_if_success (show wpList _ _ _ ({ dst := some 14, op := _, type := _, pos := _, after := _, guard := _ } :: _) _ _)); go_must (refine wpW_append1 rfl _ _ rfl w.heap.size _ pre ((l.drop a).take (b - a)) _ HC.out rfl (by exact HO.out) _ rfl (by simp) HPl.out (by exact HA.out.size) ?_; intro v5 w5 o5 b5; have O5 := Lib.hid o5; have A5 := Lib.hid (Below.trans HA.out b5); clear o5 b5))
          go_roundw
          case rel => exact ⟨pre ++ [(l.drop a).take (b - a)], b + 1, b + 1, by go_num, by go_num, O5, A5, Lib.hid (by have := HP.out; simp; omega), Lib.hid (.inl ⟨HLt.out, Nat.le_refl _, HW.out, by simp⟩)⟩
          case measure => simp [intOf]; have := HLt.out; omega
        · have hne : ((c.toNat : Int) == 32) = false := by
            rw [beq_eq_false_iff_ne]
            intro h
            exact h32 (UInt8.toNat_inj.1 (by have : c.toNat = 32 := by omega
                                             rw [this]; rfl))
          have HW := Lib.hid (show ∀ d ∈ (l.drop a).take (b + 1 - a), d ≠ 32 by
            intro d hd
            rw [show b + 1 - a = (b - a) + 1 by omega, List.take_add_one, List.mem_append] at hd
            rcases hd with hd | hd
            · exact HX1.out.2.2 d hd
            · rw [List.getElem?_drop, show a + (b - a) = b by omega, List.getElem?_eq_getElem hltl, hc] at hd
              simp at hd
              rw [hd]; exact h32)
          clear hb hpl he hg hc hltl h32
          go_wp2
          go_roundw
          case rel => exact ⟨pre, a, b + 1, rfl, by go_num, HO, HA, Lib.hid (by have := HP.out; omega), Lib.hid (.inl ⟨HLt.out, by omega, HX1.out.2.1, HW.out⟩)⟩
          case measure => simp [intOf]; have := HLt.out; omega
    · have HX2 := Lib.hid (show pre = wordsL l by rcases HX.out with h | h; (· omega); exact h.2)
      have hbI : ¬ (b : Int) ≤ (s.size : Int) := by omega
      clear hb
      go_wp2
      go_ret
      refine ⟨_, rfl, ?_, HA.out⟩
      rw [← HX2.out]
      exact HO.out
end Go.Proofs.YtkodjmdghjcndaaGreatDoor
