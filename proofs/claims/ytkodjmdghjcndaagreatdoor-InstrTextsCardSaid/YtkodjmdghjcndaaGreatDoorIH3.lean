/- The document's number: contract. (genH3.py wrote this.) -/
import Derived.Test.YtkodjmdghjcndaaGreatDoorIH2
namespace Go.Proofs.YtkodjmdghjcndaaGreatDoor
open Go Go.RowKit Go.Shelf

def valF (a : Nat) (l : List UInt8) : Nat := l.foldl (fun a c => 10 * a + (c.toNat - 48)) a
def valD (l : List UInt8) : Nat := valF 0 l
def numOk (l : List UInt8) : Bool := !l.isEmpty && l.all isD && decide (valD l ≤ 4294967295)
theorem valF_le : ∀ (l : List UInt8) (a : Nat), a ≤ valF a l
  | [], a => Nat.le_refl _
  | c :: t, a => Nat.le_trans (by omega) (valF_le t (10 * a + (c.toNat - 48)))
theorem valD_app (a b : List UInt8) : valD (a ++ b) = valF (valD a) b := by unfold valD valF; rw [List.foldl_append]
theorem valD_one (a : List UInt8) (c : UInt8) : valD (a ++ [c]) = 10 * valD a + (c.toNat - 48) := by rw [valD_app]; rfl
theorem valD_take (l : List UInt8) (k : Nat) : valD (l.take k) ≤ valD l := by
  have h : valD l = valF (valD (l.take k)) (l.drop k) := by rw [← valD_app, List.take_append_drop]
  rw [h]; exact valF_le _ _
theorem numOk_yes {l : List UInt8} (h0 : 0 < l.length) (h1 : l.all isD = true) (h2 : valD l ≤ 4294967295) : numOk l = true := by
  cases l with
  | nil => simp at h0
  | cons c t => unfold numOk; rw [h1]; simp [h2]
theorem numOk_no {l : List UInt8} (h : ¬ l.all isD = true ∨ ¬ valD l ≤ 4294967295) : numOk l = false := by
  unfold numOk
  rcases h with h | h
  · rw [Bool.eq_false_iff.2 h]; simp
  · simp [h]
theorem numOk_nil {l : List UInt8} (h : l.length = 0) : numOk l = false := by
  cases l with
  | nil => rfl
  | cons c t => simp at h
/-- A number behind a letter (0: none). -/
def numA (letter : UInt8) (l : List UInt8) : Bool := if letter = 0 then numOk l else match l with | [] => false | c :: t => decide (c = letter) && numOk t
def numV (letter : UInt8) (l : List UInt8) : Nat := valD (if letter = 0 then l else l.tail)
theorem numA_zero (l : List UInt8) : numA 0 l = numOk l := by unfold numA; exact if_pos rfl
theorem numA_cons {letter : UInt8} (h : letter ≠ 0) (t : List UInt8) : numA letter (letter :: t) = numOk t := by unfold numA; rw [if_neg h]; simp
theorem numA_other {letter c : UInt8} (h : letter ≠ 0) (hc : c ≠ letter) (t : List UInt8) : numA letter (c :: t) = false := by unfold numA; rw [if_neg h]; simp [hc]
theorem numA_nil {letter : UInt8} (h : letter ≠ 0) : numA letter [] = false := by unfold numA; rw [if_neg h]
set_option maxRecDepth 100000 in
set_option maxHeartbeats 4000000 in
theorem number8 (letter : UInt8) (t : ByteArray) (hs : t.size ≤ 1000) (w : World) : Calls Tryz.prog 44 #[.string t, .int .u8 letter.toNat] w fun e w' => ∃ n : Nat, e = .returned (.tuple #[.int .u64 n, .bool (numA letter t.data.toList)]) ∧ (numA letter t.data.toList = true → n = numV letter t.data.toList) ∧ w' = w := by
  by_cases hl0 : letter = 0
  · subst hl0
    have hl : t.size = t.data.toList.length := Lib.size_eq t
    obtain ⟨l, hle⟩ : ∃ l, t.data.toList = l := ⟨_, rfl⟩
    have HLe := Lib.hid hle
    rw [hle] at hl ⊢
    have HL := Lib.hid hl
    have HS := Lib.hid hs
    have hs2 : t.size ≤ 9223372036854775807 := by omega
    have h00 : (((0 : UInt8).toNat : Nat) : Int) = 0 := rfl
    rw [numA_zero, show numV 0 l = valD l by unfold numV; rw [if_pos rfl]]
    rw [h00]
    clear hl hs hle h00
    go_enter Tryz.func44, Tryz.ntmps44
    go_wp2
    go_loop [6, 7] (fun n i => ∃ z k : Nat, n = .int .u64 z ∧ i = .int .i64 k ∧ k ≤ l.length ∧ z ≤ 42949672960 ∧ Hid (z = valD (l.take k) ∧ (l.take k).all isD = true)) (fun _ i => l.length + 1 - (intOf i).toNat)
    case atStart => exact ⟨0, 0, rfl, rfl, Nat.zero_le _, by omega, Lib.hid ⟨by simp [valD, valF], by simp⟩⟩
    case round =>
      obtain ⟨z, k, rfl, rfl, hk, hz, HZ⟩ := hrel
      have hzI : (z : Int) ≤ 42949672960 := by omega
      have hszI : (t.size : Int) = (l.length : Nat) := by have := HL.out; omega
      have hsz1 : (l.length : Int) ≤ 1000 := by have := HS.out; omega
      by_cases hlt : k < l.length
      · have hlts : k < t.size := by have := HL.out; omega
        have hltI : (k : Int) < (l.length : Nat) := by omega
        have hg : ∀ h : k < t.size, t[k]'h = l[k] := fun h => by
          have e : t = str l := by rw [← HLe.out]; rfl
          subst e
          exact str_at l k hlt h
        obtain ⟨c, hc⟩ : ∃ c, l[k] = c := ⟨_, rfl⟩
        rw [hc] at hg
        have hbx : (t[k]'hlts).toNat = c.toNat := by rw [hg]
        have HC := Lib.hid (show l[k]? = some c by rw [List.getElem?_eq_getElem hlt, hc])
        have HLt := Lib.hid hlt
        have hc255 : (c.toNat : Int) < 256 := by have := c.toNat_lt; omega
        have HAll : Hid (l.all isD = true → 48 ≤ c.toNat ∧ c.toNat ≤ 57) := Lib.hid fun h => by
          have := List.all_eq_true.1 h c (List.mem_of_getElem? HC.out)
          rw [isD_has] at this
          simpa using this
        have HBig : Hid (valD (l.take k) ≤ valD l) := Lib.hid (valD_take l k)
        clear hg hc hlt hk hz
        by_cases h48 : (c.toNat : Int) < 48
        · go_wp2
          go_ret2
          refine ⟨0, by rw [(numOk_no (l := l) (.inl fun h => by have := HAll.out h; omega))]; rfl, ?_, rfl⟩
          rw [(numOk_no (l := l) (.inl fun h => by have := HAll.out h; omega))]
          intro h; cases h
        · by_cases h57 : (57 : Int) < (c.toNat : Int)
          · go_wp2
            go_ret2
            refine ⟨0, by rw [(numOk_no (l := l) (.inl fun h => by have := HAll.out h; omega))]; rfl, ?_, rfl⟩
            rw [(numOk_no (l := l) (.inl fun h => by have := HAll.out h; omega))]
            intro h; cases h
          · by_cases hm : (4294967295 : Int) < (z : Int)
            · go_wp2
              go_ret2
              refine ⟨0, by rw [(numOk_no (l := l) (.inr (by have := HBig.out; have := HZ.out.1; omega)))]; rfl, ?_, rfl⟩
              rw [(numOk_no (l := l) (.inr (by have := HBig.out; have := HZ.out.1; omega)))]
              intro h; cases h
            · have HN := Lib.hid (show 10 * z + (c.toNat - 48) = valD (l.take (k + 1)) ∧ (l.take (k + 1)).all isD = true by
                rw [List.take_add_one, HC.out]
                refine ⟨by rw [Option.toList_some, valD_one, ← HZ.out.1], ?_⟩
                rw [List.all_append, HZ.out.2]
                simp only [Option.toList_some, List.all_cons, List.all_nil, Bool.and_true, Bool.true_and]
                rw [isD_has]
                simp; omega)
              go_wp2
              go_round
              case rel => exact ⟨10 * z + (c.toNat - 48), k + 1, by go_num, by go_num, HLt.out, by omega, HN⟩
              case measure => simp [intOf]; have := HLt.out; omega
      · have hke : k = l.length := by omega
        have HN := Lib.hid (show z = valD l ∧ l.all isD = true by have h := HZ.out; rwa [hke, List.take_of_length_le (Nat.le_refl _)] at h)
        have hltI : ¬ (k : Int) < (l.length : Nat) := by omega
        clear hlt hk hz
        by_cases h0 : (0 : Int) < (l.length : Nat)
        · by_cases hm : (z : Int) ≤ 4294967295
          · go_wp2
            go_ret2
            refine ⟨z, by rw [(numOk_yes (by omega) HN.out.2 (by have := HN.out.1; omega))]; rfl, ?_, rfl⟩
            exact fun _ => HN.out.1
          · go_wp2
            go_ret2
            refine ⟨z, by rw [(numOk_no (l := l) (.inr (by have := HN.out.1; omega)))]; rfl, ?_, rfl⟩
            rw [(numOk_no (l := l) (.inr (by have := HN.out.1; omega)))]
            intro h; cases h
        · have hl00 : l.length = 0 := by omega
          go_wp2
          go_ret2
          refine ⟨z, by rw [(numOk_nil hl00)]; rfl, ?_, rfl⟩
          rw [(numOk_nil hl00)]
          intro h; cases h
  · have hlI : ¬ ((letter.toNat : Int) = 0) := fun h => hl0 (UInt8.toNat_inj.1 (show letter.toNat = (0 : UInt8).toNat from (show letter.toNat = 0 by omega)))
    have hlb : ((letter.toNat : Int) == 0) = false := beq_eq_false_iff_ne.2 hlI
    cases ht : t.data.toList with
    | nil =>
      have e : t = str [] := by rw [← ht]; rfl
      subst e
      have hem : (str []).toList.isEmpty = true := by rw [ByteArray.toList_eq]; rfl
      rw [numA_nil hl0]
      go_enter Tryz.func44, Tryz.ntmps44
      go_wp2
      go_ret2
      exact ⟨0, rfl, (fun h => by cases h), rfl⟩
    | cons c r =>
      have hne : t.toList.isEmpty = false := by rw [ByteArray.toList_eq, ht]; rfl
      have hsz : 0 < t.size := by rw [Lib.size_eq, ht]; simp
      have hg : ∀ h : 0 < t.size, t[0]'h = c := fun h => by
        have e : t = str (c :: r) := by rw [← ht]; rfl
        subst e
        exact str_at (c :: r) 0 (by simp) h
      have hbx : (t[0]'hsz).toNat = c.toNat := by rw [hg]
      have hsI : (0 : Int) < (t.size : Int) := by omega
      by_cases hcl : c = letter
      · subst hcl
        have hlb2 : ((c.toNat : Int) == (c.toNat : Int)) = true := by simp
        have h1I : (1 : Int) ≤ (t.size : Int) := by omega
        have HX := Lib.hid (show (t.extract 1 t.size).data.toList = r by
          rw [Lib.extract_data, Lib.size_eq, ht]
          simp)
        have HS0 := Lib.hid hs
        rw [numA_cons hl0, show numV c (c :: r) = valD r by unfold numV; rw [if_neg hl0]; rfl]
        clear hg ht hs
        go_enter Tryz.func44, Tryz.ntmps44
        go_wp2
        have hx1 : (t.extract 1 t.size).size ≤ 1000 := by rw [Lib.size_eq, Lib.extract_data]; simp; have := HS0.out; omega
        obtain ⟨t2, ht2⟩ : ∃ t2, t.extract 1 t.size = t2 := ⟨_, rfl⟩
        rw [ht2] at hx1 HX
        simp only [ht2]
        have HLe := HX
        have HL := Lib.hid (show t2.size = r.length by rw [Lib.size_eq, HX.out])
        have HS := Lib.hid hx1
        have hs2 : t2.size ≤ 9223372036854775807 := by omega
        clear hx1 ht2 hbx hsz hne hsI h1I
        go_loop [6, 7] (fun n i => ∃ z k : Nat, n = .int .u64 z ∧ i = .int .i64 k ∧ k ≤ r.length ∧ z ≤ 42949672960 ∧ Hid (z = valD (r.take k) ∧ (r.take k).all isD = true)) (fun _ i => r.length + 1 - (intOf i).toNat)
        case atStart => exact ⟨0, 0, rfl, rfl, Nat.zero_le _, by omega, Lib.hid ⟨by simp [valD, valF], by simp⟩⟩
        case round =>
          obtain ⟨z, k, rfl, rfl, hk, hz, HZ⟩ := hrel
          have hzI : (z : Int) ≤ 42949672960 := by omega
          have hszI : (t2.size : Int) = (r.length : Nat) := by have := HL.out; omega
          have hsz1 : (r.length : Int) ≤ 1000 := by have := HS.out; omega
          by_cases hlt : k < r.length
          · have hlts : k < t2.size := by have := HL.out; omega
            have hltI : (k : Int) < (r.length : Nat) := by omega
            have hg : ∀ h : k < t2.size, t2[k]'h = r[k] := fun h => by
              have e : t2 = str r := by rw [← HLe.out]; rfl
              subst e
              exact str_at r k hlt h
            obtain ⟨c, hc⟩ : ∃ c, r[k] = c := ⟨_, rfl⟩
            rw [hc] at hg
            have hbx : (t2[k]'hlts).toNat = c.toNat := by rw [hg]
            have HC := Lib.hid (show r[k]? = some c by rw [List.getElem?_eq_getElem hlt, hc])
            have HLt := Lib.hid hlt
            have hc255 : (c.toNat : Int) < 256 := by have := c.toNat_lt; omega
            have HAll : Hid (r.all isD = true → 48 ≤ c.toNat ∧ c.toNat ≤ 57) := Lib.hid fun h => by
              have := List.all_eq_true.1 h c (List.mem_of_getElem? HC.out)
              rw [isD_has] at this
              simpa using this
            have HBig : Hid (valD (r.take k) ≤ valD r) := Lib.hid (valD_take r k)
            clear hg hc hlt hk hz
            by_cases h48 : (c.toNat : Int) < 48
            · go_wp2
              go_ret2
              refine ⟨0, by rw [(numOk_no (l := r) (.inl fun h => by have := HAll.out h; omega))]; rfl, ?_, rfl⟩
              rw [(numOk_no (l := r) (.inl fun h => by have := HAll.out h; omega))]
              intro h; cases h
            · by_cases h57 : (57 : Int) < (c.toNat : Int)
              · go_wp2
                go_ret2
                refine ⟨0, by rw [(numOk_no (l := r) (.inl fun h => by have := HAll.out h; omega))]; rfl, ?_, rfl⟩
                rw [(numOk_no (l := r) (.inl fun h => by have := HAll.out h; omega))]
                intro h; cases h
              · by_cases hm : (4294967295 : Int) < (z : Int)
                · go_wp2
                  go_ret2
                  refine ⟨0, by rw [(numOk_no (l := r) (.inr (by have := HBig.out; have := HZ.out.1; omega)))]; rfl, ?_, rfl⟩
                  rw [(numOk_no (l := r) (.inr (by have := HBig.out; have := HZ.out.1; omega)))]
                  intro h; cases h
                · have HN := Lib.hid (show 10 * z + (c.toNat - 48) = valD (r.take (k + 1)) ∧ (r.take (k + 1)).all isD = true by
                    rw [List.take_add_one, HC.out]
                    refine ⟨by rw [Option.toList_some, valD_one, ← HZ.out.1], ?_⟩
                    rw [List.all_append, HZ.out.2]
                    simp only [Option.toList_some, List.all_cons, List.all_nil, Bool.and_true, Bool.true_and]
                    rw [isD_has]
                    simp; omega)
                  go_wp2
                  go_round
                  case rel => exact ⟨10 * z + (c.toNat - 48), k + 1, by go_num, by go_num, HLt.out, by omega, HN⟩
                  case measure => simp [intOf]; have := HLt.out; omega
          · have hke : k = r.length := by omega
            have HN := Lib.hid (show z = valD r ∧ r.all isD = true by have h := HZ.out; rwa [hke, List.take_of_length_le (Nat.le_refl _)] at h)
            have hltI : ¬ (k : Int) < (r.length : Nat) := by omega
            clear hlt hk hz
            by_cases h0 : (0 : Int) < (r.length : Nat)
            · by_cases hm : (z : Int) ≤ 4294967295
              · go_wp2
                go_ret2
                refine ⟨z, by rw [(numOk_yes (by omega) HN.out.2 (by have := HN.out.1; omega))]; rfl, ?_, rfl⟩
                exact fun _ => HN.out.1
              · go_wp2
                go_ret2
                refine ⟨z, by rw [(numOk_no (l := r) (.inr (by have := HN.out.1; omega)))]; rfl, ?_, rfl⟩
                rw [(numOk_no (l := r) (.inr (by have := HN.out.1; omega)))]
                intro h; cases h
            · have hl00 : r.length = 0 := by omega
              go_wp2
              go_ret2
              refine ⟨z, by rw [(numOk_nil hl00)]; rfl, ?_, rfl⟩
              rw [(numOk_nil hl00)]
              intro h; cases h
    
      · have hcb : ((c.toNat : Int) == (letter.toNat : Int)) = false := by
          rw [beq_eq_false_iff_ne]
          intro h
          exact hcl (UInt8.toNat_inj.1 (by omega))
        rw [numA_other hl0 hcl]
        go_enter Tryz.func44, Tryz.ntmps44
        go_wp2
        go_ret2
        exact ⟨0, rfl, (fun h => by cases h), rfl⟩
end Go.Proofs.YtkodjmdghjcndaaGreatDoor
