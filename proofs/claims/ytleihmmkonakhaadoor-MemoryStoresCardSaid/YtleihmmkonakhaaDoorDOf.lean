/- Of, Number, and the document's sum. -/
import Derived.Test.YtleihmmkonakhaaDoorDWrite
import Derived.Test.YtleihmmkonakhaaDoorW2
namespace Go.Proofs.YtleihmmkonakhaaDoor
open Go Go.RowKit

theorem lists_lit {n : Nat} (w : World) (vs : List Value) (ls : List (List UInt8)) (_hl : vs.length = ls.length) (hm : ls.length ≤ maxLen) (hn : n ≤ w.heap.size)
    (h : ∀ i, i < ls.length → ∃ u, vs[i]? = some u ∧ Bytes n w u (ls.getD i [])) :
    Lists n (w.alloc (.cells vs.toArray 59)) (.slice (some ⟨w.heap.size, 0, none⟩) ls.length ls.length) ls := by
  refine ⟨_, _, rfl, Nat.le_refl _, hm, fun _ => ⟨w.heap.size, 0, rfl, fun i hi => ?_⟩⟩
  obtain ⟨u, hu, hb⟩ := h i hi
  refine ⟨u, ?_, hb.below ((Below.refl _ _).alloc hn _)⟩
  simp [hu]
theorem lists_1 {n : Nat} (w : World) (v : Value) (l : List UInt8) (hn : n ≤ w.heap.size) (h : Bytes n w v l) :
    Lists n (w.alloc (.cells #[v] 59)) (.slice (some ⟨w.heap.size, 0, none⟩) 1 1) [l] :=
  lists_lit w [v] [l] rfl (by simp [maxLen]) hn fun i hi => by
    obtain rfl : i = 0 := by simpa using hi
    exact ⟨v, rfl, h⟩
theorem lists_2 {n : Nat} (w : World) (v u : Value) (l m : List UInt8) (hn : n ≤ w.heap.size) (h : Bytes n w v l) (k : Bytes n w u m) :
    Lists n (w.alloc (.cells #[v, u] 59)) (.slice (some ⟨w.heap.size, 0, none⟩) 2 2) [l, m] :=
  lists_lit w [v, u] [l, m] rfl (by simp [maxLen]) hn fun i hi => by
    match i, hi with
    | 0, _ => exact ⟨v, rfl, h⟩
    | 1, _ => exact ⟨u, rfl, k⟩
theorem lists_4 {n : Nat} (w : World) (v u v2 u2 : Value) (l m l2 m2 : List UInt8) (hn : n ≤ w.heap.size) (h : Bytes n w v l) (k : Bytes n w u m) (h2 : Bytes n w v2 l2) (k2 : Bytes n w u2 m2) :
    Lists n (w.alloc (.cells #[v, u, v2, u2] 59)) (.slice (some ⟨w.heap.size, 0, none⟩) 4 4) [l, m, l2, m2] :=
  lists_lit w [v, u, v2, u2] [l, m, l2, m2] rfl (by simp [maxLen]) hn fun i hi => by
    match i, hi with
    | 0, _ => exact ⟨v, rfl, h⟩
    | 1, _ => exact ⟨u, rfl, k⟩
    | 2, _ => exact ⟨v2, rfl, h2⟩
    | 3, _ => exact ⟨u2, rfl, k2⟩
theorem lists_0 {n : Nat} (w : World) : Lists n w (.slice none 0 0) [] := ⟨none, 0, rfl, by simp, by simp, fun h => absurd rfl h⟩

def SumPost (l : List UInt8) (w : World) (e : Ending) (w' : World) : Prop := e = .returned (.int .u64 (sumS l)) ∧ Adds w w'

def NumPost' (b bits many : Nat) (l : List UInt8) (err : Int) (w : World) (e : Ending) (w' : World) : Prop :=
  e = .returned (.int .i64 err) ∧ Blk w' b (digK 256 (foldS bits l) (many + l.length)) ∧ Turns b w w'

theorem fixB_len (n : Nat) (x : Int) : (fixB n x).length ≤ 8 := by
  unfold fixB
  split
  · rename_i h
    rw [leB_length]
    unfold fixE at h
    split at h
    · rename_i hw
      obtain ⟨k, rfl, hk⟩ := isW_nat hw
      simpa using hk
    · simp at h
  · simp

set_option maxRecDepth 100000 in
set_option maxHeartbeats 1000000 in
theorem numberD_any (b bits many : Nat) (hs : U64 bits) (n : Nat) (x : Int) (w : World) (hw : Widths w) (hB : Blk w b (digK 256 bits many)) (hm : many + 8 ≤ 9223372036854775807) :
    Calls Tryd.prog 34 #[.pointer (some ⟨b, 0, none⟩), .int .u64 n, .int .i64 x] w (NumPost' b bits many (fixB n x) (fixE n x) w) := by
  have HN := Lib.hid (isNone_full b bits many w hB)
  have HF := Lib.hid (fixed_any n x w hw)
  have HB := Lib.hid hB; clear hB
  have HS := Lib.hid hs; clear hs
  have hl8 := fixB_len n x
  have HEQ := Lib.hid (show fixE n x ≠ 0 → fixB n x = [] from fun h => by rw [fixB, if_neg h])
  obtain ⟨l, hl⟩ : ∃ l, fixB n x = l := ⟨_, rfl⟩
  obtain ⟨er, her⟩ : ∃ er, fixE n x = er := ⟨_, rfl⟩
  rw [hl] at HF HEQ hl8 ⊢
  rw [her] at HF HEQ ⊢
  clear hl her
  go_enter Tryd.func34, Tryd.ntmps34
  go_wp2
  refine wp_scope_fwd 0 rfl ?_
  go_wp2_with fail
  refine HN.out.mono ?_
  rintro e w' ⟨rfl, rfl⟩
  go_wp2_with fail
  refine HF.out.mono ?_
  rintro e w1 ⟨v1, rfl, o1, a1⟩
  have A1 := Lib.hid a1; clear a1
  have O1 := Lib.hid o1.bytes; clear o1
  have HB1 := Lib.hid (HB.out.adds A1.out)
  by_cases he : er = 0
  · subst he
    obtain ⟨ao, cap, rfl, h1, h2, _⟩ := id O1.out
    have HW := Lib.hid (write_any b bits many HS.out _ [l] _ (lists_1 w1 _ l (Nat.le_refl _) O1.out) (HB1.out.adds ((Below.refl _ _).alloc (Nat.le_refl _) _)) (by simp; omega))
    go_wp2_with (go_at_call 47; refine HW.out.mono ?_; rintro e w2 ⟨rfl, hB2, ht⟩; have HB2 := Lib.hid hB2; clear hB2; have HT := Lib.hid ht; clear ht)
    simp only [Exit.jump]
    go_ret
    refine ⟨rfl, ?_, (Turns.of_adds b A1.out).trans ((Turns.alloc _ _ _).trans HT.out)⟩
    have hfin := HB2.out
    simp only [List.flatten_cons, List.flatten_nil, List.append_nil] at hfin
    exact hfin
  · have hne : (er != 0) = true := by simpa using he
    have hnil := HEQ.out he
    have HNIL := Lib.hid hnil; clear hnil
    clear he
    go_wp2_with fail
    go_step3
    refine ⟨rfl, ?_⟩
    go_wp2
    rw [Exit.noGoto_ret]
    go_ret
    refine ⟨rfl, ?_, Turns.of_adds b A1.out⟩
    rw [HNIL.out]
    exact HB1.out

theorem half_in {q : Nat} (h : q < 18446744073709551616) : IntKind.u64.wrap ((q : Int) / 2) = (q : Int) / 2 := by rw [IntKind.wrap_u64]; omega

set_option maxRecDepth 100000 in
set_option maxHeartbeats 1000000 in
theorem refOf_any {n : Nat} (v : Value) (l : List UInt8) (w : World) (hv : Bytes n w v l) :
    Calls Tryd.prog 25 #[v] w fun e w' => e = .returned (.int .u64 (sumS l)) ∧ w = w' := by
  obtain ⟨ao, cap, rfl, h1, h2, h3⟩ := hv
  unfold maxLen at h2
  have HC := Lib.hid h3; clear h3
  go_enter Tryd.func25, Tryd.ntmps25
  go_wp2_with fail
  go_loop [3, 4, 5, 6] (fun x i _ _ => ∃ k : Nat, k ≤ l.length ∧ i = .int .i64 k ∧ x = .int .u64 (foldS all1 (l.take k))) (fun _ i _ _ => l.length - (intOf i).toNat)
  case atStart => exact ⟨0, Nat.zero_le _, rfl, rfl⟩
  case round =>
    obtain ⟨k, hk, rfl, rfl⟩ := hrel
    by_cases hlt : k < l.length
    · obtain ⟨b1, off, rfl, _, hc1⟩ := HC.out (by rintro rfl; simp at hlt)
      have hcell := hc1 k hlt
      clear hc1
      have hU : U64 (foldS all1 (l.take k)) := foldS_lt _ all1_lt
      have HF := Lib.hid (foldS_take all1 l k hlt)
      obtain ⟨x, hx⟩ : ∃ x, l.getD k 0 = x := ⟨_, rfl⟩
      rw [hx] at HF hcell
      unfold byteV at hcell
      obtain ⟨y, hy⟩ : ∃ y, foldS all1 (l.take k) = y := ⟨_, rfl⟩
      rw [hy] at HF hU ⊢
      have hx8 : x.toNat < 256 := x.toNat_lt
      have hxo : bits .xor .u64 (y : Int) (x.toNat : Int) = ((y ^^^ x.toNat : Nat) : Int) := u64_xor_nat _ _ hU (by omega)
      have HZ := Lib.hid (show U64 (y ^^^ x.toNat) from Nat.xor_lt_two_pow (n := 64) hU (by omega))
      have HBy := Lib.hid (show dnK 8 (y ^^^ x.toNat) = foldS all1 (l.take (k + 1)) from HF.out)
      obtain ⟨z, hz⟩ : ∃ z, y ^^^ x.toNat = z := ⟨_, rfl⟩
      rw [hz] at hxo HZ HBy
      clear hx hy hz hU
      go_wp2_with fail
      go_loop [3, 5, 6] (fun x i _ => ∃ j : Nat, j ≤ 8 ∧ i = .int .i64 j ∧ x = .int .u64 (dnK j z : Nat)) (fun _ i _ => 8 - (intOf i).toNat)
      case atStart => exact ⟨0, by omega, rfl, rfl⟩
      case round =>
        obtain ⟨j, hj, rfl, rfl⟩ := hrel
        have hyU : U64 (dnK j z) := dnK_lt j HZ.out
        have HD := Lib.hid (dnK_snoc j z)
        obtain ⟨q, hq⟩ : ∃ q, dnK j z = q := ⟨_, rfl⟩
        have HQ := Lib.hid hq
        rw [hq] at hyU HD ⊢
        clear hq
        have hxl := xor_laid hyU
        have e2 : ((q / 2 : Nat) : Int) = (q : Int) / 2 := by omega
        rw [e2] at hxl
        have hwr := half_in hyU
        clear hyU
        by_cases hlt8 : j < 8
        · by_cases hodd : q % 2 = 1
          · have hb : ((q : Int) % 2 == 1) = true := by rw [beq_iff_eq]; omega
            have HO := Lib.hid (HD.out.trans (dn_odd hodd))
            obtain ⟨r, hr⟩ : ∃ r, (q / 2) ^^^ 14514072000185962306 = r := ⟨_, rfl⟩
            rw [hr] at hxl HO
            clear hodd hr e2
            go_wp2_with fail
            go_round
            case rel => exact ⟨j + 1, by omega, by go_num, int_eq (by rw [HO.out])⟩
            case measure => simp [intOf]; omega
          · have hb : ((q : Int) % 2 == 1) = false := by rw [beq_eq_false_iff_ne]; omega
            have HO := Lib.hid (HD.out.trans (dn_even' hodd))
            have HE := Lib.hid e2
            clear hodd e2 hxl
            go_wp2_with fail
            go_round
            case rel => exact ⟨j + 1, by omega, by go_num, int_eq (by rw [HO.out, HE.out])⟩
            case measure => simp [intOf]; omega
        · obtain rfl : j = 8 := by omega
          have HBQ := Lib.hid (HQ.out.symm.trans HBy.out)
          clear e2 hxl hwr
          go_wp2_with fail
          go_round
          case rel => exact ⟨k + 1, by omega, by go_num, int_eq (by rw [HBQ.out])⟩
          case measure => simp [intOf]; omega
    · have HN := Lib.hid (not_u64 (bitsS_lt l))
      have HT := Lib.hid (show foldS all1 (l.take k) = bitsS l by rw [List.take_of_length_le (by omega)]; rfl)
      go_wp2_with fail
      go_ret
      exact ⟨ret_int (by rw [HT.out]; exact HN.out), rfl⟩
end Go.Proofs.YtleihmmkonakhaaDoor
