/- Merged: DA. -/
import Derived.WalkKit
import Derived.WalkSpells
import Derived.Laws.Rows
import Derived.Test.YthhegcngkpfcoaaGreatDoorF0
import Derived.Test.YthhegcngkpfcoaaGreatDoorF24
import Derived.Test.YthhegcngkpfcoaaGreatDoorRows
import Derived.Laws.BitsAllLaws
import Derived.StillTailTactics
namespace Go.Proofs.YthhegcngkpfcoaaGreatDoor
open Go Go.RowKit

/-- A block of a digest: what its cells hold. -/
def Blk (w : World) (b : Nat) (l : List Value) : Prop := w.heap[b]? = some (.cells l.toArray 154 (0, 0))

theorem Blk.lt {w : World} {b : Nat} {l : List Value} (h : Blk w b l) : b < w.heap.size := (Array.getElem?_eq_some_iff.1 h).1
theorem Blk.cell {w : World} {b : Nat} {l : List Value} (h : Blk w b l) (i : Nat) : w.cell? ⟨b, i, none⟩ = l[i]? := by
  rw [cell_of_row w b i _ _ _ h]; simp
theorem Blk.free {w : World} {b : Nat} {l : List Value} (h : Blk w b l) (i : Nat) : w.frozen? ⟨b, i, none⟩ = false := by
  unfold Blk at h
  simp [World.frozen?, h]
theorem Blk.set {w : World} {b : Nat} {l : List Value} (h : Blk w b l) (i : Nat) (u : Value) : Blk (w.setCell ⟨b, i, none⟩ u) b (l.set i u) := by
  unfold Blk at *
  simp only [World.setCell, Array.getElem?_modify, h]
  simp
theorem Blk.drew {w : World} {b : Nat} {l : List Value} (h : Blk w b l) : Blk w.drew b l := h
theorem Blk.new (w : World) (l : List Value) : Blk (w.alloc (.cells l.toArray 154)) w.heap.size l := heap_alloc_new w _
theorem Blk.grown {w w' : World} {b : Nat} {l : List Value} {row : Option Nat} (h : Blk w b l) (hg : w.grownBy w' row) (hb : some b ≠ row) : Blk w' b l := (hg.block b h.lt hb).trans h
theorem Blk.adds {w w' : World} {b : Nat} {l : List Value} (h : Blk w b l) (ha : Adds w w') : Blk w' b l := (ha.block b h.lt).trans h

/-- What turns one block alone, and makes memory. -/
def Turns (b : Nat) (w w' : World) : Prop := w.grownBy w' (some b)
theorem Turns.refl (b : Nat) (w : World) : Turns b w w := ⟨rfl, rfl, rfl, Nat.le_refl _, fun _ _ _ => rfl⟩
theorem Turns.of_adds (b : Nat) {w w' : World} (h : Adds w w') : Turns b w w' := ⟨h.os, h.tape, h.output, h.size, fun k hk _ => h.block k hk⟩
theorem Turns.trans {b : Nat} {u v w : World} (h : Turns b u v) (k : Turns b v w) : Turns b u w :=
  ⟨k.os.trans h.os, k.tape.trans h.tape, k.output.trans h.output, Nat.le_trans h.size k.size, fun i hi hb => (k.block i (Nat.lt_of_lt_of_le hi h.size) hb).trans (h.block i hi hb)⟩
theorem Turns.setCell (b i : Nat) (w : World) (u : Value) : Turns b w (w.setCell ⟨b, i, none⟩ u) :=
  ⟨rfl, rfl, rfl, by simp [World.setCell], fun k _ hb => Below.heap_setCell w _ _ _ (fun e => hb (by rw [e]))⟩
theorem Turns.drew (b : Nat) (w : World) : Turns b w w.drew := ⟨rfl, rfl, rfl, Nat.le_refl _, fun _ _ _ => rfl⟩
theorem Turns.alloc (b : Nat) (w : World) (o : Obj) : Turns b w (w.alloc o) := Turns.of_adds b ((Below.refl _ _).alloc (Nat.le_refl _) _)
/-- A block that the call itself made: nothing that was there has turned. -/
theorem Turns.own {b : Nat} {u v w : World} (h : Adds u v) (hb : u.heap.size ≤ b) (k : Turns b v w) : Adds u w :=
  ⟨k.os.trans h.os, k.tape.trans h.tape, k.output.trans h.output, Nat.le_trans h.size k.size, fun i hi => (k.block i (Nat.lt_of_lt_of_le hi h.size) (fun e => by cases e; omega)).trans (h.block i hi)⟩
theorem Turns.below {b : Nat} {v w : World} (h : Turns b v w) (hb : b ≤ v.heap.size) : Below b v w :=
  ⟨h.os, h.tape, h.output, h.size, fun i hi => h.block i (by omega) (fun e => by cases e; omega)⟩

/-- The table's first k bytes filled. -/
def tabV (k i : Nat) : Value := .int .u64 ((if i < k then dnK 8 i else 0 : Nat) : Int)
def digK (k : Nat) (bits many : Nat) : List Value := (List.range 256).map (tabV k) ++ [.int .u64 bits, .int .i64 many]
theorem digK_tab (k bits many i : Nat) (h : i < 256) : (digK k bits many)[i]? = some (tabV k i) := by
  unfold digK
  rw [List.getElem?_append_left (by simpa using h)]
  simp [h]
theorem digK_bits (k bits many : Nat) : (digK k bits many)[256]? = some (.int .u64 bits) := by
  unfold digK
  rw [List.getElem?_append_right (by simp)]
  simp
theorem digK_many (k bits many : Nat) : (digK k bits many)[257]? = some (.int .i64 many) := by
  unfold digK
  rw [List.getElem?_append_right (by simp)]
  simp
theorem digK_set (k bits many : Nat) (h : k < 256) : (digK k bits many).set k (.int .u64 (dnK 8 k : Nat)) = digK (k + 1) bits many := by
  unfold digK
  rw [List.set_append_left _ _ (by simpa using h)]
  congr 1
  apply List.ext_getElem
  · simp
  · intro i h1 h2
    simp only [List.length_map, List.length_range] at h2
    rw [List.getElem_set]
    split
    · rename_i e
      subst e
      simp [tabV]
    · rename_i e
      simp only [List.getElem_map, List.getElem_range, tabV]
      by_cases hik : i < k
      · rw [if_pos hik, if_pos (by omega)]
      · rw [if_neg hik, if_neg (by omega)]
theorem digK_set_bits (k bits many bits' : Nat) : (digK k bits many).set 256 (.int .u64 bits') = digK k bits' many := by
  unfold digK
  rw [List.set_append_right _ _ (by simp)]
  simp
theorem digK_set_many (k bits many many' : Nat) : (digK k bits many).set 257 (.int .i64 many') = digK k bits many' := by
  unfold digK
  rw [List.set_append_right _ _ (by simp)]
  simp

section
variable {P : Program}
/-- An operation whose run is known. -/
theorem wpList_run {ops : Array Oper} {rest : List Oper} {o : Oper} {a : Act} {w w' : World} {Q : Exit → Act → World → Prop} {v : Value} (hgd : o.guard = none)
    (hrun : (execOp a.eval o).run P w = .ok (.value v) w') (h : wpList P ops Q rest (a.put o.dst v) w') : wpList P ops Q (o :: rest) a w :=
  wpList_plain hgd fun _ hK => by
    unfold Oper.wp
    rw [hrun]
    exact hK _ _ h
end

theorem build_new (w : World) : (Instr.build 154 #[(1, .int .u64 18446744073709551615)]).run Tryz.prog w = .ok (.agg (digK 0 18446744073709551615 0).toArray) w := by kernel_rfl
section
variable {P : Program} {ops : Array Oper} {rest : List Oper} {o : Oper} {a : Act} {w : World} {Q : Exit → Act → World → Prop}
theorem wpList_build1 {t : TypeId} {i : Nat} {x : Operand} (hgd : o.guard = none) (hop : o.op = .build t #[(i, x)]) (y v : Value) (hrun : ∀ w, (Instr.build t #[(i, y)]).run P w = .ok v w) (hy : a.eval x = y)
    (h : wpList P ops Q rest (a.put o.dst v) w) : wpList P ops Q (o :: rest) a w := by
  subst hy
  exact wpList_run hgd (by simp [execOp, hop, hrun w, Result.andThen]) h
theorem wpList_box {t : TypeId} {x : Operand} (hgd : o.guard = none) (hop : o.op = .box t x) (l : List Value) (hx : a.eval x = .agg l.toArray)
    (h : wpList P ops Q rest (a.put o.dst (.pointer (some ⟨w.heap.size, 0, none⟩))) (w.alloc (.cells l.toArray t))) : wpList P ops Q (o :: rest) a w :=
  wpList_run hgd (by simp only [execOp, hop, hx, Sem.run_bind]; rfl) h
end
end Go.Proofs.YthhegcngkpfcoaaGreatDoor
namespace Go.Proofs.YthhegcngkpfcoaaGreatDoor
open Go Go.RowKit

theorem and_one {x : Nat} (h : x < 18446744073709551616) : bits .and .u64 (x : Int) 1 = ((x % 2 : Nat) : Int) := by
  have := u64_and_nat x 1 h (by omega)
  rw [nat_mask1] at this
  exact this
theorem xor_laid {x : Nat} (h : x < 18446744073709551616) : bits .xor .u64 ((x / 2 : Nat) : Int) 14514072000185962306 = (((x / 2) ^^^ 14514072000185962306 : Nat) : Int) :=
  u64_xor_nat (x / 2) 14514072000185962306 (by omega) (by omega)
theorem dn_odd {x : Nat} (h : x % 2 = 1) : dn x = (x / 2) ^^^ 14514072000185962306 := by rw [dn, if_pos h]
theorem dn_even' {x : Nat} (h : ¬ x % 2 = 1) : dn x = x / 2 := by rw [dn, if_neg h]

set_option maxHeartbeats 400000 in
theorem down_any (x : Nat) (hx : U64 x) (w : World) :
    Calls Tryz.prog 122 #[.int .u64 x] w fun e w' => e = .returned (.int .u64 (dn x)) ∧ w = w' := by
  have h1 := and_one hx
  have h2 := xor_laid hx
  have e2 : ((x / 2 : Nat) : Int) = (x : Int) / 2 := by omega
  rw [e2] at h2
  by_cases h : x % 2 = 1
  · have h3 : (((x % 2 : Nat) : Int) == 1) = true := by rw [h]; rfl
    rw [dn_odd h]
    clear h e2 hx
    obtain ⟨y, hy⟩ : ∃ y : Nat, y = (x / 2) ^^^ 14514072000185962306 := ⟨_, rfl⟩
    rw [← hy] at h2 ⊢
    clear hy
    obtain ⟨z, hz⟩ : ∃ z : Nat, z = x % 2 := ⟨_, rfl⟩
    rw [← hz] at h1 h3
    clear hz
    go_enter Tryz.func122, Tryz.ntmps122
    go_wp2
    go_ret
    exact ⟨rfl, rfl⟩
  · have h3 : (((x % 2 : Nat) : Int) == 1) = false := by rw [beq_eq_false_iff_ne]; omega
    rw [dn_even' h, e2]
    clear h e2 hx h2
    obtain ⟨z, hz⟩ : ∃ z : Nat, z = x % 2 := ⟨_, rfl⟩
    rw [← hz] at h1 h3
    clear hz
    go_enter Tryz.func122, Tryz.ntmps122
    go_wp2
    go_ret
    exact ⟨rfl, rfl⟩

theorem dnU (k : Nat) {x : Nat} (h : U64 x) : U64 (dnK k x) := dnK_lt k h

set_option maxHeartbeats 1000000 in
set_option maxRecDepth 100000 in
theorem fill_any (b bits many : Nat) (w : World) (hb : Blk w b (digK 0 bits many)) :
    Calls Tryz.prog 88 #[.pointer (some ⟨b, 0, none⟩)] w fun e w' => (∃ v, e = .returned v) ∧ Blk w' b (digK 256 bits many) ∧ Turns b w w' := by
  have HB := Lib.hid hb; clear hb
  go_enter Tryz.func88, Tryz.ntmps88
  go_wp2_with fail
  go_loopw [2, 3, 4] (fun _ _ i wr => ∃ k : Nat, k ≤ 256 ∧ i = .int .i64 k ∧ Blk wr b (digK k bits many) ∧ Turns b w wr) (fun _ _ i _ => 256 - (intOf i).toNat)
  case atStart => exact ⟨0, by omega, rfl, HB.out, Turns.refl _ _⟩
  case round =>
    obtain ⟨k, hk, rfl, hB, hT⟩ := hrel
    have HBk := Lib.hid hB; clear hB
    have HT := Lib.hid hT; clear hT
    by_cases hlt : k < 256
    · have hfr := HBk.out.free
      have hc := (HBk.out.cell k).trans (digK_tab k bits many k hlt)
      go_wp2_with fail
      have hd : decide ((k : Int) < 256) = true := by rw [decide_eq_true_eq]; omega
      rw [hd]; clear hd
      go_loop [3, 9] (fun x i => ∃ j : Nat, j ≤ 8 ∧ i = .int .i64 j ∧ x = .int .u64 (dnK j k : Nat)) (fun _ i => 8 - (intOf i).toNat)
      case atStart => exact ⟨0, by omega, rfl, rfl⟩
      case round =>
        obtain ⟨j, hj, rfl, rfl⟩ := hrel
        by_cases hlt8 : j < 8
        · have HD := Lib.hid (down_any (dnK j k) (dnU j (by unfold U64; omega)) wr)
          go_wp2_with (go_at_call 122; refine HD.out.mono ?_; rintro e w' ⟨rfl, rfl⟩)
          go_round
          case rel => exact ⟨j + 1, by omega, by go_num, by rw [dnK_snoc]⟩
          case measure => simp [intOf]; omega
        · obtain rfl : j = 8 := by omega
          go_wp2_with fail
          go_roundw
          case rel => exact ⟨k + 1, by omega, by go_num, by rw [← digK_set _ _ _ hlt]; exact HBk.out.set _ _, HT.out.trans (Turns.setCell _ _ _ _)⟩
          case measure => simp [intOf]; omega
    · obtain rfl : k = 256 := by omega
      go_wp2_with fail
      go_end0
      exact ⟨⟨_, rfl⟩, HBk.out, HT.out⟩

def NewPost (bits many : Nat) (w : World) (e : Ending) (w' : World) : Prop :=
  ∃ b, e = .returned (.pointer (some ⟨b, 0, none⟩)) ∧ w.heap.size ≤ b ∧ Blk w' b (digK 256 bits many) ∧ Adds w w'

set_option maxRecDepth 100000 in
theorem new_any (w : World) : Calls Tryz.prog 63 #[] w (NewPost all1 0 w) := by
  have HF := Lib.hid (fill_any w.heap.size 18446744073709551615 0 (w.alloc (.cells (digK 0 18446744073709551615 0).toArray 154)) (Blk.new _ _))
  go_enter Tryz.func63, Tryz.ntmps63
  go_wp2_with (first
    | ((with_reducible refine wpList_build1 rfl rfl (.int .u64 18446744073709551615) _ build_new ?_ ?_); (· exact rfl))
    | ((with_reducible refine wpList_box rfl rfl (digK 0 18446744073709551615 0) ?_ ?_); (· exact rfl))
    | (go_at_call 88; refine HF.out.mono ?_; rintro e w1 ⟨⟨v, rfl⟩, hb, ht⟩; have HB := Lib.hid hb; clear hb; have HT := Lib.hid ht; clear ht))
  go_ret
  exact ⟨_, rfl, Nat.le_refl _, HB.out, Turns.own ((Below.refl _ _).alloc (Nat.le_refl _) _) (Nat.le_refl _) HT.out⟩
end Go.Proofs.YthhegcngkpfcoaaGreatDoor
namespace Go.Proofs.YthhegcngkpfcoaaGreatDoor
open Go Go.RowKit

theorem filled_full (b bits many : Nat) (w : World) (hB : Blk w b (digK 256 bits many)) :
    Calls Tryz.prog 123 #[.pointer (some ⟨b, 0, none⟩)] w fun e w' => e = .returned (.bool true) ∧ w = w' := by
  have hc := (hB.cell 1).trans (digK_tab 256 bits many 1 (by omega))
  have hv : tabV 256 1 = .int .u64 (dnK 8 1 : Nat) := rfl
  rw [hv] at hc
  have hne : ((dnK 8 1 : Nat) : Int) != 0 := by decide
  obtain ⟨V, hV⟩ : ∃ V, dnK 8 1 = V := ⟨_, rfl⟩
  rw [hV] at hc hne
  clear hV hv hB
  go_enter Tryz.func123, Tryz.ntmps123
  go_wp2
  go_ret
  exact ⟨rfl, rfl⟩
theorem isNone_full (b bits many : Nat) (w : World) (hB : Blk w b (digK 256 bits many)) :
    Calls Tryz.prog 89 #[.pointer (some ⟨b, 0, none⟩)] w fun e w' => e = .returned (.bool false) ∧ w = w' := by
  have HF := Lib.hid (filled_full b bits many w hB)
  clear hB
  go_enter Tryz.func89, Tryz.ntmps89
  go_wp2_with (go_at_call 123; refine HF.out.mono ?_; rintro e w' ⟨rfl, rfl⟩)
  go_ret
  exact ⟨rfl, rfl⟩
/-- What is a digest that no call made: none, or a zero one. -/
def NoDig (w : World) (v : Value) : Prop := v = .pointer none ∨ ∃ b, v = .pointer (some ⟨b, 0, none⟩) ∧ Blk w b (digK 0 0 0)
theorem NoDig.adds {w w' : World} {v : Value} (h : NoDig w v) (ha : Adds w w') : NoDig w' v := by
  rcases h with h | ⟨b, h, k⟩
  · exact .inl h
  · exact .inr ⟨b, h, k.adds ha⟩
theorem not_u64 {x : Nat} (h : x < 18446744073709551616) : bits .xor .u64 IntKind.u64.max (x : Int) = ((all1 - x : Nat) : Int) := by
  have e : IntKind.u64.max = ((18446744073709551615 : Nat) : Int) := rfl
  rw [e, u64_xor_nat _ _ (by omega) h]
  have h2 := congrArg BitVec.toNat (BitVec.allOnes_xor (x := BitVec.ofNat 64 x))
  simp only [BitVec.toNat_xor, BitVec.toNat_allOnes, BitVec.toNat_not, BitVec.toNat_ofNat] at h2
  rw [Nat.mod_eq_of_lt (show x < 2 ^ 64 from h)] at h2
  exact congrArg Int.ofNat h2

theorem sum_full (b : Nat) (bits many : Nat) (hb : U64 bits) (w : World) (hB : Blk w b (digK 256 bits many)) :
    Calls Tryz.prog 65 #[.pointer (some ⟨b, 0, none⟩)] w fun e w' => e = .returned (.int .u64 (all1 - bits : Nat)) ∧ w = w' := by
  have HN := Lib.hid (isNone_full b bits many w hB)
  have hc := (hB.cell 256).trans (digK_bits _ _ _)
  have HX := Lib.hid (not_u64 hb)
  clear hB hb
  go_enter Tryz.func65, Tryz.ntmps65
  go_wp2_with (go_at_call 89; refine HN.out.mono ?_; rintro e w' ⟨rfl, rfl⟩)
  go_ret
  exact ⟨ret_int HX.out, rfl⟩
end Go.Proofs.YthhegcngkpfcoaaGreatDoor
namespace Go.Proofs.YthhegcngkpfcoaaGreatDoor
open Go Go.RowKit

theorem step_ix {s : Nat} (x : UInt8) : bits .xor .u8 ((s : Int) % 256) (x.toNat : Int) = (((s % 256) ^^^ x.toNat : Nat) : Int) ∧ ((s % 256) ^^^ x.toNat) < 256 := by
  refine ⟨?_, Nat.xor_lt_two_pow (n := 8) (by omega) x.toNat_lt⟩
  have := u8_xor_nat (s % 256) x.toNat (by omega) x.toNat_lt
  rw [← this]
  congr 1
theorem step_out {s T r : Nat} (hs : s < 18446744073709551616) (hT : T < 18446744073709551616) (hr : T ^^^ (s / 256) = r) : bits .xor .u64 (T : Int) ((s : Int) / 256) = (r : Int) := by
  have := u64_xor_nat T (s / 256) hT (by omega)
  rw [← hr, ← this]
  congr 1

theorem step_any (b bits many s : Nat) (hs : U64 s) (x : UInt8) (w : World) (hB : Blk w b (digK 256 bits many)) :
    Calls Tryz.prog 125 #[.pointer (some ⟨b, 0, none⟩), .int .u64 s, .int .u8 x.toNat] w fun e w' => e = .returned (.int .u64 (byteS s x)) ∧ w = w' := by
  obtain ⟨h1, h2⟩ := step_ix (s := s) x
  have h3 := byteS_tab s x
  obtain ⟨ix, hix⟩ : ∃ ix, (s % 256) ^^^ x.toNat = ix := ⟨_, rfl⟩
  rw [hix] at h1 h2 h3
  obtain ⟨T, hT⟩ : ∃ T, dnK 8 ix = T := ⟨_, rfl⟩
  have hTu : T < 18446744073709551616 := by rw [← hT]; exact dnK_lt 8 (by omega)
  rw [hT] at h3
  have h4 := step_out hs hTu h3.symm
  have hc := (hB.cell ix).trans (digK_tab 256 bits many ix h2)
  rw [show tabV 256 ix = .int .u64 (T : Int) by unfold tabV; rw [if_pos h2, hT]] at hc
  obtain ⟨r, hr⟩ : ∃ r, byteS s x = r := ⟨_, rfl⟩
  rw [hr] at h4 ⊢
  clear h3 hix hT hTu hB hr
  have HU := Lib.hid hs; clear hs
  go_enter Tryz.func125, Tryz.ntmps125
  go_wp2
  go_ret
  exact ⟨rfl, rfl⟩

theorem foldS_take (s : Nat) (l : List UInt8) (k : Nat) (h : k < l.length) : byteS (foldS s (l.take k)) (l.getD k 0) = foldS s (l.take (k + 1)) := by
  rw [List.take_succ_eq_append_getElem h, foldS_snoc]
  simp [h]

set_option maxHeartbeats 400000 in
theorem foldB_any (b bits many s : Nat) (hs : U64 s) {n : Nat} (v : Value) (l : List UInt8) (w : World) (hv : Bytes n w v l) (hB : Blk w b (digK 256 bits many)) :
    Calls Tryz.prog 124 #[.int .u64 s, v, .func (.func 125) #[.pointer (some ⟨b, 0, none⟩)] #[]] w fun e w' => e = .returned (.int .u64 (foldS s l)) ∧ w = w' := by
  obtain ⟨ao, cap, rfl, h1, h2, h3⟩ := hv
  unfold maxLen at h2
  have HC := Lib.hid h3; clear h3
  have HB := Lib.hid hB; clear hB
  have HS := Lib.hid hs; clear hs
  go_enter Tryz.func124, Tryz.ntmps124
  go_wp2
  go_loop [0, 8, 11] (fun x _ i => ∃ k : Nat, k ≤ l.length ∧ i = .int .i64 k ∧ x = .int .u64 (foldS s (l.take k))) (fun _ _ i => l.length - (intOf i).toNat)
  case atStart => exact ⟨0, Nat.zero_le _, rfl, rfl⟩
  case round =>
    obtain ⟨k, hk, rfl, rfl⟩ := hrel
    by_cases hlt : k < l.length
    · obtain ⟨b1, off, rfl, _, hc1⟩ := HC.out (by rintro rfl; simp at hlt)
      have hcell := hc1 k hlt
      clear hc1
      have hU : U64 (foldS s (l.take k)) := foldS_lt _ HS.out
      have HF := Lib.hid (foldS_take s l k hlt)
      obtain ⟨x, hx⟩ : ∃ x, l.getD k 0 = x := ⟨_, rfl⟩
      rw [hx] at HF hcell
      unfold byteV at hcell
      obtain ⟨y, hy⟩ : ∃ y, foldS s (l.take k) = y := ⟨_, rfl⟩
      rw [hy] at HF hU ⊢
      have HT := Lib.hid (step_any b bits many y hU x w HB.out)
      clear hx hy hU
      go_wp2_with (go_at_call 125; refine HT.out.mono ?_; rintro e w' ⟨rfl, rfl⟩)
      go_round
      case rel => exact ⟨k + 1, by omega, by go_num, int_eq (by rw [HF.out])⟩
      case measure => simp [intOf]; omega
    · go_wp2
      go_ret
      exact ⟨ret_int (by rw [List.take_of_length_le (by omega)]), rfl⟩

theorem list_any (b bits many s : Nat) (hs : U64 s) {n : Nat} (v : Value) (l : List UInt8) (w : World) (hv : Bytes n w v l) (hB : Blk w b (digK 256 bits many)) :
    Calls Tryz.prog 91 #[.pointer (some ⟨b, 0, none⟩), .int .u64 s, v] w fun e w' => e = .returned (.int .u64 (foldS s l)) ∧ w = w' := by
  have HF := Lib.hid (foldB_any b bits many s hs v l w hv hB)
  clear hv hB hs
  go_enter Tryz.func91, Tryz.ntmps91
  go_wp2_with (go_at_call 124; refine HF.out.mono ?_; rintro e w' ⟨rfl, rfl⟩)
  go_ret
  exact ⟨rfl, rfl⟩

/-- v is a slice of slices that read as these lists. -/
def Lists (n : Nat) (w : World) (v : Value) (ls : List (List UInt8)) : Prop :=
  ∃ ao cap, v = .slice ao ls.length cap ∧ ls.length ≤ cap ∧ cap ≤ maxLen ∧
    (ls ≠ [] → ∃ b off, ao = some ⟨b, off, none⟩ ∧ ∀ i, i < ls.length → ∃ u, w.cell? ⟨b, off + i, none⟩ = some u ∧ Bytes n w u (ls.getD i []))

def foldL (s : Nat) (ls : List (List UInt8)) : Nat := ls.foldl foldS s
theorem foldL_flat : ∀ (ls : List (List UInt8)) (s : Nat), foldL s ls = foldS s ls.flatten
  | [], _ => rfl
  | l :: ls, s => by rw [List.flatten_cons, foldS_append, ← foldL_flat ls]; rfl
theorem foldL_lt (ls : List (List UInt8)) {s : Nat} (h : s < 18446744073709551616) : foldL s ls < 18446744073709551616 := by rw [foldL_flat]; exact foldS_lt _ h
theorem foldL_take (s : Nat) (ls : List (List UInt8)) (k : Nat) (h : k < ls.length) : foldS (foldL s (ls.take k)) (ls.getD k []) = foldL s (ls.take (k + 1)) := by
  unfold foldL
  rw [List.take_succ_eq_append_getElem h, List.foldl_append]
  simp [h]

set_option maxHeartbeats 400000 in
theorem foldL_any (b bits many s : Nat) (hs : U64 s) {n : Nat} (v : Value) (ls : List (List UInt8)) (w : World) (hv : Lists n w v ls) (hB : Blk w b (digK 256 bits many)) :
    Calls Tryz.prog 90 #[.int .u64 s, v, .func (.func 91) #[.pointer (some ⟨b, 0, none⟩)] #[]] w fun e w' => e = .returned (.int .u64 (foldL s ls)) ∧ w = w' := by
  obtain ⟨ao, cap, rfl, h1, h2, h3⟩ := hv
  unfold maxLen at h2
  have HC := Lib.hid h3; clear h3
  have HB := Lib.hid hB; clear hB
  have HS := Lib.hid hs; clear hs
  go_enter Tryz.func90, Tryz.ntmps90
  go_wp2
  go_loop [0, 8, 11] (fun x _ i => ∃ k : Nat, k ≤ ls.length ∧ i = .int .i64 k ∧ x = .int .u64 (foldL s (ls.take k))) (fun _ _ i => ls.length - (intOf i).toNat)
  case atStart => exact ⟨0, Nat.zero_le _, rfl, rfl⟩
  case round =>
    obtain ⟨k, hk, rfl, rfl⟩ := hrel
    by_cases hlt : k < ls.length
    · obtain ⟨b1, off, rfl, hc1⟩ := HC.out (by rintro rfl; simp at hlt)
      obtain ⟨u, hcell, hu⟩ := hc1 k hlt
      clear hc1
      have hU : U64 (foldL s (ls.take k)) := foldL_lt _ HS.out
      have HF := Lib.hid (foldL_take s ls k hlt)
      obtain ⟨x, hx⟩ : ∃ x, ls.getD k [] = x := ⟨_, rfl⟩
      rw [hx] at HF hu
      obtain ⟨y, hy⟩ : ∃ y, foldL s (ls.take k) = y := ⟨_, rfl⟩
      rw [hy] at HF hU ⊢
      have HT := Lib.hid (list_any b bits many y hU u x w hu HB.out)
      clear hx hy hU hu
      go_wp2_with (go_at_call 91; refine HT.out.mono ?_; rintro e w' ⟨rfl, rfl⟩)
      go_round
      case rel => exact ⟨k + 1, by omega, by go_num, int_eq (by rw [HF.out])⟩
      case measure => simp [intOf]; omega
    · go_wp2
      go_ret
      exact ⟨ret_int (by rw [List.take_of_length_le (by omega)]), rfl⟩
end Go.Proofs.YthhegcngkpfcoaaGreatDoor
namespace Go.Proofs.YthhegcngkpfcoaaGreatDoor
open Go Go.RowKit

theorem digK_int {k bits many i : Nat} {v : Value} (h : (digK k bits many)[i]? = some v) : ∃ kd z, v = .int kd z := by
  unfold digK at h
  rcases Nat.lt_or_ge i 256 with hi | hi
  · rw [List.getElem?_append_left (by simpa using hi)] at h
    simp only [List.getElem?_map, List.getElem?_range hi, Option.map_some, Option.some.injEq] at h
    exact ⟨_, _, h.symm⟩
  · rw [List.getElem?_append_right (by simpa using hi)] at h
    simp only [List.length_map, List.length_range] at h
    match hj : i - 256, h with
    | 0, h => simp at h; exact ⟨_, _, h.symm⟩
    | 1, h => simp at h; exact ⟨_, _, h.symm⟩
    | m + 2, h => simp at h
theorem digK_u8 {k bits many i : Nat} {z : Int} : (digK k bits many)[i]? ≠ some (.int .u8 z) := by
  intro h
  unfold digK at h
  rcases Nat.lt_or_ge i 256 with hi | hi
  · rw [List.getElem?_append_left (by simpa using hi)] at h
    simp [hi, tabV] at h
  · rw [List.getElem?_append_right (by simpa using hi)] at h
    simp only [List.length_map, List.length_range] at h
    match hj : i - 256, h with
    | 0, h => simp at h
    | 1, h => simp at h
    | m + 2, h => simp at h

/-- Bytes, and lists of them, lie apart from a digest. -/
theorem Bytes.turns {n k bits many b : Nat} {w w' : World} {v : Value} {l : List UInt8} (h : Bytes n w v l) (hB : Blk w b (digK k bits many)) (ht : Turns b w w') : Bytes n w' v l := by
  obtain ⟨ao, cap, rfl, h1, h2, h3⟩ := h
  refine ⟨ao, cap, rfl, h1, h2, fun hl => ?_⟩
  obtain ⟨g, off, e, hgn, hc⟩ := h3 hl
  have hne : g ≠ b := by
    rintro rfl
    have := hc 0 (List.length_pos_iff.2 hl)
    rw [hB.cell] at this
    exact digK_u8 this
  exact ⟨g, off, e, hgn, fun i hi => ht.cell (hc i hi) (fun e => hne (Option.some.inj e))⟩
theorem Lists.turns {n k bits many b : Nat} {w w' : World} {v : Value} {ls : List (List UInt8)} (h : Lists n w v ls) (hB : Blk w b (digK k bits many)) (ht : Turns b w w') : Lists n w' v ls := by
  obtain ⟨ao, cap, rfl, h1, h2, h3⟩ := h
  refine ⟨ao, cap, rfl, h1, h2, fun hl => ?_⟩
  obtain ⟨g, off, e, hc⟩ := h3 hl
  have hne : g ≠ b := by
    rintro rfl
    obtain ⟨u, hu, hb⟩ := hc 0 (List.length_pos_iff.2 hl)
    rw [hB.cell] at hu
    obtain ⟨kd, z, rfl⟩ := digK_int hu
    obtain ⟨_, _, e, _⟩ := hb
    cases e
  refine ⟨g, off, e, fun i hi => ?_⟩
  obtain ⟨u, hu, hb⟩ := hc i hi
  exact ⟨u, ht.cell hu (fun e => hne (Option.some.inj e)), hb.turns hB ht⟩
theorem Lists.below {n : Nat} {w w' : World} {v : Value} {ls : List (List UInt8)} (h : Lists n w v ls) (ha : Adds w w') (hn : n ≤ w.heap.size) : Lists n w' v ls := by
  obtain ⟨ao, cap, rfl, h1, h2, h3⟩ := h
  refine ⟨ao, cap, rfl, h1, h2, fun hl => ?_⟩
  obtain ⟨g, off, e, hc⟩ := h3 hl
  refine ⟨g, off, e, fun i hi => ?_⟩
  obtain ⟨u, hu, hb⟩ := hc i hi
  exact ⟨u, (ha.cell (p := ⟨g, off + i, none⟩) (World.block_lt_of_cell? w _ hu)).trans hu, hb.below (Below.mono ha hn)⟩

def WritePost (b bits many : Nat) (w : World) (e : Ending) (w' : World) : Prop := e = .returned (.int .i64 0) ∧ Blk w' b (digK 256 bits many) ∧ Turns b w w'
theorem flat_take (ls : List (List UInt8)) (k : Nat) (h : k < ls.length) : (ls.take (k + 1)).flatten.length = (ls.take k).flatten.length + (ls.getD k []).length := by
  rw [List.take_succ_eq_append_getElem h, List.flatten_append]
  simp [h]
theorem flat_leD (ls : List (List UInt8)) (k : Nat) : (ls.take k).flatten.length ≤ ls.flatten.length := by
  conv => rhs; rw [← List.take_append_drop k ls, List.flatten_append, List.length_append]
  omega

set_option maxRecDepth 100000 in
set_option maxHeartbeats 1000000 in
theorem write_any (b bits many : Nat) (hs : U64 bits) {n : Nat} (v : Value) (ls : List (List UInt8)) (w : World) (hv : Lists n w v ls) (hB : Blk w b (digK 256 bits many)) (hm : many + ls.flatten.length ≤ 9223372036854775807) :
    Calls Tryz.prog 64 #[.pointer (some ⟨b, 0, none⟩), v] w (WritePost b (foldL bits ls) (many + ls.flatten.length) w) := by
  have HN := Lib.hid (isNone_full b bits many w hB)
  have HF := Lib.hid ((foldL_any b bits many bits hs v ls w.drew hv hB).mono (R' := fun e w'' => e = .returned (.int .u64 (foldL bits ls)) ∧ w'' = w.drew) fun _ _ h => ⟨h.1, h.2.symm⟩)
  have HL := Lib.hid hv; clear hv
  have HB := Lib.hid hB; clear hB
  have c0 := (HB.out.cell 256).trans (digK_bits _ _ _)
  have HS := Lib.hid hs; clear hs
  have hfr : w.frozen? ⟨b, 256, none⟩ = false := HB.out.free 256
  go_enter Tryz.func64, Tryz.ntmps64
  go_wp2
  refine wp_scope_fwd 0 rfl ?_
  go_wp2_with (go_at_call 89; refine HN.out.mono ?_; rintro e w' ⟨rfl, rfl⟩)
  go_still_tail 13, (by kernel_rfl)
  still_call HF.out
  repeat still_step
  refine wpStill_nil ?_
  change wpList _ _ _ _ _ w.drew
  have hfr2 : w.drew.frozen? ⟨b, 256, none⟩ = false := hfr
  have c02 : w.drew.cell? ⟨b, 256, none⟩ = some (.int .u64 bits) := c0
  have HBd := Lib.hid (show Blk w.drew b (digK 256 bits many) from HB.out)
  have HTd := Lib.hid (Turns.drew b w)
  have HLd := Lib.hid (HL.out.turns HB.out HTd.out)
  generalize w.drew = w2 at *
  have HB3 := Lib.hid (digK_set_bits 256 bits many (foldL bits ls) ▸ HBd.out.set 256 (.int .u64 (foldL bits ls : Nat)))
  have HT3 := Lib.hid (HTd.out.trans (Turns.setCell b 256 w2 (.int .u64 (foldL bits ls : Nat))))
  have HL3 := Lib.hid (HLd.out.turns HBd.out (Turns.setCell b 256 w2 (.int .u64 (foldL bits ls : Nat))))
  clear c0 hfr
  obtain ⟨bits', hb'⟩ : ∃ y, foldL bits ls = y := ⟨_, rfl⟩
  rw [hb'] at HB3 HT3 HL3 ⊢
  have HB' := Lib.hid hb'; clear hb'
  obtain ⟨ao, cap, rfl, h1, h2, _⟩ := id HL.out
  unfold maxLen at h2
  go_wp2_with fail
  generalize w2.setCell ⟨b, 256, none⟩ (Value.int IntKind.u64 bits') = w3 at *
  go_loopw [6, 24] (fun _ i wr => ∃ k : Nat, k ≤ ls.length ∧ i = .int .i64 k ∧ Blk wr b (digK 256 bits' (many + (ls.take k).flatten.length)) ∧ Turns b w3 wr) (fun _ i _ => ls.length - (intOf i).toNat)
  case atStart => exact ⟨0, Nat.zero_le _, rfl, HB3.out, Turns.refl _ _⟩
  case round =>
    obtain ⟨k, hk, rfl, hBr, hTr⟩ := hrel
    have HBr := Lib.hid hBr; clear hBr
    have HTr := Lib.hid hTr; clear hTr
    have HLr := Lib.hid (HL3.out.turns HB3.out HTr.out)
    by_cases hlt : k < ls.length
    · obtain ⟨ao', cap', e, _, _, h3⟩ := HLr.out
      simp only [Value.slice.injEq, true_and] at e
      obtain ⟨rfl, rfl⟩ := e
      obtain ⟨b1, off, rfl, hc1⟩ := h3 (by rintro rfl; simp at hlt)
      obtain ⟨u, hcell, hu⟩ := hc1 k hlt
      clear hc1 h3
      obtain ⟨ao2, cap2, rfl, h21, h22, _⟩ := hu
      have c7 := (HBr.out.cell 257).trans (digK_many _ _ _)
      have hfr7 : wr.frozen? ⟨b, 257, none⟩ = false := HBr.out.free 257
      have hf1 := flat_take ls k hlt
      have hf2 := flat_leD ls (k + 1)
      have HB4 := Lib.hid (digK_set_many 256 bits' (many + (ls.take k).flatten.length) (many + (ls.take (k + 1)).flatten.length) ▸ HBr.out.set 257 (.int .i64 (many + (ls.take (k + 1)).flatten.length : Nat)))
      have HT4 := Lib.hid (HTr.out.trans (Turns.setCell b 257 wr (.int .i64 (many + (ls.take (k + 1)).flatten.length : Nat))))
      have HE := Lib.hid (show ((many + (ls.take k).flatten.length : Nat) : Int) + ((ls.getD k []).length : Int) = ((many + (ls.take (k + 1)).flatten.length : Nat) : Int) by rw [hf1]; omega)
      have hle : many + (ls.take k).flatten.length + (ls.getD k []).length ≤ 9223372036854775807 := by omega
      obtain ⟨m1, hm1⟩ : ∃ y, many + (ls.take k).flatten.length = y := ⟨_, rfl⟩
      obtain ⟨m2, hm2⟩ : ∃ y, many + (ls.take (k + 1)).flatten.length = y := ⟨_, rfl⟩
      obtain ⟨m3, hm3⟩ : ∃ y, (ls.getD k []).length = y := ⟨_, rfl⟩
      rw [hm1] at c7 hle HE
      rw [hm2] at HB4 HT4 HE
      rw [hm3] at HE hle hcell
      clear hf1 hf2 hm1 hm3 h21 h22
      have HM2 := Lib.hid hm2; clear hm2
      go_wp2_with fail
      rw [HE.out]
      go_roundw
      case rel => exact ⟨k + 1, by omega, by go_num, by rw [HM2.out]; exact HB4.out, HT4.out⟩
      case measure => simp [intOf]; omega
    · obtain rfl : k = ls.length := by omega
      go_wp2_with fail
      simp only [Exit.jump]
      go_ret
      refine ⟨rfl, ?_, HT3.out.trans HTr.out⟩
      have hfin := HBr.out
      rw [List.take_length] at hfin
      rw [HB'.out]
      exact hfin
end Go.Proofs.YthhegcngkpfcoaaGreatDoor
namespace Go.Proofs.YthhegcngkpfcoaaGreatDoor
open Go Go.RowKit

theorem lists_lit {n : Nat} (w : World) (vs : List Value) (ls : List (List UInt8)) (_hl : vs.length = ls.length) (hm : ls.length ≤ maxLen) (hn : n ≤ w.heap.size)
    (h : ∀ i, i < ls.length → ∃ u, vs[i]? = some u ∧ Bytes n w u (ls.getD i [])) :
    Lists n (w.alloc (.cells vs.toArray 27)) (.slice (some ⟨w.heap.size, 0, none⟩) ls.length ls.length) ls := by
  refine ⟨_, _, rfl, Nat.le_refl _, hm, fun _ => ⟨w.heap.size, 0, rfl, fun i hi => ?_⟩⟩
  obtain ⟨u, hu, hb⟩ := h i hi
  refine ⟨u, ?_, hb.below ((Below.refl _ _).alloc hn _)⟩
  simp [hu]
theorem lists_1 {n : Nat} (w : World) (v : Value) (l : List UInt8) (hn : n ≤ w.heap.size) (h : Bytes n w v l) :
    Lists n (w.alloc (.cells #[v] 27)) (.slice (some ⟨w.heap.size, 0, none⟩) 1 1) [l] :=
  lists_lit w [v] [l] rfl (by simp [maxLen]) hn fun i hi => by
    obtain rfl : i = 0 := by simpa using hi
    exact ⟨v, rfl, h⟩
def SumPost (l : List UInt8) (w : World) (e : Ending) (w' : World) : Prop := e = .returned (.int .u64 (sumS l)) ∧ Adds w w'

theorem of_any {n : Nat} (v : Value) (ls : List (List UInt8)) (w : World) (hv : Lists n w v ls) (hn : n ≤ w.heap.size) (hm : ls.flatten.length ≤ 9223372036854775807) :
    Calls Tryz.prog 39 #[v] w (SumPost ls.flatten w) := by
  have HL := Lib.hid hv; clear hv
  go_enter Tryz.func39, Tryz.ntmps39
  go_wp2_with fail
  refine (new_any w).mono ?_
  rintro e w1 ⟨b, rfl, hbn, hB, ha⟩
  have HA := Lib.hid ha; clear ha
  have HW := Lib.hid (write_any b all1 0 all1_lt v ls w1 (HL.out.below HA.out hn) hB (by omega))
  have HBN := Lib.hid hbn; clear hbn hB
  go_wp2_with fail
  refine HW.out.mono ?_
  rintro e w2 ⟨rfl, hB2, ht⟩
  have HA2 := Lib.hid (Turns.own HA.out HBN.out ht); clear ht
  have HS := Lib.hid (sum_full b (foldL all1 ls) _ (foldL_lt ls all1_lt) w2 hB2); clear hB2
  go_wp2_with fail
  refine HS.out.mono ?_
  rintro e w' ⟨rfl, rfl⟩
  go_wp2
  go_ret
  exact ⟨ret_int (by rw [foldL_flat]; rfl), HA2.out⟩

theorem half_in {q : Nat} (h : q < 18446744073709551616) : IntKind.u64.wrap ((q : Int) / 2) = (q : Int) / 2 := by rw [IntKind.wrap_u64]; omega

set_option maxRecDepth 100000 in
set_option maxHeartbeats 1000000 in
theorem refOf_any {n : Nat} (v : Value) (l : List UInt8) (w : World) (hv : Bytes n w v l) :
    Calls Tryz.prog 28 #[v] w fun e w' => e = .returned (.int .u64 (sumS l)) ∧ w = w' := by
  obtain ⟨ao, cap, rfl, h1, h2, h3⟩ := hv
  unfold maxLen at h2
  have HC := Lib.hid h3; clear h3
  go_enter Tryz.func28, Tryz.ntmps28
  go_wp2_with fail
  go_loop [3, 4, 5, 6] (fun x i _ _ => ∃ k : Nat, k ≤ l.length ∧ i = .int .i64 k ∧ x = .int .u64 (foldS all1 (l.take k))) (fun _ i _ _ => l.length - (intOf i).toNat)
  case atStart => exact ⟨0, Nat.zero_le _, rfl, rfl⟩
  case round =>
    obtain ⟨k, hk, rfl, rfl⟩ := hrel
    by_cases hlt : k < l.length
    · obtain ⟨b1, off, rfl, _, hc1⟩ := HC.out (by rintro rfl; simp at hlt)
      have hcell := hc1 k hlt
      clear hc1
      have hU : U64 (foldS all1 (l.take k)) := foldS_lt _ all1_lt
      have HF := Lib.hid (foldS_take all1 l k hlt)
      obtain ⟨x, hx⟩ : ∃ x, l.getD k 0 = x := ⟨_, rfl⟩
      rw [hx] at HF hcell
      unfold byteV at hcell
      obtain ⟨y, hy⟩ : ∃ y, foldS all1 (l.take k) = y := ⟨_, rfl⟩
      rw [hy] at HF hU ⊢
      have hx8 : x.toNat < 256 := x.toNat_lt
      have hxo : bits .xor .u64 (y : Int) (x.toNat : Int) = ((y ^^^ x.toNat : Nat) : Int) := u64_xor_nat _ _ hU (by omega)
      have HZ := Lib.hid (show U64 (y ^^^ x.toNat) from Nat.xor_lt_two_pow (n := 64) hU (by omega))
      have HBy := Lib.hid (show dnK 8 (y ^^^ x.toNat) = foldS all1 (l.take (k + 1)) from HF.out)
      obtain ⟨z, hz⟩ : ∃ z, y ^^^ x.toNat = z := ⟨_, rfl⟩
      rw [hz] at hxo HZ HBy
      clear hx hy hz hU
      go_wp2_with fail
      go_loop [3, 5, 6] (fun x i _ => ∃ j : Nat, j ≤ 8 ∧ i = .int .i64 j ∧ x = .int .u64 (dnK j z : Nat)) (fun _ i _ => 8 - (intOf i).toNat)
      case atStart => exact ⟨0, by omega, rfl, rfl⟩
      case round =>
        obtain ⟨j, hj, rfl, rfl⟩ := hrel
        have hyU : U64 (dnK j z) := dnK_lt j HZ.out
        have HD := Lib.hid (dnK_snoc j z)
        obtain ⟨q, hq⟩ : ∃ q, dnK j z = q := ⟨_, rfl⟩
        have HQ := Lib.hid hq
        rw [hq] at hyU HD ⊢
        clear hq
        have hxl := xor_laid hyU
        have e2 : ((q / 2 : Nat) : Int) = (q : Int) / 2 := by omega
        rw [e2] at hxl
        have hwr := half_in hyU
        clear hyU
        by_cases hlt8 : j < 8
        · by_cases hodd : q % 2 = 1
          · have hb : ((q : Int) % 2 == 1) = true := by rw [beq_iff_eq]; omega
            have HO := Lib.hid (HD.out.trans (dn_odd hodd))
            obtain ⟨r, hr⟩ : ∃ r, (q / 2) ^^^ 14514072000185962306 = r := ⟨_, rfl⟩
            rw [hr] at hxl HO
            clear hodd hr e2
            go_wp2_with fail
            go_round
            case rel => exact ⟨j + 1, by omega, by go_num, int_eq (by rw [HO.out])⟩
            case measure => simp [intOf]; omega
          · have hb : ((q : Int) % 2 == 1) = false := by rw [beq_eq_false_iff_ne]; omega
            have HO := Lib.hid (HD.out.trans (dn_even' hodd))
            have HE := Lib.hid e2
            clear hodd e2 hxl
            go_wp2_with fail
            go_round
            case rel => exact ⟨j + 1, by omega, by go_num, int_eq (by rw [HO.out, HE.out])⟩
            case measure => simp [intOf]; omega
        · obtain rfl : j = 8 := by omega
          have HBQ := Lib.hid (HQ.out.symm.trans HBy.out)
          clear e2 hxl hwr
          go_wp2_with fail
          go_round
          case rel => exact ⟨k + 1, by omega, by go_num, int_eq (by rw [HBQ.out])⟩
          case measure => simp [intOf]; omega
    · have HN := Lib.hid (not_u64 (bitsS_lt l))
      have HT := Lib.hid (show foldS all1 (l.take k) = bitsS l by rw [List.take_of_length_le (by omega)]; rfl)
      go_wp2_with fail
      go_ret
      exact ⟨ret_int (by rw [HT.out]; exact HN.out), rfl⟩
end Go.Proofs.YthhegcngkpfcoaaGreatDoor
