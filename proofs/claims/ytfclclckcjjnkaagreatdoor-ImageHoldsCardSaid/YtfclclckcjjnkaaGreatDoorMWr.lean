/- Merged: M6, M7, M8. -/
import Derived.Test.YtfclclckcjjnkaaGreatDoorMTk
import Derived.Test.YtfclclckcjjnkaaGreatDoorIApp
import Derived.Maps.AppendAt
import Derived.Test.YtfclclckcjjnkaaGreatDoorIR4
namespace Go.Proofs.YtfclclckcjjnkaaGreatDoor
open Go Go.RowKit

theorem run_append_raw (ty : TypeId) (ao : Option Addr) (n c : Nat) (ao2 : Option Addr) (n2 c2 : Nat) (w : World) :
    (Builtin.append_ #[84, 27] ty #[.slice ao n c, .slice ao2 n2 c2]).run Tryz.prog w = (Builtin.append_ #[27, 27] ty #[.slice ao n c, .slice ao2 n2 c2]).run Tryz.prog w := by
  simp only [Builtin.append_, List.getElem?_toArray, List.getElem?_cons_zero, List.getElem?_cons_succ]
  simp [run_underlying Tryz.underlying84, run_underlying Tryz.underlying27]
theorem run_append_r {w : World} (ty : TypeId) (base : Nat) (v : Value) (pre : List UInt8) (hown : OwnB w base v pre)
    (v2 : Value) (l : List UInt8) (n : Nat) (hv : Bytes n w v2 l) (hlen : pre.length + l.length ≤ 140737488355328) (hbase : base ≤ w.heap.size) :
    ∃ v' w', (Builtin.append_ #[84, 27] ty #[v, v2]).run Tryz.prog w = .ok v' w' ∧ OwnB w' base v' (pre ++ l) ∧ Below base w w' ∧ w.grownBy w' v.ownBlock ∧ (v'.ownBlock = v.ownBlock ∨ v'.ownBlock = some w.heap.size) := by
  obtain ⟨ao, cap, rfl, h1, h2, h3⟩ := id hv
  obtain ⟨i0, hi, hz0, hz1, hz2⟩ := info_parts info8
  obtain ⟨vo, vcap, hvv, _⟩ := id hown.bytes
  cases ao with
  | none =>
    have hl : l = [] := by
      rcases l with _ | ⟨y, l⟩
      · rfl
      · obtain ⟨b, off, e, _⟩ := h3 (by simp)
        cases e
    subst hl
    have hr := run_append_none (P := Tryz.prog) (w := w) base 27 ty 5 i0 1 Tryz.underlying27 hi v pre.length cap (pre.map byteV) hown
    refine ⟨v, w, ?_, by simpa using hown, Below.refl _ _, ⟨rfl, rfl, rfl, Nat.le_refl _, fun _ _ _ => rfl⟩, .inl rfl⟩
    subst hvv
    rw [List.length_nil, run_append_raw]
    exact hr
  | some ad =>
    obtain ⟨v', w', hr, r1, r2, _, r4⟩ := run_append_own_at (P := Tryz.prog) (w := w) base 27 ty 5 i0 (.int .u8 0) 1 1 Tryz.underlying27 hi hz0 hz1 hz2 rfl (by decide) v pre.length (pre.map byteV) hown ad l.length cap (l.map byteV) (by simp) hv.news.2
      (fun u hu => by obtain ⟨b, _, rfl⟩ := List.mem_map.1 hu; rfl) (by unfold maxLen; omega) (by omega) hbase
    refine ⟨v', w', ?_, ?_, ?_, r2, r4⟩
    · subst hvv
      rw [run_append_raw]
      exact hr
    · unfold OwnB
      rw [List.length_append, List.map_append]
      exact r1
    · refine ⟨r2.os, r2.tape, r2.output, r2.size, fun i hi => r2.block i (by omega) (fun e => ?_)⟩
      rcases hown.2 with ⟨rfl, _⟩ | ⟨g, cap', cur, rfl, hb, _⟩
      · cases e
      · simp [Value.ownBlock] at e; omega
section
variable {w : World} {ops : Array Oper} {rest : List Oper} {o : Oper} {a : Act} {Q : Exit → Act → World → Prop}
theorem wp_append_raw (hgd : o.guard = none) (s x : Operand)
    (ho : o.op = .call { callee := .builtin .append, args := #[s, x], argTypes := #[84, 27] }) (base : Nat) (v : Value) (pre : List UInt8) (hs : a.eval s = v) (hown : OwnB w base v pre)
    (v2 : Value) (l : List UInt8) (n : Nat) (hx : a.eval x = v2) (hv : Bytes n w v2 l) (hlen : pre.length + l.length ≤ 140737488355328) (hbase : base ≤ w.heap.size)
    (h : ∀ v' w', OwnB w' base v' (pre ++ l) → Below base w w' → w.grownBy w' v.ownBlock → (v'.ownBlock = v.ownBlock ∨ v'.ownBlock = some w.heap.size) → wpList Tryz.prog ops Q rest (a.put o.dst v') w') : wpList Tryz.prog ops Q (o :: rest) a w := by
  obtain ⟨v', w', hr, r1, r2, r3, r4⟩ := run_append_r o.type base v pre hown v2 l n hv hlen hbase
  refine wpList_plain hgd fun K hK => ?_
  unfold Oper.wp
  simp [execOp, ho, resolve, invoke, builtin, hs, hx, hr, Result.andThen]
  exact hK _ _ (h v' w' r1 r2 r3 r4)
end
/-- How the writer stands: its bytes are a row of its own, above its block. -/
def WAt (lb : Nat) (w : World) (l : List UInt8) : Prop := ∃ v, w.cell? ⟨lb, 0, none⟩ = some v ∧ w.frozen? ⟨lb, 0, none⟩ = false ∧ OwnB w (lb + 1) v l ∧ lb < w.heap.size
theorem wat_set {lb : Nat} {w w1 : World} {v v1 : Value} {l : List UInt8} (hc : w.cell? ⟨lb, 0, none⟩ = some v) (hf : w.frozen? ⟨lb, 0, none⟩ = false) (hb : Below (lb + 1) w w1) (hl : lb < w.heap.size) (ho : OwnB w1 (lb + 1) v1 l) :
    WAt lb (w1.setCell ⟨lb, 0, none⟩ v1) l ∧ Below lb w (w1.setCell ⟨lb, 0, none⟩ v1) ∧ w1.cell? ⟨lb, 0, none⟩ = some v ∧ w1.frozen? ⟨lb, 0, none⟩ = false := by
  have h1 : w1.cell? ⟨lb, 0, none⟩ = some v := (hb.cell (p := ⟨lb, 0, none⟩) (by simp)).trans hc
  have h2 : w1.frozen? ⟨lb, 0, none⟩ = false := (hb.frozen (p := ⟨lb, 0, none⟩) (by simp)).trans hf
  refine ⟨⟨v1, ?_, ?_, ?_, ?_⟩, (hb.mono (by omega)).setCell (by simp) _, h1, h2⟩
  · exact World.cell?_setCell_same _ _ _ h1
  · rw [World.frozen?_setCell]; exact h2
  · exact ownsRow_setCell_below ho (by simp) _
  · have := hb.size; simp; omega
/-- A block that is neither the writer's nor that of its bytes. -/
def Far (lb : Nat) (w : World) (c : Nat) : Prop := c < w.heap.size ∧ c ≠ lb ∧ ∀ v, w.cell? ⟨lb, 0, none⟩ = some v → v.ownBlock ≠ some c
theorem Far.adds {lb c : Nat} {w w' : World} (h : Far lb w c) (hl : lb < w.heap.size) (ha : Adds w w') : Far lb w' c :=
  ⟨Nat.lt_of_lt_of_le h.1 ha.size, h.2.1, fun v hv => h.2.2 v (by rw [← hv]; exact (ha.cell (p := ⟨lb, 0, none⟩) hl).symm)⟩
/-- All the far blocks keep what they hold, and stay far. -/
def Keeps (lb : Nat) (w w' : World) : Prop := ∀ c, Far lb w c → Far lb w' c ∧ w'.heap[c]? = w.heap[c]?
theorem Keeps.refl (lb : Nat) (w : World) : Keeps lb w w := fun _ h => ⟨h, rfl⟩
theorem Keeps.trans {lb : Nat} {u v w : World} (h : Keeps lb u v) (k : Keeps lb v w) : Keeps lb u w := fun c hc => ⟨(k c (h c hc).1).1, (k c (h c hc).1).2.trans (h c hc).2⟩
theorem Keeps.adds {lb : Nat} {w w' : World} (hl : lb < w.heap.size) (ha : Adds w w') : Keeps lb w w' := fun c hc => ⟨hc.adds hl ha, ha.block c hc.1⟩
theorem keeps_set {lb : Nat} {w w1 : World} {v v1 : Value} (hc : w.cell? ⟨lb, 0, none⟩ = some v) (hc1 : w1.cell? ⟨lb, 0, none⟩ = some v) (hg : w.grownBy w1 v.ownBlock) (hv : v1.ownBlock = v.ownBlock ∨ v1.ownBlock = some w.heap.size) : Keeps lb w (w1.setCell ⟨lb, 0, none⟩ v1) := by
  rintro c ⟨h1, h2, h3⟩
  refine ⟨⟨by have := hg.size; simp; omega, h2, fun u hu => ?_⟩, ?_⟩
  · rw [World.cell?_setCell_same _ _ _ hc1] at hu
    cases hu
    rcases hv with e | e
    · rw [e]; exact h3 v hc
    · rw [e]; intro e2; cases e2; omega
  · exact (Below.heap_setCell w1 _ _ _ h2).trans (hg.block c h1 (h3 v hc).symm)
/-- put, of one part. -/
theorem mput {n : Nat} (lb g : Nat) (l q : List UInt8) (v2 : Value) (w : World) (hl : WAt lb w l) (hg : w.cell? ⟨g, 0, none⟩ = some v2) (hv : Bytes n w v2 q) (hlen : l.length + q.length ≤ 140737488355328) :
    Calls Tryz.prog 72 #[.pointer (some ⟨lb, 0, none⟩), .slice (some ⟨g, 0, none⟩) 1 1] w fun e w' => e = .returned (.tuple #[]) ∧ WAt lb w' (l ++ q) ∧ Below lb w w' ∧ Keeps lb w w' := by
  obtain ⟨v, hc, hf, ho, hlt⟩ := hl
  have HO := Lib.hid ho
  have HV := Lib.hid hv
  have HLt := Lib.hid hlt
  have HLen := Lib.hid hlen
  have HSet := Lib.hid (fun (w1 : World) (v1 : Value) (hb : Below (lb + 1) w w1) (h : OwnB w1 (lb + 1) v1 (l ++ q)) => wat_set hc hf hb hlt h)
  obtain ⟨ao, len, cap, hvv⟩ : ∃ ao k cap, v = .slice ao k cap := by
    obtain ⟨ao, cap, e, _⟩ := ho.bytes
    exact ⟨_, _, _, e⟩
  obtain ⟨ao2, cap2, hv2, _⟩ := id hv
  subst hvv
  subst hv2
  clear ho hv hlt hlen
  go_enter Tryz.func72, Tryz.ntmps72
  go_wp2
  go_loopw [8] (fun i wr => (i = .int .i64 0 ∧ wr = w) ∨ (i = .int .i64 1 ∧ Hid (WAt lb wr (l ++ q) ∧ Below lb w wr ∧ Keeps lb w wr))) (fun i _ => 1 - (RowKit.intOf i).toNat)
  case atStart => exact .inl ⟨rfl, rfl⟩
  case round =>
    rcases hrel with ⟨rfl, rfl⟩ | ⟨rfl, HQ⟩
    · go_wp2_with (at_builtin; refine wp_append_raw rfl (.tmp 16) (.tmp 17) rfl (lb + 1) _ l rfl (by exact HO.out) _ q _ rfl (by exact HV.out) (by exact HLen.out) (by exact HLt.out) ?_; intro v1 w1 o1 b1 g1 r1; obtain ⟨ao1, cap1, e1, _⟩ := id o1.bytes; rw [List.length_append] at e1; subst e1; have HS := Lib.hid (HSet.out w1 _ b1 o1); obtain ⟨_, _, hc1, hf1⟩ := HSet.out w1 _ b1 o1; have HKp := Lib.hid (keeps_set hc hc1 g1 r1); clear o1 b1 g1 r1)
      go_round
      case rel => exact .inr ⟨by go_num, Lib.hid ⟨HS.out.1, HS.out.2.1, HKp.out⟩⟩
      case measure => simp [RowKit.intOf]
    · go_wp2
      refine bodyPost_end (results_none rfl _ _ _) rfl ?_
      exact ⟨rfl, HQ.out⟩
end Go.Proofs.YtfclclckcjjnkaaGreatDoor
namespace Go.Proofs.YtfclclckcjjnkaaGreatDoor
open Go Go.RowKit Go.Lib

theorem WAt.adds {lb : Nat} {w w' : World} {l : List UInt8} (h : WAt lb w l) (ha : Adds w w') : WAt lb w' l := by
  obtain ⟨v, hc, hf, ho, hl⟩ := h
  exact ⟨v, (ha.cell (p := ⟨lb, 0, none⟩) hl).trans hc, (ha.frozen (p := ⟨lb, 0, none⟩) hl).trans hf, ho.adds ha, Nat.lt_of_lt_of_le hl ha.size⟩
theorem WAt.lt {lb : Nat} {w : World} {l : List UInt8} (h : WAt lb w l) : lb < w.heap.size := h.choose_spec.2.2.2
/-- The method value put. -/
def putMv (lb : Nat) : Value := .func (.func 72) #[.pointer (some ⟨lb, 0, none⟩)] #[]
/-- The bytes of numbers of a width, one behind the other. -/
def tellB (ns : List Nat) (wd : Nat) : List UInt8 := ns.flatMap fun x => fixB x wd
/-- A row of ints in a block. -/
def IntsAt (g : Nat) (w : World) (ns : List Nat) : Prop := ∀ j, j < ns.length → w.cell? ⟨g, j, none⟩ = some (.int .i64 ((ns.getD j 0 : Nat) : Int))
theorem tellB_take (ns : List Nat) (wd j : Nat) (h : j < ns.length) : tellB (ns.take (j + 1)) wd = tellB (ns.take j) wd ++ fixB (ns.getD j 0) wd := by
  unfold tellB
  rw [List.take_succ_eq_append_getElem h, List.flatMap_append]
  simp [List.getD, h]
theorem fixB_le8 (x wd : Nat) : (fixB x wd).length ≤ 8 := by
  unfold fixB
  split
  · rename_i h
    rw [leB_length]
    unfold fixE at h
    split at h
    · rename_i h2
      unfold isW at h2
      simp at h2
      omega
    · cases h
  · simp
theorem tellB_len (wd : Nat) : ∀ ns, (tellB ns wd).length ≤ 8 * ns.length
  | [] => by simp [tellB]
  | x :: ns => by
    have h1 := tellB_len wd ns
    have h2 := fixB_le8 x wd
    unfold tellB at h1 ⊢
    rw [List.flatMap_cons, List.length_append, List.length_cons]
    omega

set_option maxRecDepth 100000 in
set_option maxHeartbeats 2000000 in
theorem mtellI (lb g : Nat) (l : List UInt8) (ns : List Nat) (wd : Nat) (w : World) (hl : WAt lb w l) (hw : Widths w) (hgw : 1 < lb) (hf : Far lb w g) (hrow : IntsAt g w ns) (hns : ∀ j, ns.getD j 0 < 9223372036854775808) (hlen : l.length + 8 * ns.length ≤ 140737488355328) :
    Calls Tryz.prog 73 #[putMv lb, .int .i64 (wd : Int), .slice (some ⟨g, 0, none⟩) ns.length ns.length] w fun e w' => e = .returned (.tuple #[]) ∧ WAt lb w' (l ++ tellB ns wd) ∧ Below lb w w' ∧ Keeps lb w w' := by
  have HL := Lib.hid hl; have HW := Lib.hid hw; have HGw := Lib.hid hgw; have HF := Lib.hid hf; have HRow := Lib.hid hrow; have HNs := Lib.hid hns; have HLen := Lib.hid hlen
  have hm : ns.length ≤ 17592186044416 := by omega
  clear hl hw hgw hf hrow hns hlen
  unfold putMv
  go_enter Tryz.func73, Tryz.ntmps73
  go_wp2
  go_loopw [12] (fun i wr => ∃ j : Nat, i = .int .i64 (j : Int) ∧ j ≤ ns.length ∧ Hid (WAt lb wr (l ++ tellB (ns.take j) wd) ∧ Below lb w wr ∧ Keeps lb w wr)) (fun i _ => ns.length - (RowKit.intOf i).toNat)
  case atStart => exact ⟨0, rfl, Nat.zero_le _, Lib.hid ⟨by simpa [tellB] using HL.out, Below.refl _ _, Keeps.refl _ _⟩⟩
  case round =>
    obtain ⟨j, rfl, hj, HJ⟩ := hrel
    by_cases hlt : j < ns.length
    · have hltI : (j : Int) < (ns.length : Int) := by omega
      have hc : wr.cell? ⟨g, j, none⟩ = some (.int .i64 ((ns.getD j 0 : Nat) : Int)) := by
        rw [← HRow.out j hlt]
        have h := (HJ.out.2.2 g HF.out).2
        unfold World.cell?
        rw [h]
      obtain ⟨x, hx⟩ : ∃ x, ns.getD j 0 = x := ⟨_, rfl⟩
      have HX := Lib.hid hx
      rw [hx] at hc
      have hx2 : x < 9223372036854775808 := by rw [← hx]; exact HNs.out j
      clear hx
      have HLj := Lib.hid (show (l ++ tellB (ns.take j) wd).length + (fixB x wd).length ≤ 140737488355328 by
        have h1 := tellB_len wd (ns.take j)
        have h2 := fixB_le8 x wd
        have h3 := HLen.out
        rw [List.length_take] at h1
        rw [List.length_append]
        omega)
      have HWr := Lib.hid (show Widths wr from HW.out.low HJ.out.2.1 HGw.out)
      have HFi := Lib.hid (fixed_any x (wd : Int) wr HWr.out)
      go_wp2_with (first
        | (go_at_call 119; refine HFi.out.mono ?_; rintro e w1 ⟨v1, rfl, o1, a1⟩; obtain ⟨ao1, cap1, e1, _⟩ := id o1.bytes; subst e1; have HO1 := Lib.hid o1; have HA1 := Lib.hid a1; clear o1 a1)
        | (go_at_call 72; refine (mput (n := w1.heap.size) lb w1.heap.size (l ++ tellB (ns.take j) wd) (fixB x wd) _ _ (HJ.out.1.adds (HA1.out.trans (adds_alloc _ _))) ((BkS.new 27 w1 [_]).cell 0) (HO1.out.bytes.below (adds_alloc _ _)) HLj.out).mono ?_; rintro e w3 ⟨rfl, q1, q2, q3⟩; have HQ1 := Lib.hid q1; have HQ2 := Lib.hid (((HA1.out.trans (adds_alloc w1 _)).mono (Nat.le_of_lt HJ.out.1.lt)).trans q2); have HQ3 := Lib.hid ((Keeps.adds HJ.out.1.lt (HA1.out.trans (adds_alloc _ _))).trans q3); clear q1 q2 q3))
      go_roundw
      case rel => exact ⟨j + 1, by go_num, hlt, Lib.hid ⟨by rw [tellB_take ns wd j hlt, ← List.append_assoc, HX.out]; exact HQ1.out, HJ.out.2.1.trans HQ2.out, HJ.out.2.2.trans HQ3.out⟩⟩
      case measure => simp [RowKit.intOf]; omega
    · have : j = ns.length := by omega
      subst this
      go_wp2
      refine bodyPost_end (results_none rfl _ _ _) rfl ?_
      have h := HJ.out
      rw [List.take_length] at h
      exact ⟨rfl, h⟩
end Go.Proofs.YtfclclckcjjnkaaGreatDoor
namespace Go.Proofs.YtfclclckcjjnkaaGreatDoor
open Go Go.RowKit Go.Lib

/-- A row of words in a block. -/
def WordsAt (g : Nat) (w : World) (ns : List Nat) : Prop := ∀ j, j < ns.length → w.cell? ⟨g, j, none⟩ = some (.int .u64 ((ns.getD j 0 : Nat) : Int))
set_option maxRecDepth 100000 in
set_option maxHeartbeats 2000000 in
theorem mtellU (lb g : Nat) (l : List UInt8) (ns : List Nat) (wd : Nat) (w : World) (hl : WAt lb w l) (hw : Widths w) (hgw : 1 < lb) (hf : Far lb w g) (hrow : WordsAt g w ns) (hns : ∀ j, ns.getD j 0 < 18446744073709551616) (hlen : l.length + 8 * ns.length ≤ 140737488355328) :
    Calls Tryz.prog 75 #[putMv lb, .int .i64 (wd : Int), .slice (some ⟨g, 0, none⟩) ns.length ns.length] w fun e w' => e = .returned (.tuple #[]) ∧ WAt lb w' (l ++ tellB ns wd) ∧ Below lb w w' ∧ Keeps lb w w' := by
  have HL := Lib.hid hl; have HW := Lib.hid hw; have HGw := Lib.hid hgw; have HF := Lib.hid hf; have HRow := Lib.hid hrow; have HNs := Lib.hid hns; have HLen := Lib.hid hlen
  have hm : ns.length ≤ 17592186044416 := by omega
  clear hl hw hgw hf hrow hns hlen
  unfold putMv
  go_enter Tryz.func75, Tryz.ntmps75
  go_wp2
  go_loopw [12] (fun i wr => ∃ j : Nat, i = .int .i64 (j : Int) ∧ j ≤ ns.length ∧ Hid (WAt lb wr (l ++ tellB (ns.take j) wd) ∧ Below lb w wr ∧ Keeps lb w wr)) (fun i _ => ns.length - (RowKit.intOf i).toNat)
  case atStart => exact ⟨0, rfl, Nat.zero_le _, Lib.hid ⟨by simpa [tellB] using HL.out, Below.refl _ _, Keeps.refl _ _⟩⟩
  case round =>
    obtain ⟨j, rfl, hj, HJ⟩ := hrel
    by_cases hlt : j < ns.length
    · have hltI : (j : Int) < (ns.length : Int) := by omega
      have hc : wr.cell? ⟨g, j, none⟩ = some (.int .u64 ((ns.getD j 0 : Nat) : Int)) := by
        rw [← HRow.out j hlt]
        have h := (HJ.out.2.2 g HF.out).2
        unfold World.cell?
        rw [h]
      obtain ⟨x, hx⟩ : ∃ x, ns.getD j 0 = x := ⟨_, rfl⟩
      have HX := Lib.hid hx
      rw [hx] at hc
      have hx2 : x < 18446744073709551616 := by rw [← hx]; exact HNs.out j
      clear hx
      have HLj := Lib.hid (show (l ++ tellB (ns.take j) wd).length + (fixB x wd).length ≤ 140737488355328 by
        have h1 := tellB_len wd (ns.take j)
        have h2 := fixB_le8 x wd
        have h3 := HLen.out
        rw [List.length_take] at h1
        rw [List.length_append]
        omega)
      have HWr := Lib.hid (show Widths wr from HW.out.low HJ.out.2.1 HGw.out)
      have HFi := Lib.hid (fixed_any x (wd : Int) wr HWr.out)
      go_wp2_with (first
        | (go_at_call 119; refine HFi.out.mono ?_; rintro e w1 ⟨v1, rfl, o1, a1⟩; obtain ⟨ao1, cap1, e1, _⟩ := id o1.bytes; subst e1; have HO1 := Lib.hid o1; have HA1 := Lib.hid a1; clear o1 a1)
        | (go_at_call 72; refine (mput (n := w1.heap.size) lb w1.heap.size (l ++ tellB (ns.take j) wd) (fixB x wd) _ _ (HJ.out.1.adds (HA1.out.trans (adds_alloc _ _))) ((BkS.new 27 w1 [_]).cell 0) (HO1.out.bytes.below (adds_alloc _ _)) HLj.out).mono ?_; rintro e w3 ⟨rfl, q1, q2, q3⟩; have HQ1 := Lib.hid q1; have HQ2 := Lib.hid (((HA1.out.trans (adds_alloc w1 _)).mono (Nat.le_of_lt HJ.out.1.lt)).trans q2); have HQ3 := Lib.hid ((Keeps.adds HJ.out.1.lt (HA1.out.trans (adds_alloc _ _))).trans q3); clear q1 q2 q3))
      go_roundw
      case rel => exact ⟨j + 1, by go_num, hlt, Lib.hid ⟨by rw [tellB_take ns wd j hlt, ← List.append_assoc, HX.out]; exact HQ1.out, HJ.out.2.1.trans HQ2.out, HJ.out.2.2.trans HQ3.out⟩⟩
      case measure => simp [RowKit.intOf]; omega
    · have : j = ns.length := by omega
      subst this
      go_wp2
      refine bodyPost_end (results_none rfl _ _ _) rfl ?_
      have h := HJ.out
      rw [List.take_length] at h
      exact ⟨rfl, h⟩
end Go.Proofs.YtfclclckcjjnkaaGreatDoor
