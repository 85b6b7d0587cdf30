/- The document's digest of a memory: its contract. -/
import Derived.Test.YtleihmmkonakhaaDoorMRA
import Derived.Test.YtleihmmkonakhaaDoorMFx
namespace Go.Proofs.YtleihmmkonakhaaDoor
open Go Go.RowKit Go.Shelf Go.Maps

theorem wpB_append {w : World} {ops : Array Oper} {rest : List Oper} {o : Oper} {a : Act} {Q : Exit → Act → World → Prop} (hgd : o.guard = none) (s x : Operand)
    (ho : o.op = .call { callee := .builtin .append, args := #[s, x], argTypes := #[59, 59] }) (base : Nat) (v : Value) (pre : List UInt8) (hs : a.eval s = v) (hown : OwnB w base v pre)
    (v2 : Value) (l : List UInt8) (b2 : Nat) (hx : a.eval x = v2) (hv : OwnB w b2 v2 l) (hl0 : l ≠ [])
    (hlen : pre.length + l.length ≤ 140737488355328) (hbase : base ≤ w.heap.size)
    (h : ∀ v' w', OwnB w' base v' (pre ++ l) → Below base w w' → (∀ k, k < w.heap.size → v.ownBlock ≠ some k → w'.heap[k]? = w.heap[k]?) → wpList Tryd.prog ops Q rest (a.put o.dst v') w') : wpList Tryd.prog ops Q (o :: rest) a w := by
  obtain ⟨i0, hi, hz0, hz1, hz2⟩ := info_parts info8
  have hb := hv.bytes
  obtain ⟨ao, cap, rfl, h1, h2, h3⟩ := id hb
  obtain ⟨b, off, rfl, _⟩ := h3 hl0
  refine wpList_append_own w hgd s x 59 ho base 5 i0 (.int .u8 0) 1 1 Tryd.underlying59 hi hz0 hz1 hz2 rfl (by decide) v pre.length (pre.map byteV) hs hown _ l.length cap (l.map byteV) hx (by simp) hb.news.2
    (fun u hu => by obtain ⟨b, _, rfl⟩ := List.mem_map.1 hu; rfl) (by unfold maxLen; omega) (by omega) hbase fun v' w' h4 h5 _ => h v' w' ?_ ?_ (fun k hk hne => h5.block k hk (fun e => hne e.symm))
  · unfold OwnB; rw [List.length_append, List.map_append]; exact h4
  · refine ((Below.refl base w).grown h5 hbase fun k hk => ?_)
    exact (World.ownsRow.lt hown k hk.symm.symm).1
theorem OwnB.keepBlk {w w' : World} {base : Nat} {v : Value} {l : List UInt8} (h : OwnB w base v l) (hk : ∀ g, v.ownBlock = some g → w'.heap[g]? = w.heap[g]?) : OwnB w' base v l :=
  ⟨h.1, h.2.elim .inl (fun ⟨g, cap, cur, e, h2, h3, h4⟩ => .inr ⟨g, cap, cur, e, h2, (hk g (by rw [e]; rfl)).trans h3, h4⟩)⟩
theorem ownB_adds {w w' : World} {b : Nat} {v : Value} {l : List UInt8} (h : OwnB w b v l) (ha : Adds w w') : OwnB w' b v l := h.keepBlk fun g hg => Below.block ha g (World.ownsRow.lt h g hg).2
theorem fix4 {x : Nat} (hx : x < 4294967296) : fixE x 4 = 0 ∧ fixB x 4 = leB 4 x := by
  have e1 : fixE x 4 = 0 := by unfold fixE; rw [if_pos (by decide), if_pos (by simpa using hx)]
  exact ⟨e1, by unfold fixB; rw [if_pos e1]; rfl⟩
theorem fixed4_any (x : Nat) (hx : x < 4294967296) (w : World) :
    Calls Tryd.prog 36 #[.int .u64 ((x : Nat) : Int), .int .i64 4] w fun e w' => ∃ p n c, e = .returned (.tuple #[.slice p n c, .int .i64 0]) ∧ OwnB w' w.heap.size (.slice p n c) (leB 4 x) ∧ Adds w w' := by
  refine (refFixed_any x (by unfold U64; omega) 4 w).mono ?_
  rintro e w' ⟨v, he, ho, ha⟩
  obtain ⟨e1, e2⟩ := fix4 hx
  rw [e1] at he
  rw [e2] at ho
  obtain ⟨g, cap, rfl, _⟩ := ho.form (fun h => by have := congrArg List.length h; rw [leB_length] at this; cases this)
  exact ⟨_, _, _, he, ho, ha⟩
theorem leB4_ne (x : Nat) : leB 4 x ≠ [] := fun h => by have := congrArg List.length h; rw [leB_length] at this; cases this
theorem cellsB_take {cs : List (Nat × Nat)} {i : Nat} (h : i < cs.length) : cellsB (cs.take (i + 1)) = cellsB (cs.take i) ++ leB 4 (atL cs i).1 ++ leB 4 (atL cs i).2 := by
  rw [List.take_succ_eq_append_getElem h, cellsB_snoc]
  simp [atL, List.getD_eq_getElem?_getD, h, cellB]
set_option maxRecDepth 100000 in
set_option maxHeartbeats 4000000 in
theorem refDigest_any (rv : Value) (cs : List (Nat × Nat)) (w : World) (hc : CellsW (fun _ => True) w rv cs) (hn : cs.length ≤ 4294967296) (hok : cellsOk cs) :
    Calls Tryd.prog 16 #[.agg #[rv]] w fun e w' => e = .returned (.int .u64 ((sumS (cellsB cs) : Nat) : Int)) ∧ Adds w w' := by
  have HC := Lib.hid hc; have HN := Lib.hid hn; have HOK := Lib.hid hok
  obtain ⟨ao, cap, rfl, h1, h2, _⟩ := hc
  unfold maxLen at h2
  clear hn hok
  go_enter Tryd.func16, Tryd.ntmps16
  go_wp2_with fail
  obtain ⟨W1, hW1⟩ : ∃ W1, w.alloc (.cells #[.slice ao cs.length cap] 27) = W1 := ⟨_, rfl⟩
  have HA1 := Lib.hid (show Adds w W1 by rw [← hW1]; exact Adds.new _ _)
  have HS1 := Lib.hid (show W1.heap.size = w.heap.size + 1 by rw [← hW1]; simp)
  have HBx := Lib.hid (show W1.cell? ⟨w.heap.size, 0, none⟩ = some (.slice ao cs.length cap) by rw [← hW1]; simp)
  rw [hW1]; clear hW1
  obtain ⟨n0, hn0⟩ : ∃ n0, w.heap.size = n0 := ⟨_, rfl⟩
  have HN0 := Lib.hid hn0
  rw [hn0] at HBx HS1 ⊢
  clear hn0
  go_loopw [3, 4] (fun t3 t4 wr => ∃ i : Nat, i ≤ cs.length ∧ t4 = .int .i64 i ∧ OwnB wr (n0 + 1) t3 (cellsB (cs.take i)) ∧ Below (n0 + 1) W1 wr) (fun _ t4 _ => cs.length - (intOf t4).toNat)
  case atStart => exact ⟨0, Nat.zero_le _, rfl, OwnB.nil _ _, Below.refl _ _⟩
  case round =>
    obtain ⟨i, hi, rfl, hr, hb⟩ := hrel
    have HR := Lib.hid hr; have HB := Lib.hid hb; have HI := Lib.hid hi
    have HSz := Lib.hid (show n0 + 1 ≤ wr.heap.size by have := hb.size; have := HS1.out; omega)
    have HAr := Lib.hid (show Adds w wr from Adds.trans HA1.out (show Below W1.heap.size W1 wr from HS1.out ▸ hb))
    have HLen := Lib.hid (show (cellsB (cs.take i)).length ≤ 8 * i by rw [cellsB_length]; have : (cs.take i).length ≤ i := List.length_take_le _ _; omega)
    clear hr hb hi
    have cx := Adds.cellAt (show Adds W1 wr from (show Below W1.heap.size W1 wr from HS1.out ▸ HB.out)) HBx.out
    by_cases hlt : i < cs.length
    · have hltI : (i : Int) < (cs.length : Int) := by omega
      obtain ⟨g, off, rfl, k0, k1⟩ := cells_read HC.out HAr.out hlt
      have HTk := Lib.hid (cellsB_take hlt)
      have HX := Lib.hid (HOK.out.at i)
      have HAt := Lib.hid (show cs.getD i (0, 0) = atL cs i from rfl)
      rw [HAt.out] at HX
      have HLt := Lib.hid hlt
      clear hlt
      obtain ⟨y, hy⟩ : ∃ y, atL cs i = y := ⟨_, rfl⟩
      rw [hy] at k0 k1 HTk HX
      clear hy
      obtain ⟨ya, yv⟩ := y
      simp only at k0 k1 HTk HX
      obtain ⟨out, ho⟩ : ∃ out, cellsB (cs.take i) = out := ⟨_, rfl⟩
      rw [ho] at HR HLen HTk
      clear ho
      have z1 : IntKind.u64.wrap ((ya : Nat) : Int) = ((ya : Nat) : Int) := by have := HX.out.1; rw [IntKind.wrap_u64]; omega
      have z2 : IntKind.u64.wrap ((yv : Nat) : Int) = ((yv : Nat) : Int) := by have := HX.out.2; rw [IntKind.wrap_u64]; omega
      have HF1 := Lib.hid (fixed4_any ya HX.out.1 wr)
      have HF2 := Lib.hid (fun (W : World) => fixed4_any yv HX.out.2 W)
      go_wp2_with (first
        | (go_at_call 36; refine HF1.out.mono ?_; rintro e w2 ⟨p1, n1, c1, rfl, q1, q2⟩; have HX1 := Lib.hid q1; have HA2 := Lib.hid q2; have d1 := Adds.cellAt q2 k1; have dx := Adds.cellAt q2 cx; clear q1 q2 HF1)
        | (go_at_call 36; refine (HF2.out w2).mono ?_; rintro e w3 ⟨p2, n2, c2, rfl, q1, q2⟩; have HX2 := Lib.hid q1; have HA3 := Lib.hid q2; clear q1 q2 HF2)
        | (at_builtin; (fail_if_success (show wpList _ _ _ ({ dst := some 12, op := _, type := _, pos := _, after := _, guard := _ } :: _) _ _)); (fail_if_success (show wpList _ _ _ ({ dst := some 42, op := _, type := _, pos := _, after := _, guard := _ } :: _) _ _)); go_must (refine wpB_append rfl _ _ rfl (n0 + 1) _ out rfl (by exact ownB_adds (ownB_adds HR.out HA2.out) HA3.out) _ (leB 4 ya) _ rfl (by exact ownB_adds HX1.out HA3.out) (leB4_ne ya) (by rw [leB_length]; have := HLen.out; have := HLt.out; have := HN.out; omega) (by have := HSz.out; have := HA2.out.size; have := HA3.out.size; omega) ?_; intro v4 w4 o4 b4 k4; have HO4 := Lib.hid o4; have HB4 := Lib.hid b4; have HS4 := Lib.hid (Nat.le_trans (Nat.le_trans HSz.out (Nat.le_trans HA2.out.size HA3.out.size)) b4.size); have HX24 := Lib.hid (HX2.out.keepBlk (fun g hg => k4 g ((World.ownsRow.lt HX2.out g hg).2) (fun e => by have h8 := (World.ownsRow.lt HX2.out g hg).1; have h9 := (World.ownsRow.lt HR.out g e).2; have := HA2.out.size; omega))); clear o4 b4 k4))
        | (at_builtin; (fail_if_success (show wpList _ _ _ ({ dst := some 12, op := _, type := _, pos := _, after := _, guard := _ } :: _) _ _)); (fail_if_success (show wpList _ _ _ ({ dst := some 40, op := _, type := _, pos := _, after := _, guard := _ } :: _) _ _)); go_must (refine wpB_append rfl _ _ rfl (n0 + 1) _ (out ++ leB 4 ya) rfl (by exact HO4.out) _ (leB 4 yv) _ rfl (by exact HX24.out) (leB4_ne yv) (by rw [List.length_append, leB_length, leB_length]; have := HLen.out; have := HLt.out; have := HN.out; omega) (by exact HS4.out) ?_; intro v5 w5 o5 b5 k5; have HO5 := Lib.hid o5; have HB5 := Lib.hid b5; clear o5 b5 k5)))
      go_roundw
      case rel => exact ⟨i + 1, HLt.out, rfl, by rw [HTk.out]; exact HO5.out, Below.trans HB.out (Below.trans (Below.mono HA2.out HSz.out) (Below.trans (Below.mono HA3.out (Nat.le_trans HSz.out HA2.out.size)) (Below.trans HB4.out HB5.out)))⟩
      case measure => simp [intOf]; have := HLt.out; omega
    · obtain rfl : i = cs.length := by have := HI.out; omega
      rw [List.take_length] at HR
      clear hlt
      have HOf := Lib.hid (refOf_any u3 (cellsB cs) wr HR.out.bytes)
      go_wp2_with (go_at_call 25; refine HOf.out.mono ?_; rintro e w2 ⟨rfl, rfl⟩)
      go_ret
      exact ⟨rfl, HAr.out⟩
end Go.Proofs.YtleihmmkonakhaaDoor
