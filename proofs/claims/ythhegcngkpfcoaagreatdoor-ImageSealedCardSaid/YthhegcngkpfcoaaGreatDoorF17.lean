/- Merged: IR2, M2, M6. -/
import Derived.Test.YthhegcngkpfcoaaGreatDoorF16
import Derived.Test.YthhegcngkpfcoaaGreatDoorF4
import Derived.Test.YthhegcngkpfcoaaGreatDoorF9
import Derived.Maps.AppendAt
namespace Go.Proofs.YthhegcngkpfcoaaGreatDoor
open Go Go.RowKit Go.Shelf Go.Lib

/-- How a reader stands: its bytes, and how many it has taken. -/
abbrev rdC (v : Value) (k : Nat) : List Value := [v, .int .i64 (k : Int)]
def RdPost8 (ok : Bool) (val : Value) (br : Nat) (v : Value) (k : Nat) (w : World) (e : Ending) (w' : World) : Prop :=
  if ok then e = .returned val ∧ BkS 186 w' br (rdC v k) ∧ TnS br w w' else e = .panicked [{ v := .iface 187 (.int .i64 110), recovered := false }] ∧ Adds w w'
theorem rfE_is (l : List UInt8) {wd : Int} (h : wd = 1 ∨ wd = 4) : rfE l wd = if l.length < wd.toNat then 110 else 0 := by
  unfold rfE
  rw [if_pos (by rcases h with rfl | rfl <;> decide)]
set_option maxRecDepth 100000 in
set_option maxHeartbeats 4000000 in
theorem readN8 {n : Nat} (br pb : Nat) (v0 v2 v3 : Value) (wd : Int) (hwd : wd = 1 ∨ wd = 4) (v : Value) (l : List UInt8) (k : Nat) (hk : k ≤ l.length) (w : World) (hn : n ≤ w.heap.size) (hv : Bytes n w v l) (hw : Widths w)
    (hp : BkS 150 w pb [v0, .int .i64 wd, v2, v3]) (hr : BkS 186 w br (rdC v k)) :
    Calls Tryz.prog 138 #[.pointer (some ⟨br, 0, none⟩), .func (.func 139) #[] #[.pointer (some ⟨pb, 0, none⟩)]] w
      (RdPost8 (decide (¬ (l.drop k).length < wd.toNat)) (.int .i64 ((rfN (l.drop k) wd : Nat) : Int)) br v (k + wd.toNat) w) := by
  have hmx : Tryz.prog.follows .mixedOrders = true := by kernel_rfl
  obtain ⟨ao, cap, rfl, hv1, hv2, hv3⟩ := id hv
  have HNum := Lib.hid (fun (W : World) (h : Adds w W) => num8 pb v0 v2 v3 wd hwd (cutF ao l.length cap k) (l.drop k) W (bytes_from (hv.below (h.mono hn)) k hk) (hw.adds h) (hp.adds h))
  have HFr := Lib.hid (fun (W : World) => from8 ao l.length cap k hk W)
  have HRd := Lib.hid hr
  have HD := Lib.hid (show ∀ w', Adds w.drew w' → w'.cell? ⟨br, 0, none⟩ = some (.slice ao l.length cap) ∧ w'.cell? ⟨br, 1, none⟩ = some (.int .i64 (k : Int)) from fun w' h => by
    have := hr.adds (Adds.trans (Adds.drew w) h)
    exact ⟨this.cell 0, this.cell 1⟩)
  have HE := Lib.hid (rfE_is (l.drop k) hwd)
  obtain ⟨m, hm⟩ : ∃ m, rfN (l.drop k) wd = m := ⟨_, rfl⟩
  obtain ⟨er, her⟩ : ∃ er, rfE (l.drop k) wd = er := ⟨_, rfl⟩
  rw [hm] at HNum ⊢
  rw [her] at HNum HE
  obtain ⟨cu, hcu⟩ : ∃ cu, cutF ao l.length cap k = cu := ⟨_, rfl⟩
  rw [hcu] at HNum HFr
  have HW4 := Lib.hid (show 1 ≤ wd ∧ wd ≤ 4 by omega)
  unfold maxLen at hv2
  have HKl := Lib.hid (And.intro hk (And.intro hv1 hv2))
  obtain ⟨ok, hok⟩ : ∃ ok, decide (¬ (l.drop k).length < wd.toNat) = ok := ⟨_, rfl⟩
  rw [hok]
  have HOk := Lib.hid hok
  clear hm her hv hw hp hr hv1 hv2 hv3 hk hok hcu hwd hn
  go_enter Tryz.func138, Tryz.ntmps138
  go_wp2_with fail
  refine wp_region_loose [] (fun _ _ _ => True) Adds (by kernel_rfl) (by kernel_rfl) (by simp) Adds.refl (fun _ _ _ h k => Adds.trans h k) (fun _ _ _ _ _ _ => trivial) ?_
  repeat (refine wpL_step (fun K hK => ?_); first
    | (refine stepL_ex rfl rfl rfl Adds.refl (fun w' hw' => rfl) ?_; go_simp; refine hK _ ?_; clear hK K)
    | (refine stepL_ex (v := .pointer (some ⟨br, 0, none⟩)) rfl rfl rfl Adds.refl ?_ ?_; (· (intro w' hw'; clear hK; go_simp)); go_simp; refine hK _ ?_; clear hK K)
    | (refine stepL_ex (v := .pointer (some ⟨br, 1, none⟩)) rfl rfl rfl Adds.refl ?_ ?_; (· (intro w' hw'; clear hK; go_simp)); go_simp; refine hK _ ?_; clear hK K)
    | (refine stepL_ex (v := .slice ao l.length cap) rfl rfl rfl Adds.refl ?_ ?_; (· (intro w' hw'; clear hK; have hc := HD.out w' hw'; go_simp)); go_simp; refine hK _ ?_; clear hK K)
    | (refine stepL_ex (v := .int .i64 (k : Int)) rfl rfl rfl Adds.refl ?_ ?_; (· (intro w' hw'; clear hK; have hc := HD.out w' hw'; go_simp)); go_simp; refine hK _ ?_; clear hK K)
    | (refine stepL_call (v := cu) (f := 142) (args := #[.slice ao l.length cap, .int .i64 (k : Int)]) rfl rfl rfl ?_ (fun w' _ => (HFr.out w').mono fun _ _ ⟨q1, q2⟩ => ⟨q1, q2 ▸ Adds.refl _⟩) ?_; (· (intro w'; clear hK; go_simp)); go_simp; refine hK _ ?_; clear hK K)
    | (refine stepL_call (v := .tuple #[.int .i64 (m : Int), .int .i64 wd, .int .i64 er]) (f := 139) (args := #[cu, .pointer (some ⟨pb, 0, none⟩)]) rfl rfl rfl ?_ (fun w' hw' => HNum.out w' (Adds.trans (Adds.drew w) hw')) ?_; (· (intro w'; clear hK; go_simp)); go_simp; refine hK _ ?_; clear hK K))
  refine wpL_nil ?_
  intro w4 a4
  simp only [forL]
  have HA4 := Lib.hid (Adds.trans (Adds.drew w) a4)
  have HR4 := Lib.hid (HRd.out.adds HA4.out)
  have d1 : w4.cell? ⟨br, 1, none⟩ = some (.int .i64 (k : Int)) := HR4.out.cell 1
  have f1 := HR4.out.free 1
  clear a4
  cases ok
  · have he : er = 110 := by
      have h1 : (l.drop k).length < wd.toNat := by have h0 := HOk.out; rw [decide_eq_false_iff_not] at h0; omega
      rw [HE.out, if_pos h1]
    subst he
    clear HD HNum HFr
    simp only [Exit.then]
    go_wp2_with fail
    exact ⟨rfl, by simp [RdPost8]; exact HA4.out⟩
  · have hl := of_decide_eq_true HOk.out
    have he : er = 0 := by rw [HE.out, if_neg hl]
    subst he
    have hwr : wrap64 ((k : Int) + wd) = (k : Int) + wd := by
      have h1 := HKl.out
      have h2 := HW4.out
      rw [List.length_drop] at hl
      unfold wrap64
      omega
    clear HD HNum HFr hl
    simp only [Exit.then]
    go_wp2_with fail
    go_ret
    have hs := HR4.out.set 1 (.int .i64 ((k : Int) + wd))
    have e : ((k + wd.toNat : Nat) : Int) = (k : Int) + wd := by have := HW4.out; omega
    refine ⟨rfl, ?_, (TnS.of_adds br HA4.out).trans (TnS.setCell _ _ _ _)⟩
    unfold rdC
    rw [e]
    exact hs
end Go.Proofs.YthhegcngkpfcoaaGreatDoor
namespace Go.Proofs.YthhegcngkpfcoaaGreatDoor
open Go Go.RowKit Go.Shelf Go.Lib

/-- What a reader's call does: it answers and stands further on, or gives up with a refusal. -/
def MkPost (r : Option Int) (val : Value) (br : Nat) (v : Value) (k : Nat) (w : World) (e : Ending) (w' : World) : Prop :=
  match r with
  | none => e = .returned val ∧ BkS 68 w' br (rdC v k) ∧ TnS br w w'
  | some er => e = .panicked [{ v := .iface 70 (.int .i64 er), recovered := false }] ∧ TnS br w w'

theorem has_is (ao : Option Addr) (len cap i many : Nat) (b : Bool) (hb : decide (i + many ≤ len) = b) (hi : i ≤ len) (hm : len ≤ 9223372036854775807) (w : World) :
    Calls Tryz.prog 69 #[.slice ao len cap, .int .i64 (i : Int), .int .i64 (many : Int)] w fun e w' => e = .returned (.bool b) ∧ w = w' := hb ▸ has_any ao len cap i many hi hm w

set_option maxHeartbeats 1000000 in
theorem mtake_no {n : Nat} (br : Nat) (v : Value) (l : List UInt8) (k many : Nat) (w : World) (hv : Bytes n w v l) (hr : BkS 68 w br (rdC v k)) (hk : k ≤ l.length) (h : l.length < k + many) :
    Calls Tryz.prog 45 #[.pointer (some ⟨br, 0, none⟩), .int .i64 (many : Int)] w (MkPost (some 110) (.slice none 0 0) br v k w) := by
  obtain ⟨ao, cap, rfl, h1, h2, h3⟩ := id hv
  clear hv h3
  have c0 : w.cell? ⟨br, 0, none⟩ = some (.slice ao l.length cap) := hr.cell 0
  have c1 : w.cell? ⟨br, 1, none⟩ = some (.int .i64 (k : Int)) := hr.cell 1
  clear hr
  unfold maxLen at h2
  have HN := Lib.hid (has_is ao l.length cap k many false (by simp; omega) hk (by omega))
  clear hk h h1 h2
  go_enter Tryz.func45, Tryz.ntmps45
  go_wp2_with fail
  go_quiet ((go_at_call 69; exact quiet_left (HN.out _)))
  go_wp2_with fail
  exact ⟨rfl, rfl, TnS.of_adds br (Adds.drewN w _)⟩

set_option maxHeartbeats 1000000 in
theorem mtake_yes {n : Nat} (br : Nat) (v : Value) (l : List UInt8) (k many : Nat) (w : World) (hv : Bytes n w v l) (hr : BkS 68 w br (rdC v k)) (h : k + many ≤ l.length) :
    ∃ v', Calls Tryz.prog 45 #[.pointer (some ⟨br, 0, none⟩), .int .i64 (many : Int)] w (MkPost none v' br v (k + many) w) ∧ Bytes n w v' ((l.drop k).take many) := by
  obtain ⟨ao, cap, rfl, h1, h2, h3⟩ := id hv
  refine ⟨cutV ao k many, ?_, cutV_bytes hv k many h⟩
  clear hv h3
  have c0 : w.cell? ⟨br, 0, none⟩ = some (.slice ao l.length cap) := hr.cell 0
  have c1 : w.cell? ⟨br, 1, none⟩ = some (.int .i64 (k : Int)) := hr.cell 1
  have f1 : w.frozen? ⟨br, 1, none⟩ = false := hr.free 1
  have HR := Lib.hid hr
  clear hr
  unfold maxLen at h2
  have HN := Lib.hid (has_is ao l.length cap k many true (by simp; omega) (by omega) (by omega))
  have HC := Lib.hid (fun W => mcut_any ao l.length cap k many W h1 (by omega) h)
  obtain ⟨v', hv'⟩ : ∃ v', cutV ao k many = v' := ⟨_, rfl⟩
  rw [hv'] at HC ⊢
  clear hv'
  have hwr : wrap64 ((k : Int) + many) = ((k + many : Nat) : Int) := by unfold wrap64; omega
  clear h h1 h2
  go_enter Tryz.func45, Tryz.ntmps45
  go_wp2_with fail
  go_quiet ((go_at_call 69; exact quiet_left (HN.out _)))
  go_wp2_with fail
  go_quiet ((go_at_call 47; exact quiet_add_left (HC.out _)))
  go_wp2
  go_ret
  have hs := fun m => (HR.out.adds (Adds.drewN w m)).set 1 (.int .i64 ((k : Int) + many))
  refine ⟨rfl, ?_, (TnS.of_adds br (Adds.drewN w _)).trans (TnS.setCell _ _ _ _)⟩
  unfold rdC
  rw [show ((k + many : Nat) : Int) = (k : Int) + many by omega]
  exact hs _
end Go.Proofs.YthhegcngkpfcoaaGreatDoor
namespace Go.Proofs.YthhegcngkpfcoaaGreatDoor
open Go Go.RowKit

theorem run_append_raw (ty : TypeId) (ao : Option Addr) (n c : Nat) (ao2 : Option Addr) (n2 c2 : Nat) (w : World) :
    (Builtin.append_ #[61, 27] ty #[.slice ao n c, .slice ao2 n2 c2]).run Tryz.prog w = (Builtin.append_ #[27, 27] ty #[.slice ao n c, .slice ao2 n2 c2]).run Tryz.prog w := by
  simp only [Builtin.append_, List.getElem?_toArray, List.getElem?_cons_zero, List.getElem?_cons_succ]
  simp [run_underlying Tryz.underlying61, run_underlying Tryz.underlying27]
theorem run_append_r {w : World} (ty : TypeId) (base : Nat) (v : Value) (pre : List UInt8) (hown : OwnB w base v pre)
    (v2 : Value) (l : List UInt8) (n : Nat) (hv : Bytes n w v2 l) (hlen : pre.length + l.length ≤ 140737488355328) (hbase : base ≤ w.heap.size) :
    ∃ v' w', (Builtin.append_ #[61, 27] ty #[v, v2]).run Tryz.prog w = .ok v' w' ∧ OwnB w' base v' (pre ++ l) ∧ Below base w w' ∧ w.grownBy w' v.ownBlock ∧ (v'.ownBlock = v.ownBlock ∨ v'.ownBlock = some w.heap.size) := by
  obtain ⟨ao, cap, rfl, h1, h2, h3⟩ := id hv
  obtain ⟨i0, hi, hz0, hz1, hz2⟩ := info_parts info8
  obtain ⟨vo, vcap, hvv, _⟩ := id hown.bytes
  cases ao with
  | none =>
    have hl : l = [] := by
      rcases l with _ | ⟨y, l⟩
      · rfl
      · obtain ⟨b, off, e, _⟩ := h3 (by simp)
        cases e
    subst hl
    have hr := run_append_none (P := Tryz.prog) (w := w) base 27 ty 5 i0 1 Tryz.underlying27 hi v pre.length cap (pre.map byteV) hown
    refine ⟨v, w, ?_, by simpa using hown, Below.refl _ _, ⟨rfl, rfl, rfl, Nat.le_refl _, fun _ _ _ => rfl⟩, .inl rfl⟩
    subst hvv
    rw [List.length_nil, run_append_raw]
    exact hr
  | some ad =>
    obtain ⟨v', w', hr, r1, r2, _, r4⟩ := run_append_own_at (P := Tryz.prog) (w := w) base 27 ty 5 i0 (.int .u8 0) 1 1 Tryz.underlying27 hi hz0 hz1 hz2 rfl (by decide) v pre.length (pre.map byteV) hown ad l.length cap (l.map byteV) (by simp) hv.news.2
      (fun u hu => by obtain ⟨b, _, rfl⟩ := List.mem_map.1 hu; rfl) (by unfold maxLen; omega) (by omega) hbase
    refine ⟨v', w', ?_, ?_, ?_, r2, r4⟩
    · subst hvv
      rw [run_append_raw]
      exact hr
    · unfold OwnB
      rw [List.length_append, List.map_append]
      exact r1
    · refine ⟨r2.os, r2.tape, r2.output, r2.size, fun i hi => r2.block i (by omega) (fun e => ?_)⟩
      rcases hown.2 with ⟨rfl, _⟩ | ⟨g, cap', cur, rfl, hb, _⟩
      · cases e
      · simp [Value.ownBlock] at e; omega
section
variable {w : World} {ops : Array Oper} {rest : List Oper} {o : Oper} {a : Act} {Q : Exit → Act → World → Prop}
theorem wp_append_raw (hgd : o.guard = none) (s x : Operand)
    (ho : o.op = .call { callee := .builtin .append, args := #[s, x], argTypes := #[61, 27] }) (base : Nat) (v : Value) (pre : List UInt8) (hs : a.eval s = v) (hown : OwnB w base v pre)
    (v2 : Value) (l : List UInt8) (n : Nat) (hx : a.eval x = v2) (hv : Bytes n w v2 l) (hlen : pre.length + l.length ≤ 140737488355328) (hbase : base ≤ w.heap.size)
    (h : ∀ v' w', OwnB w' base v' (pre ++ l) → Below base w w' → w.grownBy w' v.ownBlock → (v'.ownBlock = v.ownBlock ∨ v'.ownBlock = some w.heap.size) → wpList Tryz.prog ops Q rest (a.put o.dst v') w') : wpList Tryz.prog ops Q (o :: rest) a w := by
  obtain ⟨v', w', hr, r1, r2, r3, r4⟩ := run_append_r o.type base v pre hown v2 l n hv hlen hbase
  refine wpList_plain hgd fun K hK => ?_
  unfold Oper.wp
  simp [execOp, ho, resolve, invoke, builtin, hs, hx, hr, Result.andThen]
  exact hK _ _ (h v' w' r1 r2 r3 r4)
end
/-- How the writer stands: its bytes are a row of its own, above its block. -/
def WAt (lb : Nat) (w : World) (l : List UInt8) : Prop := ∃ v, w.cell? ⟨lb, 0, none⟩ = some v ∧ w.frozen? ⟨lb, 0, none⟩ = false ∧ OwnB w (lb + 1) v l ∧ lb < w.heap.size
theorem wat_set {lb : Nat} {w w1 : World} {v v1 : Value} {l : List UInt8} (hc : w.cell? ⟨lb, 0, none⟩ = some v) (hf : w.frozen? ⟨lb, 0, none⟩ = false) (hb : Below (lb + 1) w w1) (hl : lb < w.heap.size) (ho : OwnB w1 (lb + 1) v1 l) :
    WAt lb (w1.setCell ⟨lb, 0, none⟩ v1) l ∧ Below lb w (w1.setCell ⟨lb, 0, none⟩ v1) ∧ w1.cell? ⟨lb, 0, none⟩ = some v ∧ w1.frozen? ⟨lb, 0, none⟩ = false := by
  have h1 : w1.cell? ⟨lb, 0, none⟩ = some v := (hb.cell (p := ⟨lb, 0, none⟩) (by simp)).trans hc
  have h2 : w1.frozen? ⟨lb, 0, none⟩ = false := (hb.frozen (p := ⟨lb, 0, none⟩) (by simp)).trans hf
  refine ⟨⟨v1, ?_, ?_, ?_, ?_⟩, (hb.mono (by omega)).setCell (by simp) _, h1, h2⟩
  · exact World.cell?_setCell_same _ _ _ h1
  · rw [World.frozen?_setCell]; exact h2
  · exact ownsRow_setCell_below ho (by simp) _
  · have := hb.size; simp; omega
/-- A block that is neither the writer's nor that of its bytes. -/
def Far (lb : Nat) (w : World) (c : Nat) : Prop := c < w.heap.size ∧ c ≠ lb ∧ ∀ v, w.cell? ⟨lb, 0, none⟩ = some v → v.ownBlock ≠ some c
theorem Far.adds {lb c : Nat} {w w' : World} (h : Far lb w c) (hl : lb < w.heap.size) (ha : Adds w w') : Far lb w' c :=
  ⟨Nat.lt_of_lt_of_le h.1 ha.size, h.2.1, fun v hv => h.2.2 v (by rw [← hv]; exact (ha.cell (p := ⟨lb, 0, none⟩) hl).symm)⟩
/-- All the far blocks keep what they hold, and stay far. -/
def Keeps (lb : Nat) (w w' : World) : Prop := ∀ c, Far lb w c → Far lb w' c ∧ w'.heap[c]? = w.heap[c]?
theorem Keeps.refl (lb : Nat) (w : World) : Keeps lb w w := fun _ h => ⟨h, rfl⟩
theorem Keeps.trans {lb : Nat} {u v w : World} (h : Keeps lb u v) (k : Keeps lb v w) : Keeps lb u w := fun c hc => ⟨(k c (h c hc).1).1, (k c (h c hc).1).2.trans (h c hc).2⟩
theorem Keeps.adds {lb : Nat} {w w' : World} (hl : lb < w.heap.size) (ha : Adds w w') : Keeps lb w w' := fun c hc => ⟨hc.adds hl ha, ha.block c hc.1⟩
theorem keeps_set {lb : Nat} {w w1 : World} {v v1 : Value} (hc : w.cell? ⟨lb, 0, none⟩ = some v) (hc1 : w1.cell? ⟨lb, 0, none⟩ = some v) (hg : w.grownBy w1 v.ownBlock) (hv : v1.ownBlock = v.ownBlock ∨ v1.ownBlock = some w.heap.size) : Keeps lb w (w1.setCell ⟨lb, 0, none⟩ v1) := by
  rintro c ⟨h1, h2, h3⟩
  refine ⟨⟨by have := hg.size; simp; omega, h2, fun u hu => ?_⟩, ?_⟩
  · rw [World.cell?_setCell_same _ _ _ hc1] at hu
    cases hu
    rcases hv with e | e
    · rw [e]; exact h3 v hc
    · rw [e]; intro e2; cases e2; omega
  · exact (Below.heap_setCell w1 _ _ _ h2).trans (hg.block c h1 (h3 v hc).symm)
/-- put, of one part. -/
theorem mput {n : Nat} (lb g : Nat) (l q : List UInt8) (v2 : Value) (w : World) (hl : WAt lb w l) (hg : w.cell? ⟨g, 0, none⟩ = some v2) (hv : Bytes n w v2 q) (hlen : l.length + q.length ≤ 140737488355328) :
    Calls Tryz.prog 35 #[.pointer (some ⟨lb, 0, none⟩), .slice (some ⟨g, 0, none⟩) 1 1] w fun e w' => e = .returned (.tuple #[]) ∧ WAt lb w' (l ++ q) ∧ Below lb w w' ∧ Keeps lb w w' := by
  obtain ⟨v, hc, hf, ho, hlt⟩ := hl
  have HO := Lib.hid ho
  have HV := Lib.hid hv
  have HLt := Lib.hid hlt
  have HLen := Lib.hid hlen
  have HSet := Lib.hid (fun (w1 : World) (v1 : Value) (hb : Below (lb + 1) w w1) (h : OwnB w1 (lb + 1) v1 (l ++ q)) => wat_set hc hf hb hlt h)
  obtain ⟨ao, len, cap, hvv⟩ : ∃ ao k cap, v = .slice ao k cap := by
    obtain ⟨ao, cap, e, _⟩ := ho.bytes
    exact ⟨_, _, _, e⟩
  obtain ⟨ao2, cap2, hv2, _⟩ := id hv
  subst hvv
  subst hv2
  clear ho hv hlt hlen
  go_enter Tryz.func35, Tryz.ntmps35
  go_wp2
  go_loopw [8] (fun i wr => (i = .int .i64 0 ∧ wr = w) ∨ (i = .int .i64 1 ∧ Hid (WAt lb wr (l ++ q) ∧ Below lb w wr ∧ Keeps lb w wr))) (fun i _ => 1 - (RowKit.intOf i).toNat)
  case atStart => exact .inl ⟨rfl, rfl⟩
  case round =>
    rcases hrel with ⟨rfl, rfl⟩ | ⟨rfl, HQ⟩
    · go_wp2_with (at_builtin; refine wp_append_raw rfl (.tmp 16) (.tmp 17) rfl (lb + 1) _ l rfl (by exact HO.out) _ q _ rfl (by exact HV.out) (by exact HLen.out) (by exact HLt.out) ?_; intro v1 w1 o1 b1 g1 r1; obtain ⟨ao1, cap1, e1, _⟩ := id o1.bytes; rw [List.length_append] at e1; subst e1; have HS := Lib.hid (HSet.out w1 _ b1 o1); obtain ⟨_, _, hc1, hf1⟩ := HSet.out w1 _ b1 o1; have HKp := Lib.hid (keeps_set hc hc1 g1 r1); clear o1 b1 g1 r1)
      go_round
      case rel => exact .inr ⟨by go_num, Lib.hid ⟨HS.out.1, HS.out.2.1, HKp.out⟩⟩
      case measure => simp [RowKit.intOf]
    · go_wp2
      refine bodyPost_end (results_none rfl _ _ _) rfl ?_
      exact ⟨rfl, HQ.out⟩
end Go.Proofs.YthhegcngkpfcoaaGreatDoor
