/- copied, Copy: their contracts. -/
import Derived.Test.YtedllkahalfjgaaWN1
import Derived.Deep.MidRow
namespace Go.Proofs.Ytedllkahalfjgaa
open Go Go.RowKit

/-- A list under way: the first k have readers of their own. -/
structure CopyS (k : Nat) (w0 wr : World) (b2 : Nat) (lv lk_ : List LM) : Prop where
  len : lk_.length = lv.length
  blk : BkS 94 wr b2 (listC lk_)
  done : ∀ (j : Nat) x, j < k → lk_[j]? = some x → (lv[j]?).map LM.lk = some x.lk ∧ CutR wr x.sv x.lk.rd ∧ ∀ g, x.sv.ownBlock = some g → b2 < g
  apart : ∀ (i j : Nat) x y g, i < k → j < k → lk_[i]? = some x → lk_[j]? = some y → x.sv.ownBlock = some g → y.sv.ownBlock = some g → i = j
  todo : ∀ j, k ≤ j → lk_[j]? = lv[j]?
  adds : Adds w0 wr
  base : w0.heap.size ≤ b2
theorem CopyS.step {k : Nat} {w0 wr w1 : World} {b2 : Nat} {lv lk_ : List LM} {x : LM} {v' : Value} (h : CopyS k w0 wr b2 lv lk_) (hl : lv.length ≤ 64) (hx : lv[k]? = some x) (ha : Adds wr w1) (hv : IntsO wr.heap.size w1 v' x.lk.rd) :
    CopyS (k + 1) w0 (w1.setCell ⟨b2, k * 3, none⟩ v') b2 lv (lk_.set k ⟨x.lk, v'⟩) := by
  have hk : k < lv.length := (List.getElem?_eq_some_iff.1 hx).1
  have hk' : k < lk_.length := by rw [h.len]; exact hk
  have hb := h.blk.lt
  have nb : ∀ g, v'.ownBlock = some g → wr.heap.size ≤ g := fun g hg => (World.ownsRow.lt hv g hg).1
  have get : ∀ j z, (lk_.set k ⟨x.lk, v'⟩)[j]? = some z → (j = k ∧ z = ⟨x.lk, v'⟩) ∨ (j ≠ k ∧ lk_[j]? = some z) := fun j z hz => by
    rw [List.getElem?_set] at hz
    by_cases e : k = j
    · rw [if_pos e, if_pos (by omega)] at hz; simp at hz; exact .inl ⟨e.symm, hz.symm⟩
    · rw [if_neg e] at hz; exact .inr ⟨fun e' => e e'.symm, hz⟩
  have old : ∀ (j : Nat) z g, j < k → lk_[j]? = some z → z.sv.ownBlock = some g → g < wr.heap.size := fun j z g hj hz hg => ((h.done j z hj hz).2.1).lt g hg
  refine ⟨by simpa using h.len, ?_, ?_, ?_, ?_, ?_, h.base⟩
  · have h1 := (h.blk.adds ha).set (k * 3) v'
    have hx' : lk_[k]? = some x := (h.todo k (Nat.le_refl k)).trans hx
    rwa [show k * 3 = k * 3 + 0 from rfl, listC_set (by rw [h.len]; exact hl) hk' 0 (by decide) v' ⟨x.lk, v'⟩ (fun z hz => by rw [hx'] at hz; cases hz; rfl)] at h1
  · intro j z hj hz
    rcases get j z hz with ⟨rfl, rfl⟩ | ⟨hne, hz1⟩
    · refine ⟨by rw [hx]; rfl, hv.cut.kept (fun g hg => Below.heap_setCell w1 _ _ _ (fun e => ?_)), fun g hg => ?_⟩
      · have := nb g hg; have e' : g = b2 := e; omega
      · have := nb g hg; omega
    · obtain ⟨d1, d2, d3⟩ := h.done j z (by omega) hz1
      exact ⟨d1, (d2.adds ha).kept (fun g hg => Below.heap_setCell w1 _ _ _ (fun e => by have := d3 g hg; have e' : g = b2 := e; omega)), d3⟩
  · intro i j y z g hi hj hy hz hg hg'
    rcases get i y hy with ⟨e1, e2⟩ | ⟨hi1, hy1⟩
    · rcases get j z hz with ⟨e3, e4⟩ | ⟨hj1, hz1⟩
      · rw [e1, e3]
      · rw [e2] at hg
        have := nb g hg
        have := old j z g (by omega) hz1 hg'
        omega
    · rcases get j z hz with ⟨e3, e4⟩ | ⟨hj1, hz1⟩
      · rw [e4] at hg'
        have := nb g hg'
        have := old i y g (by omega) hy1 hg
        omega
      · exact h.apart i j y z g (by omega) (by omega) hy1 hz1 hg hg'
  · intro j hj
    rw [List.getElem?_set_ne (by omega)]
    exact h.todo j (by omega)
  · exact Adds.set (Adds.trans h.adds ha) h.base _ _
theorem CopyS.locks {m : Nat} {w0 wr w' : World} {b2 bp : Nat} {lv lk_ : List LM} (h : CopyS lv.length w0 wr b2 lv lk_) (hl : lv.length ≤ 64) (hok : ∀ x ∈ lv, OkL m x.lk) (ha : Adds wr w') (hp : BkS 96 w' bp [.pointer (some ⟨b2, 0, none⟩)]) (hbp : w0.heap.size ≤ bp) :
    ∃ O, HasL m w' (.pointer (some ⟨bp, 0, none⟩)) O (lv.map LM.lk) ∧ ∀ k, O k → w0.heap.size ≤ k := by
  have lt : ∀ {j : Nat} {z : LM}, lk_[j]? = some z → j < lv.length := fun hz => by rw [← h.len]; exact (List.getElem?_eq_some_iff.1 hz).1
  have hlk : lv.map LM.lk = lk_.map LM.lk := by
    apply List.ext_getElem?
    intro j
    rw [List.getElem?_map, List.getElem?_map]
    cases hz : lk_[j]? with
    | some z => exact (h.done j z (lt hz) hz).1
    | none => rw [List.getElem?_eq_none (by rw [← h.len]; exact List.getElem?_eq_none_iff.1 hz)]
  refine ⟨_, ⟨bp, b2, lk_, ⟨rfl, hp, h.blk.adds ha, by rw [h.len]; exact hl, fun i x hx => ((h.done i x (lt hx) hx).2.1).adds ha, fun i j x y k hx hy => h.apart i j x y k (lt hx) (lt hy) hx hy, fun x hx => ?_⟩, rfl, hlk⟩, ?_⟩
  · have hm : x.lk ∈ lv.map LM.lk := by rw [hlk]; exact List.mem_map.2 ⟨x, hx, rfl⟩
    obtain ⟨y, hy, e⟩ := List.mem_map.1 hm
    rw [← e]
    exact hok y hy
  · rintro k (rfl | rfl | ⟨i, x, hx, hk⟩)
    · exact hbp
    · exact h.base
    · have := (h.done i x (lt hx) hx).2.2 k hk
      have := h.base
      omega
theorem wp_load_list {W : World} {bl : Nat} {lv : List LM} (h : BkS 94 W bl (listC lv)) (hl : lv.length ≤ 64) (L : Array Value) (hL : (listC lv).toArray = L) {ops : Array Oper} {rest : List Oper} {op : Oper} {a : Act} {Q : Exit → Act → World → Prop} (hgd : op.guard = none) (x : Operand) (ho : op.op = .load 94 x)
    (hx : a.eval x = .pointer (some ⟨bl, 0, none⟩)) (hk : wpList Try.prog ops Q rest (a.put op.dst (.agg L)) W) : wpList Try.prog ops Q (op :: rest) a W := by
  subst hL
  exact wpList_load_mid hgd 94 x ho bl 0 hx (listC lv) _ (fun j u hu => by rw [Nat.zero_add]; exact (h.cell j).trans hu) Try.underlying94 rfl (by rw [listC_len hl]; kernel_rfl) hk
theorem listC_one {m : Nat} {w : World} {v : Value} {bp bl : Nat} {lv : List LM} (h : LocksP m w v bp bl lv) : ∀ u ∈ listC lv, u.oneCell' = true := by
  intro u hu
  unfold listC bodyC at hu
  rcases List.mem_append.1 hu with hu | hu
  · obtain ⟨x, hx, hu⟩ := List.mem_flatMap.1 hu
    have hsv : x.sv.oneCell' = true := by
      rcases List.mem_append.1 hx with hx | hx
      · obtain ⟨i, hi⟩ := List.getElem?_of_mem hx
        obtain ⟨ao, cap, e, _⟩ := (h.row i x hi).form
        rw [e]; rfl
      · rw [List.eq_of_mem_replicate hx]; rfl
    simp [LM.cells] at hu
    rcases hu with rfl | rfl | rfl
    · exact hsv
    · rfl
    · rfl
  · rw [List.mem_singleton.1 hu]; rfl
theorem wp_store_list {W : World} {b : Nat} {lv : List LM} (hl : lv.length ≤ 64) (h1 : ∀ u ∈ listC lv, u.oneCell' = true) (L : Array Value) (hL : (listC lv).toArray = L) (Z : Array Value) (hZ : Z.size = 193) (hb : W.heap[b]? = some (.cells Z 94 (0, 0)))
    {ops : Array Oper} {rest : List Oper} {op : Oper} {a : Act} {Q : Exit → Act → World → Prop} (hgd : op.guard = none) (x y : Operand) (ho : op.op = .store 94 x y) (hx : a.eval x = .pointer (some ⟨b, 0, none⟩)) (hy : a.eval y = .agg L)
    (hk : ∀ W', BkS 94 W' b (listC lv) → TnS b W W' → wpList Try.prog ops Q rest (a.put op.dst undef) W') : wpList Try.prog ops Q (op :: rest) a W := by
  subst hL
  refine wpList_plain hgd fun K' hK' => ?_
  have hr := run_storeVar_row (P := Try.prog) W b 94 94 Z (listC lv).toArray hb (by rw [List.size_toArray, listC_len hl]; kernel_rfl) (by rw [hZ, List.size_toArray, listC_len hl]) (Array.all_eq_true_iff_forall_mem.2 (fun v hv => h1 v (by simpa using hv)))
  unfold Oper.wp execOp
  simp only [ho, hx, hy, Instr.storeAt, Instr.sureAddr, Sem.run_bind, Sem.run_pure, Result.andThen_ok, hr]
  refine hK' _ _ (hk _ (setRow_heap W b Z _ _ _ hb) ⟨rfl, rfl, rfl, by simp, fun k _ hk => setRow_other W b k _ (fun e => hk (by rw [e]))⟩)
set_option maxRecDepth 100000 in
set_option maxHeartbeats 1000000 in
theorem copied_any {m : Nat} {w : World} {v : Value} {bp bl : Nat} {lv : List LM} (h : LocksP m w v bp bl lv) (hm : m ≤ 1000000) :
    Calls Try.prog 53 #[.pointer (some ⟨bl, 0, none⟩)] w fun e w' => ∃ b2 lk_, e = .returned (.pointer (some ⟨b2, 0, none⟩)) ∧ CopyS lv.length w w' b2 lv lk_ := by
  obtain ⟨L, hL⟩ : ∃ L, (listC lv).toArray = L := ⟨_, rfl⟩
  obtain ⟨Z, hZ1, _, hZ3⟩ := zero_list
  have HH := Lib.hid h
  have HLs := Lib.hid hL
  have HM := Lib.hid hm
  obtain ⟨N, hN⟩ : ∃ N, lv.length = N := ⟨_, rfl⟩
  have HNN := Lib.hid hN
  rw [hN]
  clear h hL hm hN
  go_enter Try.func53, Try.ntmps53
  go_wp2_with (first
    | (refine wp_load_list HH.out.lst HH.out.len L HLs.out rfl _ rfl rfl ?_)
    | (refine wp_store_list HH.out.len (listC_one HH.out) L HLs.out Z hZ1 (heap_new w _) rfl _ _ rfl rfl rfl ?_; intro w2 hb2 ht2; have HB2 := Lib.hid hb2; have HA2 := Lib.hid (TnS.own (Gr.new w _).adds (Nat.le_refl _) ht2); clear hb2 ht2; have HAl := Lib.hid (allW_any w.heap.size N (by rw [← HNN.out]; exact HH.out.len) w2 (by rw [← HNN.out]; exact (HB2.out.cell 192).trans (listC_many HH.out.len))))
    | (go_at_call 79; refine HAl.out.mono ?_; rintro e w3 ⟨rfl, ha⟩; have HA3 := Lib.hid ha.adds; clear ha))
  obtain ⟨b2, hb2⟩ : ∃ b2, w.heap.size = b2 := ⟨_, rfl⟩
  have H0 := Lib.hid (show CopyS 0 w w3 b2 lv lv from ⟨rfl, by rw [← hb2]; exact HB2.out.adds HA3.out, fun j x hj => by omega, fun i j x y g hi => by omega, fun j _ => rfl, Adds.trans HA2.out HA3.out, by rw [hb2]; exact Nat.le_refl _⟩)
  rw [hb2]
  clear hb2 hZ1 hZ3 HAl HB2
  go_loopw [10] (fun i wr => ∃ k lk_, i = .int .i64 ((k : Nat) : Int) ∧ k ≤ N ∧ CopyS k w wr b2 lv lk_) (fun i _ => N + 1 - (intOf i).toNat)
  case atStart => exact ⟨0, lv, rfl, Nat.zero_le _, H0.out⟩
  case round =>
    obtain ⟨k, lk_, rfl, hk, hc⟩ := hrel
    have HC := Lib.hid hc; clear hc
    have hNI : (N : Int) ≤ 64 := by have := HNN.out; have := HH.out.len; omega
    by_cases hlt : k < N
    · have hkI : (k : Int) < (N : Int) := by omega
      obtain ⟨x, hx⟩ : ∃ x, lv[k]? = some x := ⟨_, List.getElem?_eq_getElem (by rw [HNN.out]; exact hlt)⟩
      have hr := HH.out.adds HC.out.adds
      have HR := Lib.hid (allReaders_at bl (k * 3) (hr.row k x hx) (by have := (hr.ok x (List.mem_of_getElem? hx)).2.2.2; have := HM.out; omega) (hr.at_ hx).1)
      have hk2 : lk_[k]? = some x := (HC.out.todo k (Nat.le_refl k)).trans hx
      have h0 := (HC.out.blk.cell (k * 3)).trans (listC_at (by rw [HC.out.len]; exact HH.out.len) hk2 0 (by decide))
      have HX := Lib.hid hx; have HLT := Lib.hid hlt
      clear hx hlt hr hk hk2
      go_wp2_with (go_at_call 51; refine HR.out.mono ?_; rintro e w4 ⟨v', rfl, h1, h2⟩; obtain ⟨ao1, cp1, ev, ec1, ec2⟩ := h1.cut.form; clear ec1 ec2; subst ev; have y0 := (HC.out.blk.adds h2).cell (k * 3) |>.trans ((HC.out.blk.cell (k * 3)).symm.trans h0); have yf := (HC.out.blk.adds h2).free (k * 3); have HS := Lib.hid (HC.out.step HH.out.len HX.out h2 h1); clear h1 h2)
      go_roundw
      case rel => exact ⟨k + 1, _, by go_num, HLT.out, HS.out⟩
      case measure => have := HLT.out; simp [intOf]; omega
    · have hkI : ¬ (k : Int) < (N : Int) := by omega
      have HE := Lib.hid (show k = N by omega)
      clear hlt hk
      go_wp2
      go_ret
      exact ⟨b2, rfl, lk_, by rw [← HE.out]; exact HC.out⟩
set_option maxRecDepth 100000 in
set_option maxHeartbeats 1000000 in
theorem copyW_any {m : Nat} {w : World} {v : Value} {O : Nat → Prop} {ls : List Lk} (h : HasL m w v O ls) (hm : m ≤ 1000000) :
    Calls Try.prog 16 #[v] w fun e w' => ∃ v' O', e = .returned v' ∧ HasL m w' v' O' ls ∧ (∀ k, O' k → w.heap.size ≤ k) ∧ Adds w w' := by
  obtain ⟨bp, bl, lv, hp, hO, rfl⟩ := h
  obtain rfl := hp.ptr
  have c0 := hp.c0
  have HN := Lib.hid (isNoneW_full bp bl w hp.c0)
  have HC := Lib.hid (copied_any hp hm)
  have HP := Lib.hid hp
  clear hp hO hm
  go_enter Try.func16, Try.ntmps16
  go_wp2_with (first
    | (go_at_call 52; refine HN.out.mono ?_; rintro e w2 ⟨rfl, rfl⟩)
    | (go_at_call 53; refine HC.out.mono ?_; rintro e w3 ⟨b2, lk_, rfl, h1⟩; have H1 := Lib.hid h1; clear h1))
  go_ret
  obtain ⟨O', e1, e2⟩ := H1.out.locks HP.out.len HP.out.ok ((Gr.new w3 _).adds) (BkS.new 96 w3 [.pointer (some ⟨b2, 0, none⟩)]) H1.out.adds.size
  exact ⟨_, O', rfl, e1, e2, Adds.trans H1.out.adds (Gr.new _ _).adds⟩
theorem copy_none {w : World} {v : Value} (h : NoneW w v) : Calls Try.prog 16 #[v] w fun e w' => e = .returned (.pointer none) ∧ w = w' := by
  have HN := Lib.hid (isNone_none h)
  clear h
  go_enter Try.func16, Try.ntmps16
  go_wp2_with (go_at_call 52; refine HN.out.mono ?_; rintro e w2 ⟨rfl, rfl⟩)
  go_ret
  exact ⟨rfl, rfl⟩
end Go.Proofs.Ytedllkahalfjgaa
