/- Merged: Z5. -/
import Derived.Test.YthhegcngkpfcoaaGreatY34
import Derived.Laws.CopyOwn
namespace Go.Proofs.YthhegcngkpfcoaaGreat
open Go Go.RowKit Go.Shelf

theorem infoFr : (Tryz.prog.info? 83).map (fun i => (i.zero, i.size, i.bytes)) = some (some (.agg #[.int .i64 0, .int .i64 0, .int .i64 0, .slice none 0 0]), 4, 48) := by kernel_rfl
theorem run_mk32 (n : Nat) (hn : n ≤ 65536) (w : World) :
    (Instr.makeSlice 59 (.int .i64 (n : Int)) (.int .i64 (n : Int))).run Tryz.prog w = .ok (.slice (some ⟨w.heap.size, 0, none⟩) n n) (w.alloc (.cells (List.replicate n (.int .u32 0)).toArray 22)) := by
  obtain ⟨i0, hi, hz, hs, hb⟩ := info_parts (show (Tryz.prog.info? 22).map (fun i => (i.zero, i.size, i.bytes)) = some (some (.int .u32 0), 1, 4) by kernel_rfl)
  have h := run_make (P := Tryz.prog) w 59 22 i0 (.int .u32 0) Tryz.underlying59 hi hz .i64 .i64 n n (by omega) (by omega) (by rw [hb]; omega) (by omega)
  rw [hs] at h
  have e : madeCells #[.int .u32 0] n = (List.replicate n (.int .u32 0)).toArray := by
    unfold madeCells
    apply Array.ext
    · simp
    · intro i h1 h2
      simp [Nat.mod_one]
  rw [← e]
  simpa [Value.cells] using h
theorem CopyO.grownT {n : Nat} {w w' : World} {v : Value} {fs : List Fu} {row : Option Nat} (h : CopyO n w v fs) (hg : w.grownBy w' row) (hrow : ∀ g, row = some g → ∃ cur, BkS 83 w g cur) : CopyO n w' v fs := by
  obtain ⟨r, hR, hl, hi⟩ := h
  refine ⟨r, ownsRow_grown hR hg (fun g e e' => ?_), hl, fun i hlt => ⟨(hi i hlt).1, ownsRow_grown (hi i hlt).2 hg (fun g e e' => ?_)⟩⟩
  · obtain ⟨cur, hc⟩ := hrow g e'
    exact own_neT hR hc (by decide) e
  · obtain ⟨cur, hc⟩ := hrow g e'
    exact own_neT (hi i hlt).2 hc (by decide) e
/-- The list of frames is another one, at the same address or in new memory. -/
theorem PileO.push {t : TypeId} {n b : Nat} {w w' : World} {p : Pg} {fv lv lv' : Value} {R R' : List (Fr × Value)} {res : UInt32} (h : PileO t n w b p fv lv R res) (hg : w.grownBy w' lv.ownBlock) (ho : FrsO n w' lv' R') : PileO t n (w'.setCell ⟨b, 4, none⟩ lv') b p fv lv' R' res := by
  obtain ⟨t1, t2, t3, t4⟩ := h.tne
  have bx := h.bx.grown hg (own_neT h.lo.row h.bx t1)
  have fo := h.fo.grownT hg (fun g e => ownB h.lo.row e)
  have ht := TnS.setCell b 4 w' lv'
  exact ⟨h.ht, bx.set 4 lv', fo.blk bx t3 t4 ht, ho.blk bx t1 t2 ht, h.hn⟩
/-- append of one frame. -/
theorem wpFr_append1 {w : World} {ops : Array Oper} {rest : List Oper} {o : Oper} {a : Act} {Q : Exit → Act → World → Prop} (hgd : o.guard = none) (s x : Operand)
    (ho : o.op = .call { callee := .builtin .append, args := #[s, x], argTypes := #[30, 30] }) (base : Nat) (v : Value) (R : List (Fr × Value)) (y : Fr × Value) (hs : a.eval s = v) (hown : FrsO base w v R) (hy : RegO base w y.2 y.1.2.2.2) (hfar : ∀ x ∈ R, Apart x y)
    (k : Nat) (hx : a.eval x = .slice (some ⟨k, 0, none⟩) 1 1) (hk : k = w.heap.size)
    (hlen : R.length ≤ 1000000) (hbase : base ≤ w.heap.size)
    (h : ∀ v' w', FrsO base w' v' (R ++ [y]) → w.grownBy w' v.ownBlock → wpList Tryz.prog ops Q rest (a.put o.dst v') w') : wpList Tryz.prog ops Q (o :: rest) a (w.alloc (.cells #[.int .i64 (y.1.1 : Int), .int .i64 (y.1.2.1 : Int), .int .i64 y.1.2.2.1, y.2] 83)) := by
  subst hk
  obtain ⟨i0, hi, hz0, hz1, hz2⟩ := info_parts infoFr
  have hone : ∀ u ∈ frC y, u.oneCell' = true := by
    obtain ⟨ao, cap, e, _⟩ := hy.form0
    intro u hu
    simp at hu
    rcases hu with rfl | rfl | rfl | rfl
    · rfl
    · rfl
    · rfl
    · rw [e]; rfl
  refine wpList_append_own _ hgd s x 30 ho base 83 i0 (.agg #[.int .i64 0, .int .i64 0, .int .i64 0, .slice none 0 0]) 4 48 Tryz.underlying30 hi hz0 hz1 hz2 rfl (by decide) v R.length (R.flatMap frC) hs (World.ownsRow.alloc hown.row _) ⟨w.heap.size, 0, none⟩ 1 1 (frC y) hx rfl (cell_newL _ _ _)
    hone (by unfold maxLen; omega) (by omega) (by simp; omega) fun v' w' h1 h2 _ => h v' w' ⟨?_, ?_, ?_⟩ ?_
  · rw [List.length_append, List.flatMap_append]; simpa using h1
  · have keep : ∀ u d, RegO base w u d → RegO base w' u d := fun u d hd =>
      ownsRow_grown (ownsRow_adds hd ((Below.refl _ _).alloc (Nat.le_refl _) _)) h2 (fun g hg e => ownsRow_ne hd hown.row (by decide) g hg e)
    intro z hz
    rcases List.mem_append.1 hz with hz | hz
    · exact keep _ _ (hown.reg z hz)
    · obtain rfl := List.mem_singleton.1 hz
      exact keep _ _ hy
  · rw [List.pairwise_append]
    exact ⟨hown.far, List.pairwise_singleton _ _, fun z hz z' hz' => by obtain rfl := List.mem_singleton.1 hz'; exact hfar z hz⟩
  · exact ⟨h2.os, h2.tape, h2.output, Nat.le_trans (by simp) h2.size, fun i hi hne => (h2.block i (by simp; omega) hne).trans (Below.heap_alloc _ _ i hi)⟩
/-- Registers in new memory: words, and noughts behind them. -/
def newR (ws : List UInt32) (r : Nat) : List UInt32 := ws ++ List.replicate (r - ws.length) 0
theorem newR_splice (ws : List UInt32) (r : Nat) : splice (List.replicate r (.int .u32 0)) 0 (ws.map cellV) = (newR ws r).map cellV := by
  unfold splice newR
  simp [cellV]
theorem newR_len {ws : List UInt32} {r : Nat} (h : ws.length ≤ r) : (newR ws r).length = r := by unfold newR; simp; omega
/-- copy of words into a new row of noughts. -/
theorem run_cp {m : Nat} (w w1 : World) (ao : Option Addr) (cap r : Nat) (ws : List UInt32) (hw : Cells32 m w1 (.slice ao ws.length cap) ws) (hl : ws.length ≤ r) (g : Nat) (hg : w1.heap[g]? = some (.cells (List.replicate r (.int .u32 0)).toArray 22 (0, 0))) (hw1 : Adds w w1) (hgw : w.heap.size ≤ g) :
    ∃ w2 z, (Builtin.copy_ #[59, 59] 3 #[.slice (some ⟨g, 0, none⟩) r r, .slice ao ws.length cap]).run Tryz.prog w1 = .ok z w2 ∧ Adds w w2 ∧ w2.heap[g]? = some (.cells ((newR ws r).map cellV).toArray 22 (0, 0)) ∧ Below g w1 w2 ∧ ∀ k, k ≠ g → w2.heap[k]? = w1.heap[k]? := by
  obtain ⟨ao', cap', e, h1, h2, h3⟩ := hw
  simp only [Value.slice.injEq, true_and] at e
  obtain ⟨rfl, rfl⟩ := e
  by_cases h0 : ws = []
  · subst h0
    have h := run_copy_none (P := Tryz.prog) w1 59 59 3 22 (some ⟨g, 0, none⟩) ao r r 0 cap Tryz.underlying59 (by kernel_rfl) (by simp)
    refine ⟨w1, _, h, hw1, ?_, Below.refl _ _, fun _ _ => rfl⟩
    rw [hg]
    simp [newR, cellV]
  · obtain ⟨bb, off, rfl, hb, hc⟩ := h3 h0
    have h := run_copy_row (P := Tryz.prog) w1 59 59 3 22 g 0 r r ⟨bb, off, none⟩ ws.length cap (List.replicate r (.int .u32 0)).toArray 22 (ws.map cellV) Tryz.underlying59 (by kernel_rfl) hg (by rw [List.length_map]; exact (Nat.min_eq_left hl).symm)
      (by
        intro j v hv
        rw [List.getElem?_map] at hv
        have hj : j < ws.length := by
          rcases Nat.lt_or_ge j ws.length with hj | hj
          · exact hj
          · rw [List.getElem?_eq_none hj] at hv; cases hv
        rw [List.getElem?_eq_getElem hj] at hv
        simp only [Option.map_some, Option.some.injEq] at hv
        subst hv
        have hadd : (⟨bb, off, none⟩ : Addr).add j = ⟨bb, off + j, none⟩ := by unfold Addr.add; split <;> simp_all
        rw [hadd, hc j hj, List.getD_eq_getElem?_getD, List.getElem?_eq_getElem hj]
        rfl)
      (by simp; omega) (by intro u hu; obtain ⟨z, _, rfl⟩ := List.mem_map.1 hu; rfl)
    refine ⟨_, _, h, ?_, ?_, ?_, fun k hk => setRow_other w1 g k _ hk⟩
    · exact Below.trans hw1 ⟨rfl, rfl, rfl, by simp [World.setRow], fun k hk => setRow_other w1 g k _ (by omega)⟩
    · rw [setRow_heap w1 g _ _ _ _ hg]
      have e := newR_splice ws r
      unfold splice at e
      simpa using congrArg (fun l => some (Obj.cells l.toArray 22 (0, 0))) e
    · exact ⟨rfl, rfl, rfl, by simp [World.setRow], fun k hk => setRow_other w1 g k _ (by omega)⟩
section
variable {t : TypeId} {n b : Nat} {w : World} {p : Pg} {fv lv : Value} {R : List (Fr × Value)} {res : UInt32}
set_option maxRecDepth 100000 in
set_option maxHeartbeats 4000000 in
theorem enterS_any {m : Nat} (h : PileO t n w b p fv lv R res) (hok : ∀ f ∈ p.1, ∀ i ∈ f.2, OkIn i) (f : Nat) (hf : f < p.1.length) (r : Nat) (hr : (p.1.getD f zF).1 = (r : Int)) (hr2 : r ≤ 65536) (dest : Int) (wv : Value) (ws : List UInt32) (hw : Cells32 m w wv ws) (hl : ws.length ≤ r) (hR : R.length ≤ 1000000) (hn : n ≤ w.heap.size) :
    Calls Tryz.prog 58 #[.pointer (some ⟨b, 0, none⟩), .int .i64 (f : Int), .int .i64 dest, wv] w fun e w' => e = .returned (.tuple #[]) ∧ (∃ lv' rv, PileO t n w' b p fv lv' (R ++ [((f, 0, dest, newR ws r), rv)]) res) ∧ Low n w w' := by
  obtain ⟨aol, cpl, rfl, _, _⟩ := h.lo.form
  have HP := Lib.hid h
  have hF := h.fo.funcs hok
  obtain ⟨aof, cf, hfv, hf1, hf2, _⟩ := id hF
  unfold maxLen at hf2
  rw [hfv] at hF
  obtain ⟨g1, off, rfl, _, hat⟩ := hF.at hf
  have k1 := hat.1
  rw [hr] at k1
  have q0 : w.cell? ⟨b, 0, none⟩ = some fv := h.bx.cell 0
  rw [hfv] at q0
  have hfI : (f : Int) < (p.1.length : Int) := by omega
  have hnI : (p.1.length : Int) ≤ 9223372036854775807 := by omega
  obtain ⟨nf, hnf⟩ : ∃ nf, p.1.length = nf := ⟨_, rfl⟩
  rw [hnf] at q0 hfI hnI
  have HW := Lib.hid hw
  obtain ⟨ao, cap, rfl, hw1, hw2, hw3⟩ := hw
  have HW3 := Lib.hid hw3
  have hmk := run_mk32 r hr2 w
  have HL := Lib.hid hl
  have HR2 := Lib.hid hr2
  have HLen := Lib.hid hR
  have HN := Lib.hid hn
  obtain ⟨w1, hw1e⟩ : ∃ w1, w.alloc (.cells (List.replicate r (.int .u32 0)).toArray 22) = w1 := ⟨_, rfl⟩
  rw [hw1e] at hmk
  have HB1 := Lib.hid (show Adds w w1 by rw [← hw1e]; exact Adds.new _ _)
  have HG1 := Lib.hid (show w1.heap[w.heap.size]? = some (.cells (List.replicate r (.int .u32 0)).toArray 22 (0, 0)) by rw [← hw1e]; exact heap_new w _)
  obtain ⟨w2, z2, hcp, a2, hh2, _, hot⟩ := run_cp w w1 ao cap r ws (HW.out.here.adds HB1.out) hl w.heap.size HG1.out HB1.out (Nat.le_refl _)
  have HA2 := Lib.hid a2
  have HH2 := Lib.hid hh2
  clear h hF hfv hf1 hf2 hat hw1 hw2 hw3 hr2 hl hR hn hr hf hnf hw1e a2 hh2 hot
  obtain ⟨wl, hwl⟩ : ∃ wl, ws.length = wl := ⟨_, rfl⟩
  have HWl := Lib.hid hwl
  rw [hwl] at hcp ⊢
  clear hwl
  go_enter Tryz.func58, Tryz.ntmps58
  have HP2 := Lib.hid (HP.out.adds HA2.out)
  have c4 := HP2.out.bx.cell 4
  have HRg := Lib.hid (show RegO n w2 (.slice (some ⟨w.heap.size, 0, none⟩) r r) (newR ws r) from by
    unfold RegO
    have hnl := newR_len HL.out
    refine ⟨by simp, .inr ⟨w.heap.size, r, ((newR ws r).map cellV).toArray, by rw [hnl], HN.out, HH2.out, by omega, by have := HR2.out; unfold maxLen; omega, by simp [hnl], by rw [hnl, Nat.mul_one, List.take_of_length_le (by simp [hnl])]⟩⟩)
  have HFar := Lib.hid (show ∀ x ∈ R, Apart x ((f, 0, dest, newR ws r), .slice (some ⟨w.heap.size, 0, none⟩) r r) from fun x hx g e e' => by
    have h1 := (World.ownsRow.lt (HP.out.lo.reg x hx) g e).2
    simp only [Value.ownBlock, Option.some.injEq] at e'
    omega)
  have HT := Lib.hid HP2.out.tne
  obtain ⟨rl, hrl⟩ : ∃ rl, R.length = rl := ⟨_, rfl⟩
  have HRl := Lib.hid hrl
  rw [hrl] at c4
  have HP3 := Lib.hid (show PileO t n w2 b p _ (.slice aol rl cpl) R res from by rw [← hrl]; exact HP2.out)
  clear hrl HP2
  go_wp2_with (at_builtin; refine wpFr_append1 rfl (.tmp 26) (.tmp 31) rfl n _ R ((f, 0, dest, newR ws r), .slice (some ⟨w.heap.size, 0, none⟩) r r) rfl (by exact HP3.out.lo) HRg.out HFar.out _ rfl (by simp) HLen.out (by exact Nat.le_trans HN.out HA2.out.size) ?_; intro v' w4 ho hg; have HP4 := Lib.hid (HP3.out.push hg ho); have bx4 := HP3.out.bx.grown hg (own_neT HP3.out.lo.row HP3.out.bx HT.out.1); have d4 := bx4.cell 4; have f4 := bx4.free 4; have HB4 := Lib.hid (show Low n w w4 from Low.grown (Low.mono HA2.out HN.out) hg (Nat.le_trans HN.out HA2.out.size) (fun k hk => ⟨(World.ownsRow.lt HP3.out.lo.row k hk).1, _, _, (ownB HP3.out.lo.row hk).choose_spec, .inr (.inr (.inl rfl))⟩)); obtain ⟨aov, cpv, ev, _, _⟩ := ho.form; simp only [List.length_append, List.length_singleton] at ev; subst ev; have BX4 := Lib.hid bx4; clear bx4 ho hg)
  go_end0
  exact ⟨by simp, ⟨_, _, HP4.out⟩, HB4.out.set BX4.out HP3.out.myT HP3.out.hn _⟩
end
end Go.Proofs.YthhegcngkpfcoaaGreat
