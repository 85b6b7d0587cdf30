/- Rows of ints that are put together; the document's Read: its contract. -/
import Derived.Test.YtedllkahalfjgaaWR3
import Derived.Test.YtedllkahalfjgaaWFr
namespace Go.Proofs.Ytedllkahalfjgaa
open Go Go.RowKit

theorem wpR_cat {w : World} {ops : Array Oper} {rest : List Oper} {o : Oper} {a : Act} {Q : Exit → Act → World → Prop} (hgd : o.guard = none) (s x : Operand)
    (ho : o.op = .call { callee := .builtin .append, args := #[s, x], argTypes := #[41, 41] }) (base : Nat) (v : Value) (pre : List Int) (hs : a.eval s = v) (hown : IntsO base w v pre)
    (v2 : Value) (l : List Int) (hx : a.eval x = v2) (hv : CutR w v2 l) (hlen : pre.length + l.length ≤ 2000000) (hbase : base ≤ w.heap.size)
    (h : ∀ v' w', IntsO base w' v' (pre ++ l) → Below base w w' → wpList Try.prog ops Q rest (a.put o.dst v') w') : wpList Try.prog ops Q (o :: rest) a w := by
  obtain ⟨i0, hi, hz0, hz1, hz2⟩ := info_parts infoI
  have hv' := hv
  rcases hv with ⟨rfl, rfl⟩ | ⟨g, k, cap, cur, rfl, hh, h1, h2, h3, h4⟩
  · refine wpList_plain hgd fun K hK => ?_
    have hrun := run_append_none (P := Try.prog) (w := w) base 41 o.type 3 i0 1 Try.underlying41 hi v pre.length 0 (pre.map intV) hown
    unfold Oper.wp
    simp [execOp, ho, resolve, invoke, builtin, hs, hx, hrun, Result.andThen]
    exact hK _ _ (h v w (by simpa using hown) (Below.refl _ _))
  · refine wpList_append_own _ hgd s x 41 ho base 3 i0 (.int .i64 0) 1 8 Try.underlying41 hi hz0 hz1 hz2 rfl (by decide) v pre.length (pre.map intV) hs hown ⟨g, k, none⟩ l.length cap (l.map intV) hx (by simp) (fun j u hu => ?_) (fun u hu => ?_) (by unfold maxLen; omega) (by omega) hbase (fun v' w' h1' h2' _ => h v' w' ?_ ?_)
    · rw [List.getElem?_map] at hu
      obtain ⟨x', hx', rfl⟩ := Option.map_eq_some_iff.1 hu
      rw [add_lit]
      exact hv'.cells.2 j x' hx'
    · obtain ⟨z, _, rfl⟩ := List.mem_map.1 hu
      rfl
    · unfold IntsO
      rw [List.length_append, List.map_append]
      exact h1'
    · exact ⟨h2'.os, h2'.tape, h2'.output, h2'.size, fun q hq => h2'.block q (by omega) (fun e => by have := (World.ownsRow.lt hown q e.symm).1; omega)⟩
theorem ints_empty (w : World) : IntsO w.heap.size (w.alloc (.cells #[] 3)) (.slice (some ⟨w.heap.size, 0, none⟩) 0 0) [] := by
  have := World.ownsRow_lit (size := 1) (e := 3) w #[] 0 (Nat.le_refl _) (by unfold maxLen; omega) (by simp)
  simpa [IntsO] using this
theorem ints_lit (w : World) (x : Int) : CutR (w.alloc (.cells #[.int .i64 x] 3)) (.slice (some ⟨w.heap.size, 0, none⟩) 1 1) [x] := .inr ⟨w.heap.size, 0, 1, _, rfl, heap_new w _, by simp, by simp, by unfold maxLen; omega, rfl⟩
theorem bel_adds {w w1 w2 : World} {n : Nat} (h : Adds w w1) (k : Below n w1 w2) (hn : w.heap.size ≤ n) : Adds w w2 := ⟨k.os.trans h.os, k.tape.trans h.tape, k.output.trans h.output, Nat.le_trans h.size k.size, fun i hi => (k.block i (Nat.lt_of_lt_of_le hi hn)).trans (h.block i hi)⟩
theorem bel_bk {t : TypeId} {w1 w2 : World} {n b : Nat} {l : List Value} (h : BkS t w1 b l) (k : Below n w1 w2) (hb : b < n) : BkS t w2 b l := (k.block b hb).trans h
theorem ints_adds {n : Nat} {w w' : World} {v : Value} {xs : List Int} (h : IntsO n w v xs) (ha : Adds w w') : IntsO n w' v xs := by
  obtain ⟨h1, h2⟩ := h
  refine ⟨h1, ?_⟩
  rcases h2 with h2 | ⟨g, cap, cur, hv, hg, hh, r⟩
  · exact .inl h2
  · exact .inr ⟨g, cap, cur, hv, hg, (ha.block g (Array.getElem?_eq_some_iff.1 hh).1).trans hh, r⟩
theorem read_cut {w1 w3 w4 : World} {a3 : Option Addr} {k p3 : Nat} {xs : List Int} (h : IntsO (w1.heap.size + 1) w3 (.slice a3 k p3) xs) (hw : w3.setCell ⟨w1.heap.size, 0, none⟩ (.slice a3 k p3) = w4) :
    CutR w4 (.slice a3 k p3) xs ∧ ∀ q, (Value.slice a3 k p3).ownBlock = some q → w1.heap.size + 1 ≤ q := by
  have hq : ∀ q, (Value.slice a3 k p3).ownBlock = some q → w1.heap.size + 1 ≤ q := fun q hq => (World.ownsRow.lt h q hq).1
  refine ⟨?_, hq⟩
  rw [← hw]
  exact h.cut.kept (fun q hq' => Below.heap_setCell _ _ _ _ (fun e => by
    have e' : q = w1.heap.size := e
    have := hq q hq'
    omega))
/-- A box of another type is written to. -/
theorem RefW.far {R : Nat → Prop} {w : World} {s : Value} {ls : List Lk} (h : RefW R w s ls) {t : TypeId} {b : Nat} {cs : List Value} (hb : BkS t w b cs) (h1 : t ≠ 108) (h2 : t ≠ 3) (i : Nat) (u : Value) : RefW R (w.setCell ⟨b, i, none⟩ u) s ls := by
  obtain ⟨g, cap, cur, e, hR, hg, k1, k2, k3, k4⟩ := h
  refine ⟨g, cap, cur, e, hR, (Below.heap_setCell _ _ _ _ (fun e => ?_)).trans hg, k1, k2, k3, fun j x hx => ?_⟩
  · have e' : g = b := e
    rw [e'] at hg
    exact h1 (hb.cells_eq hg).1
  · obtain ⟨a, sv, c, d, f⟩ := k4 j x hx
    refine ⟨a, sv, c, d.kept (fun q hq => Below.heap_setCell _ _ _ _ (fun e => ?_)), f⟩
    obtain ⟨c2, hc2⟩ := d.type q hq
    have e' : q = b := e
    rw [e'] at hc2
    exact h2 (hb.cells_eq hc2).1
theorem box_empty (w1 : World) (c0 c1 : Value) : Adds w1 ((w1.alloc (.cells #[c0, c1] 108)).alloc (.cells #[] 3)) ∧ BkS 108 ((w1.alloc (.cells #[c0, c1] 108)).alloc (.cells #[] 3)) w1.heap.size [c0, c1] ∧
    IntsO (w1.heap.size + 1) ((w1.alloc (.cells #[c0, c1] 108)).alloc (.cells #[] 3)) (.slice (some ⟨w1.heap.size + 1, 0, none⟩) 0 0) [] := by
  refine ⟨Adds.trans (Gr.new _ _).adds (Gr.new _ _).adds, (BkS.new _ w1 [c0, c1]).adds (Gr.new _ _).adds, ?_⟩
  have := ints_empty (w1.alloc (.cells #[c0, c1] 108))
  rwa [show (w1.alloc (.cells #[c0, c1] 108)).heap.size = w1.heap.size + 1 by simp] at this
/-- The bounds of what is read. -/
def FewL (ls : List Lk) : Prop := ∀ x ∈ ls, x.rd.length ≤ 1000000 ∧ 0 ≤ x.wr ∧ x.wr ≤ 65536
set_option maxRecDepth 100000 in
set_option maxHeartbeats 4000000 in
theorem refRead_any {R : Nat → Prop} {s : Value} {ls : List Lk} (i b : Int) (w : World) (h : RefW R w s ls) (hl : ls.length ≤ 64) (hf : FewL ls) :
    Calls Try.prog 40 #[.agg #[s], .int .i64 i, .int .i64 b] w fun e w' => ∃ s', e = .returned (.tuple #[.agg #[s'], .int .i64 (readE ls i b)]) ∧ RefW (OrNew R w) w' s' (readL ls i b) ∧ Adds w w' := by
  obtain ⟨g, cap, rfl, _, _⟩ := h.form
  obtain ⟨wa, hwa⟩ : ∃ wa, w.alloc (.cells #[.slice (some ⟨g, 0, none⟩) ls.length cap] 30) = wa := ⟨_, rfl⟩
  have hA : Adds w wa := by rw [← hwa]; exact (Gr.new _ _).adds
  have ba : BkS 30 wa w.heap.size [.slice (some ⟨g, 0, none⟩) ls.length cap] := by rw [← hwa]; exact BkS.new _ _ _
  have hsa : wa.heap.size = w.heap.size + 1 := by rw [← hwa]; simp
  obtain ⟨wb, hwb⟩ : ∃ wb, wa.alloc (.cells #[.slice none 0 0] 30) = wb := ⟨_, rfl⟩
  have hB : Adds wa wb := by rw [← hwb]; exact (Gr.new _ _).adds
  have bb : BkS 30 wb wa.heap.size [.slice none 0 0] := by rw [← hwb]; exact BkS.new _ _ _
  have HAB := Lib.hid (Adds.trans hA hB)
  have HBa := Lib.hid (ba.adds hB)
  have HBb := Lib.hid bb
  have HR := Lib.hid h
  have ca : wb.cell? ⟨w.heap.size, 0, none⟩ = some (.slice (some ⟨g, 0, none⟩) ls.length cap) := HBa.out.cell 0
  have HRi := Lib.hid (right_any i b wb (h.adds HAB.out))
  obtain ⟨n0, hn0⟩ : ∃ n0, w.heap.size = n0 := ⟨_, rfl⟩
  obtain ⟨n1, hn1⟩ : ∃ n1, wa.heap.size = n1 := ⟨_, rfl⟩
  have HS := Lib.hid (And.intro hsa (And.intro hn0 hn1))
  rw [hn0] at ca HBa
  rw [hn1] at HBb
  by_cases he : rightE ls i b = 0
  · rw [he] at HRi
    have hg : mayI b ∧ hasL ls i := by
      unfold rightE at he
      by_cases h1 : mayI b
      · by_cases h2 : hasL ls i
        · exact ⟨h1, h2⟩
        · rw [if_pos h1, if_neg h2] at he; omega
      · rw [if_neg h1] at he; omega
    obtain ⟨m, hm, hml, hx⟩ := has_nat hg.2
    obtain ⟨x, hxx⟩ : ∃ x, atL ls i = x := ⟨_, rfl⟩
    rw [hxx] at hx
    obtain ⟨r1, ao, cp, r0, rc, rr⟩ := h.cells hx
    have hfx := hf x (List.mem_of_getElem? hx)
    have HX := Lib.hid hx; have HXX := Lib.hid hxx; have HM := Lib.hid hml; have HL := Lib.hid hl; have HE := Lib.hid he
    have HF2 := Lib.hid (show ([] : List Int).length + x.rd.length ≤ 2000000 by have := hfx.1; simp; omega)
    have HF3 := Lib.hid (show x.rd.length + [b].length ≤ 2000000 by have := hfx.1; simp; omega)
    subst hm
    have hmI : (m : Int) < (ls.length : Int) := by omega
    have hw0 : 0 ≤ x.wr := hfx.2.1
    have HRC := Lib.hid rc; have HRR := Lib.hid rr
    have C0 := Lib.hid (fun W (hW : Adds w W) => And.intro (Adds.cellAt hW r0) (Adds.cellAt hW r1))
    by_cases hw : 0 < x.wr
    · have hE : readE ls (m : Int) b = 240 := by unfold readE; rw [if_pos he, hxx, if_pos (by omega)]
      rw [hE, show readL ls (m : Int) b = ls by unfold readL; rw [if_neg (by rw [hE]; decide)]]
      generalize x.wr = z at *
      clear h hl hf hfx hg hA ba bb hsa hB he hxx hx hml r0 r1 rc rr hw0 hE
      go_enter Try.func40, Try.ntmps40
      go_wp2_with (go_at_call 75; refine HRi.out.mono ?_; rintro e w1 ⟨rfl, h1⟩; have A1 := Lib.hid (Adds.trans HAB.out h1); have b1 := HBa.out.adds h1; have c1 : w1.cell? ⟨n0, 0, none⟩ = some (.slice (some ⟨g, 0, none⟩) ls.length cap) := b1.cell 0; obtain ⟨s0, s1⟩ := C0.out _ A1.out; have k1 : (w1.alloc (.cells #[.slice ao x.rd.length cp, .int .i64 z] 108)).cell? ⟨n0, 0, none⟩ = some (.slice (some ⟨g, 0, none⟩) ls.length cap) := (b1.adds (Gr.new _ _).adds).cell 0; have d1 := (HBb.out.adds h1).adds (Gr.new w1 (.cells #[.slice ao x.rd.length cp, .int .i64 z] 108)).adds; have e1 : (w1.alloc (.cells #[.slice ao x.rd.length cp, .int .i64 z] 108)).cell? ⟨n1, 0, none⟩ = some (.slice none 0 0) := d1.cell 0; have f1 := d1.free 0; have D1 := Lib.hid d1; have A2 := Lib.hid (Adds.trans A1.out (Gr.new w1 (.cells #[.slice ao x.rd.length cp, .int .i64 z] 108)).adds); clear h1 b1 d1)
      refine bodyPost_ret (res_box2 rfl _ _ _ _ _ _ _ rfl (D1.out.set 0 (.slice (some ⟨g, 0, none⟩) ls.length cap)) Try.underlying30 rfl (by kernel_rfl)) rfl ?_
      obtain ⟨t1, t2, t3⟩ := HS.out
      have ha := Adds.set A2.out (b := n1) (by omega) 0 (.slice (some ⟨g, 0, none⟩) ls.length cap)
      exact ⟨_, rfl, (HR.out.adds ha).wide fun k hk => .inl hk, ha⟩
    · have hw1 : x.wr = 0 := by omega
      have hE : readE ls (m : Int) b = 0 := by unfold readE; rw [if_pos he, hxx, if_neg (by simp [hw1])]
      rw [hE, show readL ls (m : Int) b = ls.set m ⟨x.rd ++ [b], x.wr⟩ by unfold readL; rw [if_pos hE, hxx]; simp]
      have HE0 := Lib.hid (show (⟨x.rd ++ [b], x.wr⟩ : Lk) = ⟨x.rd ++ [b], 0⟩ by rw [hw1])
      rw [HE0.out]
      rw [hw1] at C0
      have HWi := Lib.hid (fun (W : World) (sv : Value) (hr : RefW (OrNew R w) W (.slice (some ⟨g, 0, none⟩) ls.length cap) ls) (hy : CutR W sv (x.rd ++ [b])) (hq : ∀ q, sv.ownBlock = some q → OrNew R w q) => with_any (y := ⟨x.rd ++ [b], 0⟩) m hml hl hr hy hq)
      have HSW := Lib.hid (show w.heap.size ≤ wb.heap.size from HAB.out.size)
      clear h hl hf hfx hg hA ba bb hsa hB he hxx hx hml r0 r1 rc rr hw hw0 hE hw1
      go_enter Try.func40, Try.ntmps40
      go_wp2_with (first
        | (go_at_call 75; refine HRi.out.mono ?_; rintro e w1 ⟨rfl, h1⟩; have A1 := Lib.hid (Adds.trans HAB.out h1); have b1 := HBa.out.adds h1; have c1 : w1.cell? ⟨n0, 0, none⟩ = some (.slice (some ⟨g, 0, none⟩) ls.length cap) := b1.cell 0; obtain ⟨s0, s1⟩ := C0.out _ A1.out; have B1 := Lib.hid b1; have D1 := Lib.hid (HBb.out.adds h1); obtain ⟨ay, by_, iy⟩ := box_empty w1 (.slice ao x.rd.length cp) (.int .i64 0); have AY := Lib.hid ay; have BY := Lib.hid by_; have IY := Lib.hid iy; have RY := Lib.hid (HRC.out.adds (Adds.trans A1.out ay)); clear ay by_ iy;  clear h1 b1)
        | (at_builtin; refine wpR_cat rfl _ _ rfl (w1.heap.size + 1) _ [] rfl (by exact IY.out) _ x.rd rfl (by exact RY.out) HF2.out (by simp) ?_; clear IY; intro v2 w2 o2 b2; have O2 := Lib.hid o2; have A2 := Lib.hid (bel_adds AY.out b2 (Nat.le_succ _)); have Y2 := Lib.hid (bel_bk BY.out b2 (Nat.lt_succ_self _)); obtain ⟨a2, p2, ev2, _, _⟩ := o2.cut.form; subst ev2; clear o2 b2)
        | (at_builtin; refine wpR_cat rfl _ _ rfl (w1.heap.size + 1) _ x.rd rfl (by exact ints_adds O2.out (Gr.new _ _).adds) _ [b] rfl (ints_lit w2 b) HF3.out (by exact Nat.le_trans (Nat.succ_le_of_lt Y2.out.lt) (Gr.new w2 _).adds.size) ?_; intro v3 w3 o3 b3; have O3 := Lib.hid o3; have A3 := Lib.hid (bel_adds (Adds.trans A2.out (Gr.new w2 _).adds) b3 (Nat.le_succ _)); have y3 := bel_bk (Y2.out.adds (Gr.new w2 _).adds) b3 (Nat.lt_succ_self _); have t0 : w3.cell? ⟨w1.heap.size, 0, none⟩ = some (.slice ao x.rd.length cp) := y3.cell 0; have tf := y3.free 0; obtain ⟨a3, p3, ev3, _, _⟩ := o3.cut.form; rw [List.length_append, List.length_singleton] at ev3; subst ev3; obtain ⟨w4, hw4⟩ : ∃ w4, w3.setCell ⟨w1.heap.size, 0, none⟩ (.slice a3 (x.rd.length + 1) p3) = w4 := ⟨_, rfl⟩; have y4 : BkS 108 w4 w1.heap.size [.slice a3 (x.rd.length + 1) p3, .int .i64 0] := (by rw [← hw4]; exact y3.set 0 (.slice a3 (x.rd.length + 1) p3)); have A4 := Lib.hid (show Adds w1 w4 by (rw [← hw4]; exact Adds.set A3.out (Nat.le_refl _) 0 _)); have c4 : w4.cell? ⟨n0, 0, none⟩ = some (.slice (some ⟨g, 0, none⟩) ls.length cap) := (B1.out.adds A4.out).cell 0; have z0 : w4.cell? ⟨w1.heap.size, 0, none⟩ = some (.slice a3 (x.rd.length + 1) p3) := y4.cell 0; have z1 : w4.cell? ⟨w1.heap.size, 1, none⟩ = some (.int .i64 0) := y4.cell 1; have H4 := Lib.hid (read_cut o3 hw4); clear o3 b3 y3 y4)
        | (go_at_call 76; refine (HWi.out w4 _ ((HR.out.adds (Adds.trans A1.out A4.out)).wide (fun q hq => .inl hq)) H4.out.1 (fun q hq => .inr (Nat.le_trans A1.out.size (Nat.le_trans (Nat.le_succ _) (H4.out.2 q hq))))).mono ?_; rintro e w5 ⟨s5, rfl, h1, h2⟩; obtain ⟨g5, p5, e5, _, _⟩ := h1.form; rw [List.length_set] at e5; subst e5; have R5 := Lib.hid h1; have A5 := Lib.hid (Adds.trans A1.out (Adds.trans A4.out h2)); have d5 := D1.out.adds (Adds.trans A4.out h2); have u5 : w5.cell? ⟨n1, 0, none⟩ = some (.slice none 0 0) := d5.cell 0; have f5 := d5.free 0; have D5 := Lib.hid d5; clear h1 h2 d5))
      refine bodyPost_ret (res_box2 rfl _ _ _ _ _ _ _ rfl (D5.out.set 0 _) Try.underlying30 rfl (by kernel_rfl)) rfl ?_
      obtain ⟨t1, t2, t3⟩ := HS.out
      exact ⟨_, rfl, ((R5.out.far D5.out (by decide) (by decide) 0 _).wide (fun q hq => hq.elim id (fun h => .inr (Nat.le_trans (Adds.trans A1.out A4.out).size h)))), Adds.set A5.out (b := n1) (by omega) 0 _⟩
  · have hE : readE ls i b = rightE ls i b := by unfold readE; rw [if_neg he]
    rw [hE, show readL ls i b = ls by unfold readL; rw [if_neg (by rw [hE]; exact he)]]
    generalize rightE ls i b = er at *
    clear h hl hf hA ba bb hsa hB hE
    go_enter Try.func40, Try.ntmps40
    go_wp2_with (go_at_call 75; refine HRi.out.mono ?_; rintro e w1 ⟨rfl, h1⟩; have A1 := Lib.hid (Adds.trans HAB.out h1); have b1 := HBa.out.adds h1; have c1 : w1.cell? ⟨n0, 0, none⟩ = some (.slice (some ⟨g, 0, none⟩) ls.length cap) := b1.cell 0; have d1 := HBb.out.adds h1; have e1 : w1.cell? ⟨n1, 0, none⟩ = some (.slice none 0 0) := d1.cell 0; have f1 := d1.free 0; have D1 := Lib.hid d1; clear h1 b1 d1)
    refine bodyPost_ret (res_box2 rfl _ _ _ _ _ _ _ rfl (D1.out.set 0 (.slice (some ⟨g, 0, none⟩) ls.length cap)) Try.underlying30 rfl (by kernel_rfl)) rfl ?_
    obtain ⟨t1, t2, t3⟩ := HS.out
    have ha := Adds.set A1.out (b := n1) (by omega) 0 (.slice (some ⟨g, 0, none⟩) ls.length cap)
    exact ⟨_, rfl, (HR.out.adds ha).wide fun k hk => .inl hk, ha⟩
end Go.Proofs.Ytedllkahalfjgaa
