/- The document's Write: its contract. -/
import Derived.Test.YtedllkahalfjgaaWR4
namespace Go.Proofs.Ytedllkahalfjgaa
open Go Go.RowKit

set_option maxRecDepth 100000 in
set_option maxHeartbeats 4000000 in
theorem refWrite_any {R : Nat → Prop} {s : Value} {ls : List Lk} (i b : Int) (w : World) (h : RefW R w s ls) (hl : ls.length ≤ 64) (hf : FewL ls) :
    Calls Try.prog 42 #[.agg #[s], .int .i64 i, .int .i64 b] w fun e w' => ∃ s', e = .returned (.tuple #[.agg #[s'], .int .i64 (writeE ls i b)]) ∧ RefW (OrNew R w) w' s' (writeL ls i b) ∧ Adds w w' := by
  obtain ⟨g, cap, rfl, _, _⟩ := h.form
  obtain ⟨wa, hwa⟩ : ∃ wa, w.alloc (.cells #[.slice (some ⟨g, 0, none⟩) ls.length cap] 30) = wa := ⟨_, rfl⟩
  have hA : Adds w wa := by rw [← hwa]; exact (Gr.new _ _).adds
  have ba : BkS 30 wa w.heap.size [.slice (some ⟨g, 0, none⟩) ls.length cap] := by rw [← hwa]; exact BkS.new _ _ _
  have hsa : wa.heap.size = w.heap.size + 1 := by rw [← hwa]; simp
  obtain ⟨wb, hwb⟩ : ∃ wb, wa.alloc (.cells #[.slice none 0 0] 30) = wb := ⟨_, rfl⟩
  have hB : Adds wa wb := by rw [← hwb]; exact (Gr.new _ _).adds
  have bb : BkS 30 wb wa.heap.size [.slice none 0 0] := by rw [← hwb]; exact BkS.new _ _ _
  have HAB := Lib.hid (Adds.trans hA hB)
  have HBa := Lib.hid (ba.adds hB)
  have HBb := Lib.hid bb
  have HR := Lib.hid h
  have ca : wb.cell? ⟨w.heap.size, 0, none⟩ = some (.slice (some ⟨g, 0, none⟩) ls.length cap) := HBa.out.cell 0
  have HRi := Lib.hid (right_any i b wb (h.adds HAB.out))
  obtain ⟨n0, hn0⟩ : ∃ n0, w.heap.size = n0 := ⟨_, rfl⟩
  obtain ⟨n1, hn1⟩ : ∃ n1, wa.heap.size = n1 := ⟨_, rfl⟩
  have HS := Lib.hid (And.intro hsa (And.intro hn0 hn1))
  rw [hn0] at ca HBa
  rw [hn1] at HBb
  by_cases he : rightE ls i b = 0
  · rw [he] at HRi
    have hg : mayI b ∧ hasL ls i := by
      unfold rightE at he
      by_cases h1 : mayI b
      · by_cases h2 : hasL ls i
        · exact ⟨h1, h2⟩
        · rw [if_pos h1, if_neg h2] at he; omega
      · rw [if_neg h1] at he; omega
    obtain ⟨m, hm, hml, hx⟩ := has_nat hg.2
    obtain ⟨x, hxx⟩ : ∃ x, atL ls i = x := ⟨_, rfl⟩
    rw [hxx] at hx
    obtain ⟨r1, ao, cp, r0, rc, rr⟩ := h.cells hx
    have hfx := hf x (List.mem_of_getElem? hx)
    subst hm
    have hmI : (m : Int) < (ls.length : Int) := by omega
    have hw0 : 0 ≤ x.wr := hfx.2.1
    have hw9 : x.wr ≤ 65536 := hfx.2.2
    have HRC := Lib.hid rc
    have HRR := Lib.hid rr
    have C0 := Lib.hid (fun (W : World) (hW : Adds w W) => And.intro (Adds.cellAt hW r0) (Adds.cellAt hW r1))
    by_cases hw : 0 < x.wr
    · have hE : writeE ls (m : Int) b = 240 := by unfold writeE; rw [if_pos he, hxx, if_pos (by omega)]
      rw [hE, show writeL ls (m : Int) b = ls by unfold writeL; rw [if_neg (by rw [hE]; decide)]]
      generalize x.wr = z at *
      clear h hl hf hfx hg hA ba bb hsa hB he hxx hx hml r0 r1 rc rr hw0 hw9 hE
      go_enter Try.func42, Try.ntmps42
      go_wp2_with (go_at_call 75; refine HRi.out.mono ?_; rintro e w1 ⟨rfl, h1⟩; have A1 := Lib.hid (Adds.trans HAB.out h1); have b1 := HBa.out.adds h1; have c1 : w1.cell? ⟨n0, 0, none⟩ = some (.slice (some ⟨g, 0, none⟩) ls.length cap) := b1.cell 0; obtain ⟨s0, s1⟩ := C0.out _ A1.out; have k1 : (w1.alloc (.cells #[.slice ao x.rd.length cp, .int .i64 z] 108)).cell? ⟨n0, 0, none⟩ = some (.slice (some ⟨g, 0, none⟩) ls.length cap) := (b1.adds (Gr.new _ _).adds).cell 0; have d1 := (HBb.out.adds h1).adds (Gr.new w1 (.cells #[.slice ao x.rd.length cp, .int .i64 z] 108)).adds; have e1 : (w1.alloc (.cells #[.slice ao x.rd.length cp, .int .i64 z] 108)).cell? ⟨n1, 0, none⟩ = some (.slice none 0 0) := d1.cell 0; have f1 := d1.free 0; have D1 := Lib.hid d1; have A2 := Lib.hid (Adds.trans A1.out (Gr.new w1 (.cells #[.slice ao x.rd.length cp, .int .i64 z] 108)).adds); clear h1 b1 d1)
      refine bodyPost_ret (res_box2 rfl _ _ _ _ _ _ _ rfl (D1.out.set 0 (.slice (some ⟨g, 0, none⟩) ls.length cap)) Try.underlying30 rfl (by kernel_rfl)) rfl ?_
      obtain ⟨t1, t2, t3⟩ := HS.out
      have ha := Adds.set A2.out (b := n1) (by omega) 0 (.slice (some ⟨g, 0, none⟩) ls.length cap)
      exact ⟨_, rfl, (HR.out.adds ha).wide fun k hk => .inl hk, ha⟩
    · have hw1 : x.wr = 0 := by omega
      by_cases hrd : x.rd = []
      · have hE : writeE ls (m : Int) b = 0 := by unfold writeE; rw [if_pos he, hxx, if_neg (by simp [hw1]), if_neg (by simp [hrd])]
        rw [hE, show writeL ls (m : Int) b = ls.set m ⟨x.rd, b + 1⟩ by unfold writeL; rw [if_pos hE, hxx]; simp]
        have hl0 : x.rd.length = 0 := by rw [hrd]; rfl
        rw [hw1, hl0] at C0
        rw [hl0] at HRC HRR
        have HWi := Lib.hid (fun (W : World) (hr : RefW (OrNew R w) W (.slice (some ⟨g, 0, none⟩) ls.length cap) ls) (hy : CutR W (.slice ao 0 cp) x.rd) (hq : ∀ q, (Value.slice ao 0 cp).ownBlock = some q → OrNew R w q) => with_any (y := ⟨x.rd, b + 1⟩) m hml hl hr hy hq)
        unfold mayI at hg
        obtain ⟨⟨hb0, hb1⟩, _⟩ := hg
        clear h hl hf hfx hA ba bb hsa hB he hxx hx hml r0 r1 rc rr hw0 hw9 hE hw1 hrd hl0 hw
        go_enter Try.func42, Try.ntmps42
        go_wp2_with (first
          | (go_at_call 75; refine HRi.out.mono ?_; rintro e w1 ⟨rfl, h1⟩; have A1 := Lib.hid (Adds.trans HAB.out h1); have b1 := HBa.out.adds h1; have c1 : w1.cell? ⟨n0, 0, none⟩ = some (.slice (some ⟨g, 0, none⟩) ls.length cap) := b1.cell 0; obtain ⟨s0, s1⟩ := C0.out _ A1.out; obtain ⟨w4, hw4⟩ : ∃ w4, w1.alloc (.cells #[.slice ao 0 cp, .int .i64 (b + 1)] 108) = w4 := ⟨_, rfl⟩; have A4 := Lib.hid (show Adds w1 w4 by (rw [← hw4]; exact (Gr.new _ _).adds)); have B4 := Lib.hid (show BkS 108 w4 w1.heap.size [.slice ao 0 cp, .int .i64 (b + 1)] by (rw [← hw4]; exact BkS.new _ _ _)); have c4 : w4.cell? ⟨n0, 0, none⟩ = some (.slice (some ⟨g, 0, none⟩) ls.length cap) := (b1.adds A4.out).cell 0; have z0 : w4.cell? ⟨w1.heap.size, 0, none⟩ = some (.slice ao 0 cp) := B4.out.cell 0; have z1 : w4.cell? ⟨w1.heap.size, 1, none⟩ = some (.int .i64 (b + 1)) := B4.out.cell 1; have D1 := Lib.hid (HBb.out.adds h1); clear h1 b1)
          | (go_at_call 76; refine (HWi.out w4 ((HR.out.adds (Adds.trans A1.out A4.out)).wide (fun q hq => .inl hq)) (HRC.out.adds (Adds.trans A1.out A4.out)) (fun q hq => .inl (HRR.out q hq))).mono ?_; rintro e w5 ⟨s5, rfl, h1, h2⟩; obtain ⟨g5, p5, e5, _, _⟩ := h1.form; rw [List.length_set] at e5; subst e5; have R5 := Lib.hid h1; have A5 := Lib.hid (Adds.trans A1.out (Adds.trans A4.out h2)); have d5 := D1.out.adds (Adds.trans A4.out h2); have u5 : w5.cell? ⟨n1, 0, none⟩ = some (.slice none 0 0) := d5.cell 0; have f5 := d5.free 0; have D5 := Lib.hid d5; clear h1 h2 d5))
        refine bodyPost_ret (res_box2 rfl _ _ _ _ _ _ _ rfl (D5.out.set 0 _) Try.underlying30 rfl (by kernel_rfl)) rfl ?_
        obtain ⟨t1, t2, t3⟩ := HS.out
        exact ⟨_, rfl, ((R5.out.far D5.out (by decide) (by decide) 0 _).wide (fun q hq => hq.elim id (fun h => .inr (Nat.le_trans (Adds.trans A1.out A4.out).size h)))), Adds.set A5.out (b := n1) (by omega) 0 _⟩
      · have hE : writeE ls (m : Int) b = 241 := by unfold writeE; rw [if_pos he, hxx, if_neg (by simp [hw1]), if_pos hrd]
        rw [hE, show writeL ls (m : Int) b = ls by unfold writeL; rw [if_neg (by rw [hE]; decide)]]
        have hlp : 0 < (x.rd.length : Int) := by have := List.length_pos_iff.2 hrd; omega
        have hlq : 0 < x.rd.length := List.length_pos_iff.2 hrd
        rw [hw1] at C0
        clear h hl hf hfx hg hA ba bb hsa hB he hxx hx hml r0 r1 rc rr hw0 hw9 hE hw1 hrd hw
        go_enter Try.func42, Try.ntmps42
        go_wp2_with (go_at_call 75; refine HRi.out.mono ?_; rintro e w1 ⟨rfl, h1⟩; have A1 := Lib.hid (Adds.trans HAB.out h1); have b1 := HBa.out.adds h1; have c1 : w1.cell? ⟨n0, 0, none⟩ = some (.slice (some ⟨g, 0, none⟩) ls.length cap) := b1.cell 0; obtain ⟨s0, s1⟩ := C0.out _ A1.out; have k1 : (w1.alloc (.cells #[.slice ao x.rd.length cp, .int .i64 0] 108)).cell? ⟨n0, 0, none⟩ = some (.slice (some ⟨g, 0, none⟩) ls.length cap) := (b1.adds (Gr.new _ _).adds).cell 0; have d1 := (HBb.out.adds h1).adds (Gr.new w1 (.cells #[.slice ao x.rd.length cp, .int .i64 0] 108)).adds; have e1 : (w1.alloc (.cells #[.slice ao x.rd.length cp, .int .i64 0] 108)).cell? ⟨n1, 0, none⟩ = some (.slice none 0 0) := d1.cell 0; have f1 := d1.free 0; have D1 := Lib.hid d1; have A2 := Lib.hid (Adds.trans A1.out (Gr.new w1 (.cells #[.slice ao x.rd.length cp, .int .i64 0] 108)).adds); clear h1 b1 d1)
        refine bodyPost_ret (res_box2 rfl _ _ _ _ _ _ _ rfl (D1.out.set 0 (.slice (some ⟨g, 0, none⟩) ls.length cap)) Try.underlying30 rfl (by kernel_rfl)) rfl ?_
        obtain ⟨t1, t2, t3⟩ := HS.out
        have ha := Adds.set A2.out (b := n1) (by omega) 0 (.slice (some ⟨g, 0, none⟩) ls.length cap)
        exact ⟨_, rfl, (HR.out.adds ha).wide fun k hk => .inl hk, ha⟩
  · have hE : writeE ls i b = rightE ls i b := by unfold writeE; rw [if_neg he]
    rw [hE, show writeL ls i b = ls by unfold writeL; rw [if_neg (by rw [hE]; exact he)]]
    generalize rightE ls i b = er at *
    clear h hl hf hA ba bb hsa hB hE
    go_enter Try.func42, Try.ntmps42
    go_wp2_with (go_at_call 75; refine HRi.out.mono ?_; rintro e w1 ⟨rfl, h1⟩; have A1 := Lib.hid (Adds.trans HAB.out h1); have b1 := HBa.out.adds h1; have c1 : w1.cell? ⟨n0, 0, none⟩ = some (.slice (some ⟨g, 0, none⟩) ls.length cap) := b1.cell 0; have d1 := HBb.out.adds h1; have e1 : w1.cell? ⟨n1, 0, none⟩ = some (.slice none 0 0) := d1.cell 0; have f1 := d1.free 0; have D1 := Lib.hid d1; clear h1 b1 d1)
    refine bodyPost_ret (res_box2 rfl _ _ _ _ _ _ _ rfl (D1.out.set 0 (.slice (some ⟨g, 0, none⟩) ls.length cap)) Try.underlying30 rfl (by kernel_rfl)) rfl ?_
    obtain ⟨t1, t2, t3⟩ := HS.out
    have ha := Adds.set A1.out (b := n1) (by omega) 0 (.slice (some ⟨g, 0, none⟩) ls.length cap)
    exact ⟨_, rfl, (HR.out.adds ha).wide fun k hk => .inl hk, ha⟩
end Go.Proofs.Ytedllkahalfjgaa
