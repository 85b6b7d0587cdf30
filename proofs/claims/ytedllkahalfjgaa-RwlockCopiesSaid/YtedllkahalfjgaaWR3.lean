/- The document's with: its contract. -/
import Derived.OwnWalk
import Derived.Test.YtedllkahalfjgaaWR2
namespace Go.Proofs.Ytedllkahalfjgaa
open Go Go.RowKit

set_option maxRecDepth 100000 in
set_option maxHeartbeats 2000000 in
theorem with_any {R : Nat → Prop} {s sv : Value} {ls : List Lk} {y : Lk} {w : World} (k : Nat) (hk : k < ls.length) (hl : ls.length ≤ 64) (h : RefW R w s ls) (hy : CutR w sv y.rd) (hRy : ∀ g, sv.ownBlock = some g → R g) :
    Calls Try.prog 76 #[.agg #[s], .int .i64 (k : Int), .agg #[sv, .int .i64 y.wr]] w fun e w' => ∃ s', e = .returned (.agg #[s']) ∧ RefW (OrNew R w) w' s' (ls.set k y) ∧ Adds w w' := by
  obtain ⟨g, cap, rfl, _, _⟩ := h.form
  obtain ⟨ao, cp, rfl, _, _⟩ := hy.form
  obtain ⟨wa, hwa⟩ : ∃ wa, w.alloc (.cells #[.slice (some ⟨g, 0, none⟩) ls.length cap] 30) = wa := ⟨_, rfl⟩
  have hA : Adds w wa := by rw [← hwa]; exact (Gr.new _ _).adds
  have ba : BkS 30 wa w.heap.size [.slice (some ⟨g, 0, none⟩) ls.length cap] := by rw [← hwa]; exact BkS.new _ _ _
  have hsa : wa.heap.size = w.heap.size + 1 := by rw [← hwa]; simp
  obtain ⟨wd, hwd⟩ : ∃ wd, wa.alloc (.cells #[.slice ao y.rd.length cp, .int .i64 y.wr] 108) = wd := ⟨_, rfl⟩
  have hD : Adds wa wd := by rw [← hwd]; exact (Gr.new _ _).adds
  have bd : BkS 108 wd wa.heap.size [.slice ao y.rd.length cp, .int .i64 y.wr] := by rw [← hwd]; exact BkS.new _ _ _
  have hsd : wd.heap.size = wa.heap.size + 1 := by rw [← hwd]; simp
  obtain ⟨wb, hwb⟩ : ∃ wb, wd.alloc (.cells #[.slice none 0 0] 30) = wb := ⟨_, rfl⟩
  have hB : Adds wd wb := by rw [← hwb]; exact (Gr.new _ _).adds
  have bb : BkS 30 wb wd.heap.size [.slice none 0 0] := by rw [← hwb]; exact BkS.new _ _ _
  have hsb : wb.heap.size = wd.heap.size + 1 := by rw [← hwb]; simp
  obtain ⟨wc, hwc⟩ : ∃ wc, wb.alloc (.cells #[] 108) = wc := ⟨_, rfl⟩
  have hC : Adds wb wc := by rw [← hwc]; exact (Gr.new _ _).adds
  have ho : wc.ownsRow wb.heap.size 108 2 (.slice (some ⟨wb.heap.size, 0, none⟩) 0 0) 0 [] := by
    have := World.ownsRow_lit (size := 2) (e := 108) wb #[] 0 (Nat.le_refl _) (by unfold maxLen; omega) (by simp)
    rw [hwc] at this
    simpa using this
  have bac := ((ba.adds hD).adds hB).adds hC
  have bdc := (bd.adds hB).adds hC
  have bbc := bb.adds hC
  have hac : Adds w wc := Adds.trans hA (Adds.trans hD (Adds.trans hB hC))
  have HR := Lib.hid (h.lt.adds hac)
  have HY := Lib.hid (hy.adds hac)
  have HRY := Lib.hid (fun q (hq : (Value.slice ao y.rd.length cp).ownBlock = some q) => And.intro (hRy q hq) (hy.lt q hq))
  have HAC := Lib.hid hac
  have HS := Lib.hid (And.intro hsa (And.intro hsd hsb))
  have HBa := Lib.hid bac; have HBb := Lib.hid bbc; have HBd := Lib.hid bdc; have HO := Lib.hid ho
  have HK := Lib.hid hk; have HL := Lib.hid hl
  have ca : wc.cell? ⟨w.heap.size, 0, none⟩ = some (.slice (some ⟨g, 0, none⟩) ls.length cap) := bac.cell 0
  obtain ⟨n0, hn0⟩ : ∃ n0, w.heap.size = n0 := ⟨_, rfl⟩
  obtain ⟨n1, hn1⟩ : ∃ n1, wa.heap.size = n1 := ⟨_, rfl⟩
  obtain ⟨n3, hn3⟩ : ∃ n3, wd.heap.size = n3 := ⟨_, rfl⟩
  obtain ⟨n2, hn2⟩ : ∃ n2, wb.heap.size = n2 := ⟨_, rfl⟩
  have HS2 := Lib.hid (And.intro hn1 (And.intro hn3 hn2))
  have HN0 := Lib.hid hn0
  have hkI : (k : Int) < (ls.length : Int) := by omega
  rw [hn0] at ca HBa HS
  rw [hn1] at HBd HS
  rw [hn3] at HBb HS
  rw [hn2] at HO HS
  clear h hA ba hB bb hD bd hC ho bac bdc bbc hac hk hl hsa hsb hsd hy hRy
  go_enter Try.func76, Try.ntmps76
  have HI := Lib.hid (show ls ≠ [] by rintro rfl; exact absurd HK.out (by simp))
  have HRn := Lib.hid (show ∀ q, (R q ∧ q < w.heap.size) → q < n2 from fun q hq => by have := HS.out; have := HN0.out; omega)
  have N12 := Lib.hid (show some n1 ≠ some n2 from fun e => by have := Option.some.inj e; have := HS.out; omega)
  have N32 := Lib.hid (show some n3 ≠ some n2 from fun e => by have := Option.some.inj e; have := HS.out; omega)
  have NG := Lib.hid (show ∀ g3, n2 ≤ g3 → g3 ≠ n3 from fun g3 h3 => by have := HS.out; omega)
  have HCZ := Lib.hid (show n2 ≤ wc.drew.heap.size by rw [← HS2.out.2.2, ← hwc]; simp [World.drew])
  go_wp2_with (at_builtin; refine wpR_appL rfl _ _ rfl n2 rfl (by exact HO.out) g cap ls _ rfl HR.out HL.out HI.out (by exact HCZ.out) HRn.out ?_; intro g3 cap3 w3 h3 hr3 hg3; have H3 := Lib.hid h3; have HR3 := Lib.hid hr3; have HG3 := Lib.hid hg3; obtain ⟨o1, oa, oc, o0, _, _⟩ := hr3.cells (List.getElem?_eq_getElem HK.out); have hf0 : w3.frozen? ⟨g3, k * 2, none⟩ = false := hr3.free _; have hf1 : w3.frozen? ⟨g3, k * 2 + 1, none⟩ = false := hr3.free _; have hbd : BkS 108 w3 n1 [.slice ao y.rd.length cp, .int .i64 y.wr] := (hg3.block n1 HBd.out.lt N12.out).trans HBd.out; have x0 : w3.cell? ⟨n1, 0, none⟩ = some (.slice ao y.rd.length cp) := hbd.cell 0; have x1 : w3.cell? ⟨n1, 1, none⟩ = some (.int .i64 y.wr) := hbd.cell 1; have hbb : BkS 30 w3 n3 [.slice none 0 0] := (hg3.block n3 HBb.out.lt N32.out).trans HBb.out; have hb4 := (hbb.other (c := g3) (i := k * 2) (NG.out g3 h3) (.slice ao y.rd.length cp)).other (c := g3) (i := k * 2 + 1) (NG.out g3 h3) (.int .i64 y.wr); have HB4 := Lib.hid hb4; have d1 : ((w3.setCell ⟨g3, k * 2, none⟩ (.slice ao y.rd.length cp)).setCell ⟨g3, k * 2 + 1, none⟩ (.int .i64 y.wr)).cell? ⟨n3, 0, none⟩ = some (.slice none 0 0) := hb4.cell 0; have f1 := hb4.free 0; clear h3 hr3 hg3 hbb hb4 hbd)
  have ha3 : Adds w w3 := ⟨HG3.out.os.trans HAC.out.os, HG3.out.tape.trans HAC.out.tape, HG3.out.output.trans HAC.out.output, Nat.le_trans HAC.out.size HG3.out.size, fun i hi => (HG3.out.block i (Nat.lt_of_lt_of_le hi HAC.out.size) (fun e => by have := Option.some.inj e; have := HS.out; have := HN0.out; omega)).trans (HAC.out.block i hi)⟩
  have hy3 : CutR w3 (.slice ao y.rd.length cp) y.rd := HY.out.kept (fun q hq => HG3.out.block q (HY.out.lt q hq) (fun e => by have := Option.some.inj e; have := (HRY.out q hq).2; have := HS.out; have := HN0.out; omega))
  have hr4 := HR3.out.set2 HK.out hy3 (fun q hq => .inl (HRY.out q hq))
  have hg0 : w.heap.size ≤ g3 := by have := H3.out; have := HS.out; have := HN0.out; omega
  have hn3' : w.heap.size ≤ n3 := by have := HS.out; have := HN0.out; omega
  refine bodyPost_ret (res_box rfl _ _ _ _ _ _ _ rfl (HB4.out.set 0 (.slice (some ⟨g3, 0, none⟩) ls.length cap3)) Try.underlying30 rfl (by kernel_rfl)) rfl ?_
  refine ⟨_, rfl, (hr4.kept (fun q hq => Below.heap_setCell _ _ _ _ (fun e => ?_))).wide (fun q hq => ?_), Adds.set (Adds.set (Adds.set ha3 hg0 _ _) hg0 _ _) hn3' 0 _⟩
  · have e' : q = n3 := e
    rcases hq with ⟨_, h1⟩ | h1
    · have := HS.out; have := HN0.out; omega
    · exact NG.out g3 H3.out (by rw [← h1]; exact e')
  · rcases hq with ⟨h1, _⟩ | h1
    · exact .inl h1
    · exact .inr (by rw [h1]; exact hg0)
end Go.Proofs.Ytedllkahalfjgaa
