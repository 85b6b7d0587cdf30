/- Merged: ML2. -/
import Derived.Test.YthhegcngkpfcoaaGreatDoorE48
import Derived.Test.YthhegcngkpfcoaaGreatDoorE46
import Derived.Test.YthhegcngkpfcoaaGreatDoorE49
namespace Go.Proofs.YthhegcngkpfcoaaGreatDoor
open Go Go.RowKit Go.Shelf Go.Lib

set_option maxRecDepth 100000 in
set_option maxHeartbeats 8000000 in
theorem law_encodesM {m : Nat} (u : Value) (p : Pg) (w : World) (hf : FuncsW m w u p.1) (hv : MVars w) :
    Calls Tryz.prog 3 #[pgV u p] w (TrueAdds w) := by
  have HF := Lib.hid hf
  have HV := Lib.hid hv
  have HOk := Lib.hid hf.ok
  obtain ⟨ao, cap, rfl, _, _, _⟩ := hf
  obtain ⟨w1, hw1⟩ : ∃ w1, w.alloc (.cells (pgC (.slice ao p.1.length cap) p).toArray 24) = w1 := ⟨_, rfl⟩
  have A1 := Lib.hid (show Adds w w1 by rw [← hw1]; exact Adds.new _ _)
  have B1 := Lib.hid (show BkS 24 w1 w.heap.size (pgC (.slice ao p.1.length cap) p) by rw [← hw1]; exact BkS.new _ _ _)
  have HFew := Lib.hid (few10_any _ p w1 (HF.out.adds A1.out))
  have HW := Lib.hid (fun (W : World) (h : Adds w W) => worksM W (hv.adds h))
  have HE := Lib.hid (fun (W : World) (h : Adds w W) => mencode _ p W (hv.adds h) (HF.out.adds h))
  have HL := Lib.hid (fun (W : World) (h : Adds w W) => mlen _ p W (hv.adds h) (HF.out.adds h))
  have HR := Lib.hid (fun (W : World) (h : Adds w W) => refEncode_any _ p W (HF.out.adds h))
  have HS := Lib.hid (fun (W : World) (x : Value) (h : Adds w W) (hx : FuncsW W.heap.size W x p.1) => show Calls Tryz.prog 13 #[pgV (.slice ao p.1.length cap) p, pgV x p] W fun e w' => e = .returned (.bool true) ∧ Adds W w' from by
    have h1 := refSame_any _ x p p W (HF.out.adds h) hx
    rwa [samePg_self] at h1)
  have hn := num10_any
  obtain ⟨en, hen⟩ : ∃ en, encI p = en := ⟨_, rfl⟩
  unfold EncPost at HE HR
  rw [hen] at HE HL HR
  have HPl := Lib.hid (show (checkP p = 0 ∨ en = ([], 2)) ∧ (checkP p = 0 → en = (imageB p, 0)) from ⟨by by_cases h : checkP p = 0; exact .inl h; exact .inr (by rw [← hen]; unfold encI; rw [if_neg h]), fun h => by rw [← hen]; unfold encI; rw [if_pos h]⟩)
  have HDe := Lib.hid (fun (h : checkP p = 0) (v : Value) (W : World) (hb : Bytes W.heap.size W v (imageB p)) (ha : Adds w W) => And.intro (show Calls Tryz.prog 12 #[v] W (DecPost (p, 0) W) from by have h1 := mdecode v _ W hb (hv.adds ha); rwa [decI_image h] at h1)
    (show Calls Tryz.prog 14 #[v] W fun e w' => e = .returned (.bool true) ∧ Adds W w' from by have h1 := mis v _ W hb (hv.adds ha); rwa [decI_image h] at h1))
  unfold DecPost at HDe
  clear hen hv
  obtain ⟨fs, x1, x2, x3⟩ := p
  simp only at B1 HF HE HL HR HS HFew HDe HOk hw1 ⊢
  obtain ⟨fl, hfl⟩ : ∃ fl, fs.length = fl := ⟨_, rfl⟩
  have HFl := Lib.hid hfl
  simp only [hfl] at B1 HF HE HL HR HS HFew hw1 ⊢
  clear hfl
  have b0 : w1.cell? ⟨w.heap.size, 0, none⟩ = some (.slice ao fl cap) := B1.out.cell 0
  have b1 : w1.cell? ⟨w.heap.size, 1, none⟩ = some (.int .i64 x1) := B1.out.cell 1
  have b2 : w1.cell? ⟨w.heap.size, 2, none⟩ = some (.int .i64 x2) := B1.out.cell 2
  have b3 : w1.cell? ⟨w.heap.size, 3, none⟩ = some (.int .i64 x3) := B1.out.cell 3
  by_cases hc : checkP (fs, x1, x2, x3) = 0
  · have hen : en = (imageB (fs, x1, x2, x3), 0) := HPl.out.2 hc
    subst hen
    have HD := Lib.hid (HDe.out hc)
    clear hc HDe HPl
    obtain ⟨l, hl⟩ : ∃ l, imageB (fs, x1, x2, x3) = l := ⟨_, rfl⟩
    rw [hl] at HE HL HR HD
    simp only at HE HL HR HD
    obtain ⟨ll, hll⟩ : ∃ ll, l.length = ll := ⟨_, rfl⟩
    have HLl := Lib.hid hll
    rw [hll] at HL
    clear hl hll
    go_enter Tryz.func3, Tryz.ntmps3
    go_wp2_with fail
    refine HFew.out.mono ?_
    rintro e w2 ⟨⟨b, rfl⟩, a2⟩
    have A2 := Lib.hid (A1.out.trans a2)
    have C2 := Lib.hid (B1.out.adds a2)
    obtain ⟨c0, c1, c2, c3⟩ : w2.cell? ⟨w.heap.size, 0, none⟩ = some (.slice ao fl cap) ∧ w2.cell? ⟨w.heap.size, 1, none⟩ = some (.int .i64 x1) ∧ w2.cell? ⟨w.heap.size, 2, none⟩ = some (.int .i64 x2) ∧ w2.cell? ⟨w.heap.size, 3, none⟩ = some (.int .i64 x3) := ⟨C2.out.cell 0, C2.out.cell 1, C2.out.cell 2, C2.out.cell 3⟩
    clear a2
    cases b
    · go_wp2_with (go_at_call 7; refine (HW.out _ A2.out).mono ?_; rintro e w3 ⟨rfl, a3⟩; have A3 := Lib.hid (A2.out.trans a3); clear a3)
      go_ret
      exact ⟨rfl, A3.out⟩
    · go_wp2_with (first
        | (go_at_call 8; refine (HE.out _ A2.out).mono ?_; rintro e w3 ⟨v, rfl, o3, a3⟩; have A3 := Lib.hid (A2.out.trans a3); have C3 := Lib.hid (C2.out.adds a3); have O3 := Lib.hid o3; obtain ⟨ao3, cap3, e3, _⟩ := id o3.bytes; rw [HLl.out] at e3; subst e3; obtain ⟨c0, c1, c2, c3⟩ : w3.cell? ⟨w.heap.size, 0, none⟩ = some (.slice ao fl cap) ∧ w3.cell? ⟨w.heap.size, 1, none⟩ = some (.int .i64 x1) ∧ w3.cell? ⟨w.heap.size, 2, none⟩ = some (.int .i64 x2) ∧ w3.cell? ⟨w.heap.size, 3, none⟩ = some (.int .i64 x3) := ⟨C3.out.cell 0, C3.out.cell 1, C3.out.cell 2, C3.out.cell 3⟩; clear a3 o3 HE)
        | (go_at_call 9; refine (HL.out _ A3.out).mono ?_; rintro e w4 ⟨rfl, a4⟩; have A4 := Lib.hid (A3.out.trans a4); have C4 := Lib.hid (C3.out.adds a4); have O4 := Lib.hid (O3.out.adds a4); obtain ⟨c0, c1, c2, c3⟩ : w4.cell? ⟨w.heap.size, 0, none⟩ = some (.slice ao fl cap) ∧ w4.cell? ⟨w.heap.size, 1, none⟩ = some (.int .i64 x1) ∧ w4.cell? ⟨w.heap.size, 2, none⟩ = some (.int .i64 x2) ∧ w4.cell? ⟨w.heap.size, 3, none⟩ = some (.int .i64 x3) := ⟨C4.out.cell 0, C4.out.cell 1, C4.out.cell 2, C4.out.cell 3⟩; clear a4 HL)
        | (go_at_call 10; refine (HR.out _ A4.out).mono ?_; rintro e w5 ⟨v5, rfl, o5, a5⟩; have A5 := Lib.hid (A4.out.trans a5); have C5 := Lib.hid (C4.out.adds a5); have O5 := Lib.hid (O4.out.adds a5); have S1 := strAt O5.out.bytes; have S2 := strAt o5.bytes; obtain ⟨ao5, cap5, e5, _⟩ := id o5.bytes; rw [HLl.out] at e5; subst e5; have HJ := Lib.hid (HD.out _ w5 O5.out.bytes A5.out); obtain ⟨c0, c1, c2, c3⟩ : w5.cell? ⟨w.heap.size, 0, none⟩ = some (.slice ao fl cap) ∧ w5.cell? ⟨w.heap.size, 1, none⟩ = some (.int .i64 x1) ∧ w5.cell? ⟨w.heap.size, 2, none⟩ = some (.int .i64 x2) ∧ w5.cell? ⟨w.heap.size, 3, none⟩ = some (.int .i64 x3) := ⟨C5.out.cell 0, C5.out.cell 1, C5.out.cell 2, C5.out.cell 3⟩; clear a5 o5 HR)
        | (go_at_call 11; refine (hn _ _).mono ?_; rintro e w9 ⟨rfl, rfl⟩)
        | (go_at_call 12; refine HJ.out.1.mono ?_; rintro e w7 ⟨cv, rfl, o7, a7⟩; obtain ⟨ao7, cp7, h7⟩ := o7.form; have FU7 := o7.funcs HOk.out; rw [HFl.out] at h7; subst h7; have A7 := Lib.hid (A5.out.trans a7); have O7 := Lib.hid (O5.out.adds a7); obtain ⟨wf, hwf⟩ : ∃ wf, w7.alloc (.cells #[.slice ao7 fl cp7, .int .i64 x1, .int .i64 x2, .int .i64 x3] 24) = wf := ⟨_, rfl⟩; have AF := Lib.hid (show Adds w7 wf by rw [← hwf]; exact Adds.new _ _); have ZF := Lib.hid (show BkS 24 wf w7.heap.size [.slice ao7 fl cp7, .int .i64 x1, .int .i64 x2, .int .i64 x3] by rw [← hwf]; exact BkS.new _ _ _); have A8 := Lib.hid (A7.out.trans AF.out); have HC8 := Lib.hid ((C5.out.adds a7).adds AF.out); have O8 := Lib.hid (O7.out.adds AF.out); have FU8 := Lib.hid (FU7.adds AF.out).here; obtain ⟨c0, c1, c2, c3⟩ : wf.cell? ⟨w.heap.size, 0, none⟩ = some (.slice ao fl cap) ∧ wf.cell? ⟨w.heap.size, 1, none⟩ = some (.int .i64 x1) ∧ wf.cell? ⟨w.heap.size, 2, none⟩ = some (.int .i64 x2) ∧ wf.cell? ⟨w.heap.size, 3, none⟩ = some (.int .i64 x3) := ⟨HC8.out.cell 0, HC8.out.cell 1, HC8.out.cell 2, HC8.out.cell 3⟩; obtain ⟨d0, d1, d2, d3⟩ : wf.cell? ⟨w7.heap.size, 0, none⟩ = some (.slice ao7 fl cp7) ∧ wf.cell? ⟨w7.heap.size, 1, none⟩ = some (.int .i64 x1) ∧ wf.cell? ⟨w7.heap.size, 2, none⟩ = some (.int .i64 x2) ∧ wf.cell? ⟨w7.heap.size, 3, none⟩ = some (.int .i64 x3) := ⟨ZF.out.cell 0, ZF.out.cell 1, ZF.out.cell 2, ZF.out.cell 3⟩; clear o7 a7 FU7 HJ)
        | (go_at_call 13; refine (HS.out _ _ A8.out FU8.out).mono ?_; rintro e wa ⟨rfl, aa⟩; have A10 := Lib.hid (A8.out.trans aa); have HK := Lib.hid (HD.out _ wa (O8.out.adds aa).bytes A10.out); clear aa HS)
        | (go_at_call 14; refine HK.out.2.mono ?_; rintro e wb ⟨rfl, ab⟩; have A11 := Lib.hid (A10.out.trans ab); clear ab HK)
        | (go_at_call 7; refine (HW.out _ A11.out).mono ?_; rintro e wc ⟨rfl, ac⟩; have A12 := Lib.hid (A11.out.trans ac); clear ac))
      go_ret
      exact ⟨rfl, A12.out⟩
  · have hen : en = ([], 2) := HPl.out.1.resolve_left hc
    subst hen
    clear hc HDe HPl
    simp only [List.length_nil] at HE HL HR
    go_enter Tryz.func3, Tryz.ntmps3
    go_wp2_with fail
    refine HFew.out.mono ?_
    rintro e w2 ⟨⟨b, rfl⟩, a2⟩
    have A2 := Lib.hid (A1.out.trans a2)
    have C2 := Lib.hid (B1.out.adds a2)
    obtain ⟨c0, c1, c2, c3⟩ : w2.cell? ⟨w.heap.size, 0, none⟩ = some (.slice ao fl cap) ∧ w2.cell? ⟨w.heap.size, 1, none⟩ = some (.int .i64 x1) ∧ w2.cell? ⟨w.heap.size, 2, none⟩ = some (.int .i64 x2) ∧ w2.cell? ⟨w.heap.size, 3, none⟩ = some (.int .i64 x3) := ⟨C2.out.cell 0, C2.out.cell 1, C2.out.cell 2, C2.out.cell 3⟩
    clear a2
    cases b
    · go_wp2_with (go_at_call 7; refine (HW.out _ A2.out).mono ?_; rintro e w3 ⟨rfl, a3⟩; have A3 := Lib.hid (A2.out.trans a3); clear a3)
      go_ret
      exact ⟨rfl, A3.out⟩
    · go_wp2_with (first
        | (go_at_call 8; refine (HE.out _ A2.out).mono ?_; rintro e w3 ⟨v, rfl, o3, a3⟩; have A3 := Lib.hid (A2.out.trans a3); have C3 := Lib.hid (C2.out.adds a3); have O3 := Lib.hid o3; obtain ⟨ao3, cap3, e3, _⟩ := id o3.bytes; simp only [List.length_nil] at e3; subst e3; obtain ⟨c0, c1, c2, c3⟩ : w3.cell? ⟨w.heap.size, 0, none⟩ = some (.slice ao fl cap) ∧ w3.cell? ⟨w.heap.size, 1, none⟩ = some (.int .i64 x1) ∧ w3.cell? ⟨w.heap.size, 2, none⟩ = some (.int .i64 x2) ∧ w3.cell? ⟨w.heap.size, 3, none⟩ = some (.int .i64 x3) := ⟨C3.out.cell 0, C3.out.cell 1, C3.out.cell 2, C3.out.cell 3⟩; clear a3 o3 HE)
        | (go_at_call 9; refine (HL.out _ A3.out).mono ?_; rintro e w4 ⟨rfl, a4⟩; have A4 := Lib.hid (A3.out.trans a4); have C4 := Lib.hid (C3.out.adds a4); have O4 := Lib.hid (O3.out.adds a4); obtain ⟨c0, c1, c2, c3⟩ : w4.cell? ⟨w.heap.size, 0, none⟩ = some (.slice ao fl cap) ∧ w4.cell? ⟨w.heap.size, 1, none⟩ = some (.int .i64 x1) ∧ w4.cell? ⟨w.heap.size, 2, none⟩ = some (.int .i64 x2) ∧ w4.cell? ⟨w.heap.size, 3, none⟩ = some (.int .i64 x3) := ⟨C4.out.cell 0, C4.out.cell 1, C4.out.cell 2, C4.out.cell 3⟩; clear a4 HL)
        | (go_at_call 10; refine (HR.out _ A4.out).mono ?_; rintro e w5 ⟨v5, rfl, o5, a5⟩; have A5 := Lib.hid (A4.out.trans a5); have O5 := Lib.hid (O4.out.adds a5); have S1 := strAt O5.out.bytes; have S2 := strAt o5.bytes; obtain ⟨ao5, cap5, e5, _⟩ := id o5.bytes; simp only [List.length_nil] at e5; subst e5; clear a5 o5 HR)
        | (go_at_call 11; refine (hn _ _).mono ?_; rintro e w9 ⟨rfl, rfl⟩)
        | (go_at_call 7; refine (HW.out _ A5.out).mono ?_; rintro e wc ⟨rfl, ac⟩; have A12 := Lib.hid (A5.out.trans ac); clear ac))
      go_ret
      exact ⟨rfl, A12.out⟩
end Go.Proofs.YthhegcngkpfcoaaGreatDoor
