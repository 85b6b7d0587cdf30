/- The document's Unread: its contract. -/
import Derived.Test.YtedllkahalfjgaaWR8
namespace Go.Proofs.Ytedllkahalfjgaa
open Go Go.RowKit

/-- What stands while a row is looked through from its end. -/
def InvU (xs : List Int) (y : Int) (t p : Nat) : Prop := p < xs.length ∧ ((xs[p]? = some y ∧ t ≤ p ∧ ∀ q, t ≤ q → q < p → xs[q]? ≠ some y) ∨ (p = 0 ∧ ∀ q, t ≤ q → xs[q]? ≠ some y))
theorem InvU.start {xs : List Int} {y : Int} {N : Nat} (h : xs.length = N) (h0 : 0 < N) : InvU xs y N 0 := ⟨by omega, .inr ⟨rfl, fun q hq e => by have := (List.getElem?_eq_some_iff.1 e).1; omega⟩⟩
theorem InvU.hit {xs : List Int} {y : Int} {t : Nat} (h : xs[t]? = some y) : InvU xs y t t := ⟨(List.getElem?_eq_some_iff.1 h).1, .inl ⟨h, Nat.le_refl _, fun q h1 h2 => by omega⟩⟩
theorem InvU.miss {xs : List Int} {y : Int} {t p : Nat} (h : InvU xs y (t + 1) p) (hx : xs[t]? ≠ some y) : InvU xs y t p := by
  obtain ⟨h1, h2⟩ := h
  refine ⟨h1, ?_⟩
  rcases h2 with ⟨a, c, d⟩ | ⟨a, d⟩
  · refine .inl ⟨a, by omega, fun q hq hp => ?_⟩
    by_cases e : q = t
    · rw [e]; exact hx
    · exact d q (by omega) hp
  · refine .inr ⟨a, fun q hq => ?_⟩
    by_cases e : q = t
    · rw [e]; exact hx
    · exact d q (by omega)
theorem InvU.done {xs : List Int} {y : Int} {p : Nat} (h : InvU xs y 0 p) : p < xs.length ∧ placeL xs y = p := by
  obtain ⟨h1, h2⟩ := h
  refine ⟨h1, ?_⟩
  rcases h2 with ⟨a, _, d⟩ | ⟨a, d⟩
  · exact placeL_first a (fun k hk => d k (Nat.zero_le _) hk)
  · rw [a]
    exact placeL_not _ _ (fun hm => by
      obtain ⟨q, hq⟩ := List.getElem?_of_mem hm
      exact d q (Nat.zero_le _) hq)
set_option maxRecDepth 100000 in
set_option maxHeartbeats 4000000 in
theorem refUnread_any {R : Nat → Prop} {s : Value} {ls : List Lk} (i b : Int) (w : World) (h : RefW R w s ls) (hl : ls.length ≤ 64) (hf : FewL ls) :
    Calls Try.prog 41 #[.agg #[s], .int .i64 i, .int .i64 b] w fun e w' => ∃ s', e = .returned (.tuple #[.agg #[s'], .int .i64 (unreadW ls i b), .int .i64 (unreadE ls i b)]) ∧ RefW (OrNew R w) w' s' (unreadL ls i b) ∧ Adds w w' := by
  obtain ⟨g, cap, rfl, _, _⟩ := h.form
  obtain ⟨wa, hwa⟩ : ∃ wa, w.alloc (.cells #[.slice (some ⟨g, 0, none⟩) ls.length cap] 30) = wa := ⟨_, rfl⟩
  have hA : Adds w wa := by rw [← hwa]; exact (Gr.new _ _).adds
  have ba : BkS 30 wa w.heap.size [.slice (some ⟨g, 0, none⟩) ls.length cap] := by rw [← hwa]; exact BkS.new _ _ _
  have hsa : wa.heap.size = w.heap.size + 1 := by rw [← hwa]; simp
  obtain ⟨wb, hwb⟩ : ∃ wb, wa.alloc (.cells #[.slice none 0 0] 30) = wb := ⟨_, rfl⟩
  have hB : Adds wa wb := by rw [← hwb]; exact (Gr.new _ _).adds
  have bb : BkS 30 wb wa.heap.size [.slice none 0 0] := by rw [← hwb]; exact BkS.new _ _ _
  have HAB := Lib.hid (Adds.trans hA hB)
  have HBa := Lib.hid (ba.adds hB)
  have HBb := Lib.hid bb
  have HR := Lib.hid h
  have ca : wb.cell? ⟨w.heap.size, 0, none⟩ = some (.slice (some ⟨g, 0, none⟩) ls.length cap) := HBa.out.cell 0
  have HRi := Lib.hid (right_any i b wb (h.adds HAB.out))
  obtain ⟨n0, hn0⟩ : ∃ n0, w.heap.size = n0 := ⟨_, rfl⟩
  obtain ⟨n1, hn1⟩ : ∃ n1, wa.heap.size = n1 := ⟨_, rfl⟩
  have HS := Lib.hid (And.intro hsa (And.intro hn0 hn1))
  rw [hn0] at ca HBa
  rw [hn1] at HBb
  by_cases he : rightE ls i b = 0
  · rw [he] at HRi
    have hg : mayI b ∧ hasL ls i := by
      unfold rightE at he
      by_cases h1 : mayI b
      · by_cases h2 : hasL ls i
        · exact ⟨h1, h2⟩
        · rw [if_pos h1, if_neg h2] at he; omega
      · rw [if_neg h1] at he; omega
    obtain ⟨m, hm, hml, hx⟩ := has_nat hg.2
    obtain ⟨x, hxx⟩ : ∃ x, atL ls i = x := ⟨_, rfl⟩
    rw [hxx] at hx
    obtain ⟨r1, ao, cp, r0, rc, rr⟩ := h.cells hx
    have hfx := hf x (List.mem_of_getElem? hx)
    subst hm
    have hmI : (m : Int) < (ls.length : Int) := by omega
    have HRC := Lib.hid rc
    have HRR := Lib.hid rr
    have C0 := Lib.hid (fun (W : World) (hW : Adds w W) => And.intro (Adds.cellAt hW r0) (Adds.cellAt hW r1))
    by_cases hrd : x.rd = []
    · have hE : unreadE ls (m : Int) b = 242 := by unfold unreadE; rw [if_pos he, hxx, if_pos hrd]
      rw [hE, show unreadL ls (m : Int) b = ls by unfold unreadL; rw [if_neg (by rw [hE]; decide)], show unreadW ls (m : Int) b = 0 by unfold unreadW; rw [if_neg (by rw [hE]; decide)]]
      have hl0 : x.rd.length = 0 := by rw [hrd]; rfl
      rw [hl0] at C0
      generalize x.wr = z at *
      clear h hl hf hfx hg hA ba bb hsa hB he hxx hx hml r0 r1 rc rr hE hrd hl0 HRC HRR
      go_enter Try.func41, Try.ntmps41
      go_wp2_with (go_at_call 75; refine HRi.out.mono ?_; rintro e w1 ⟨rfl, h1⟩; have A1 := Lib.hid (Adds.trans HAB.out h1); have b1 := HBa.out.adds h1; have c1 : w1.cell? ⟨n0, 0, none⟩ = some (.slice (some ⟨g, 0, none⟩) ls.length cap) := b1.cell 0; obtain ⟨s0, s1⟩ := C0.out _ A1.out; have k1 : (w1.alloc (.cells #[.slice ao 0 cp, .int .i64 z] 108)).cell? ⟨n0, 0, none⟩ = some (.slice (some ⟨g, 0, none⟩) ls.length cap) := (b1.adds (Gr.new _ _).adds).cell 0; have d1 := (HBb.out.adds h1).adds (Gr.new w1 (.cells #[.slice ao 0 cp, .int .i64 z] 108)).adds; have e1 : (w1.alloc (.cells #[.slice ao 0 cp, .int .i64 z] 108)).cell? ⟨n1, 0, none⟩ = some (.slice none 0 0) := d1.cell 0; have f1 := d1.free 0; have D1 := Lib.hid d1; have A2 := Lib.hid (Adds.trans A1.out (Gr.new w1 (.cells #[.slice ao 0 cp, .int .i64 z] 108)).adds); clear h1 b1 d1)
      refine bodyPost_ret (res_box3 rfl _ _ _ _ _ _ _ rfl (D1.out.set 0 (.slice (some ⟨g, 0, none⟩) ls.length cap)) Try.underlying30 rfl (by kernel_rfl)) rfl ?_
      obtain ⟨t1, t2, t3⟩ := HS.out
      have ha := Adds.set A2.out (b := n1) (by omega) 0 (.slice (some ⟨g, 0, none⟩) ls.length cap)
      exact ⟨_, rfl, (HR.out.adds ha).wide fun k hk => .inl hk, ha⟩
    · have hE : unreadE ls (m : Int) b = 0 := by unfold unreadE; rw [if_pos he, hxx, if_neg hrd]
      rw [hE, show unreadL ls (m : Int) b = ls.set m ⟨outL x.rd b, x.wr⟩ by unfold unreadL; rw [if_pos hE, hxx]; simp, show unreadW ls (m : Int) b = x.rd.getD (placeL x.rd b) 0 by unfold unreadW; rw [if_pos hE, hxx]]
      have HWi := Lib.hid (fun (W : World) (sv : Value) (hr : RefW (OrNew R w) W (.slice (some ⟨g, 0, none⟩) ls.length cap) ls) (hy : CutR W sv (outL x.rd b)) (hq : ∀ q, sv.ownBlock = some q → OrNew R w q) => with_any (y := ⟨outL x.rd b, x.wr⟩) m hml hl hr hy hq)
      obtain ⟨g2, k2, rfl⟩ : ∃ g2 k2, ao = some ⟨g2, k2, none⟩ := by
        rcases rc with ⟨_, hh⟩ | ⟨g2, k2, c2, cur2, hh, _⟩
        · exact absurd hh hrd
        · simp only [Value.slice.injEq] at hh
          exact ⟨g2, k2, hh.1⟩
      have hxl := hfx.1
      have HXL := Lib.hid hxl
      have HND := Lib.hid hrd
      generalize x.wr = z at *
      obtain ⟨N, hN⟩ : ∃ N, x.rd.length = N := ⟨_, rfl⟩
      have HN := Lib.hid hN
      rw [hN] at C0 HRC HRR
      have hN0 : ¬ (N : Int) = 0 := by
        have := List.length_pos_iff.2 hrd
        omega
      have hNp : 0 < N := by omega
      have HNP := Lib.hid hNp
      have hNi : (N : Int) ≤ 1000000 := by omega
      generalize x.rd = xs at *
      clear h hl hf hfx hg hA ba bb hsa hB he hxx hx hml r0 r1 rc rr hE hrd hxl hN hNp
      go_enter Try.func41, Try.ntmps41
      go_wp2_with (go_at_call 75; refine HRi.out.mono ?_; rintro e w1 ⟨rfl, h1⟩; have A1 := Lib.hid (Adds.trans HAB.out h1); have b1 := HBa.out.adds h1; have c1 : w1.cell? ⟨n0, 0, none⟩ = some (.slice (some ⟨g, 0, none⟩) ls.length cap) := b1.cell 0; obtain ⟨s0, s1⟩ := C0.out _ A1.out; obtain ⟨w4, hw4⟩ : ∃ w4, w1.alloc (.cells #[.slice (some ⟨g2, k2, none⟩) N cp, .int .i64 z] 108) = w4 := ⟨_, rfl⟩; have A4 := Lib.hid (show Adds w1 w4 by (rw [← hw4]; exact (Gr.new _ _).adds)); have B4 := Lib.hid (show BkS 108 w4 w1.heap.size [.slice (some ⟨g2, k2, none⟩) N cp, .int .i64 z] by (rw [← hw4]; exact BkS.new _ _ _)); have D1 := Lib.hid (HBb.out.adds h1); have a4 := b1.adds A4.out; have BA1 := Lib.hid b1; have c4 : w4.cell? ⟨n0, 0, none⟩ = some (.slice (some ⟨g, 0, none⟩) ls.length cap) := a4.cell 0; have z0 : w4.cell? ⟨w1.heap.size, 0, none⟩ = some (.slice (some ⟨g2, k2, none⟩) N cp) := B4.out.cell 0; have z1 : w4.cell? ⟨w1.heap.size, 1, none⟩ = some (.int .i64 z) := B4.out.cell 1; have RC4 := Lib.hid (HRC.out.adds (Adds.trans A1.out A4.out)); clear h1 b1 a4)
      go_loop [11, 12] (fun a j => ∃ t p : Nat, a = .int .i64 (p : Int) ∧ j = .int .i64 ((t : Int) - 1) ∧ t ≤ N ∧ Hid (InvU xs b t p)) (fun _ j => (intOf j + 1).toNat)
      case atStart => exact ⟨N, 0, rfl, by go_num, Nat.le_refl _, Lib.hid (InvU.start HN.out HNP.out)⟩
      case round =>
        obtain ⟨t, p, rfl, rfl, ht, HT⟩ := hrel
        cases t with
        | zero =>
          have HP := Lib.hid HT.out.done
          obtain ⟨hp, hpe⟩ := HP.out
          rw [show ((0 : Nat) : Int) - 1 = -1 by decide]
          obtain ⟨v, hv⟩ : ∃ v, xs[p]? = some v := ⟨_, List.getElem?_eq_getElem hp⟩
          have cv := RC4.out.cells.2 p v hv
          have hpN : (p : Int) < (N : Int) := by have := HN.out; omega
          have HV := Lib.hid hv
          have HPN := Lib.hid (show p + 1 ≤ N by have := HN.out; omega)
          have HCP := Lib.hid (show N ≤ cp by (have := RC4.out; rcases this with ⟨h, _⟩ | ⟨_, _, _, _, h, _, _, h2, _⟩; cases h; simp only [Value.slice.injEq] at h; have := HN.out; omega))
          have S1 := cut_h g2 k2 N cp p (p : Int) rfl (by have := HCP.out; have := HPN.out; omega)
          have S2 := cut_from g2 k2 N cp (p + 1) ((p : Int) + 1) (by omega) HPN.out
          have HC1 := Lib.hid (fun W (ha : Adds w4 W) => cut_pre (RC4.out.adds ha) (p := p) (by have := HPN.out; omega))
          have HC2 := Lib.hid (fun W (ha : Adds w4 W) => cut_suf (RC4.out.adds ha) (p := p + 1) HPN.out)
          generalize (if cp = p + 1 then (⟨g2, k2, none⟩ : Addr) else ⟨g2, k2 + (p + 1), none⟩) = a2 at S2 HC2
          generalize N - (p + 1) = n2 at S2 HC2
          generalize cp - (p + 1) = cp2 at S2 HC2
          have H4s := Lib.hid (show w4.heap.size = w1.heap.size + 1 by rw [← hw4]; simp)
          have HI0 := Lib.hid (show IntsO (w1.heap.size + 1) (w4.alloc (.cells #[] 3)) (.slice (some ⟨w4.heap.size, 0, none⟩) 0 0) [] by have := ints_empty w4; rwa [H4s.out] at this ⊢)
          have HL1 := Lib.hid (show ([] : List Int).length + (xs.take p).length ≤ 2000000 by have := HXL.out; simp; omega)
          have HL2 := Lib.hid (show (xs.take p).length + (xs.drop (p + 1)).length ≤ 2000000 by have := HXL.out; simp; omega)
          have HO := Lib.hid (show outL xs b = xs.take p ++ xs.drop (p + 1) by unfold outL; rw [hpe, List.eraseIdx_eq_take_drop_succ])
          have A0 := Lib.hid (Adds.trans (Gr.new w4 (.cells #[] 3)).adds (Adds.drew _))
          have y0 : (w4.alloc (.cells #[] 3)).cell? ⟨w1.heap.size, 0, none⟩ = some (.slice (some ⟨g2, k2, none⟩) N cp) := (B4.out.adds (Gr.new w4 _).adds).cell 0
          have HGD := Lib.hid (show xs.getD p 0 = v by rw [List.getD_eq_getElem?_getD, hv]; rfl)
          have HPE := Lib.hid hpe
          have hwr : IntKind.i64.wrap ((p : Int) + 1) = (p : Int) + 1 := by rw [IntKind.wrap_i64]; omega
          clear ht hp hpe hv
          go_wp2_with fail
          refine wp_calmW ?_
          clear hw4
          go_region_law (first
            | (refine step_cat rfl _ _ rfl (w1.heap.size + 1) _ [] rfl (by exact HI0.out) _ (xs.take p) rfl (by exact HC1.out _ A0.out) HL1.out (by exact Nat.le_trans (Nat.le_of_eq H4s.out.symm) A0.out.size) ?_; intro v5 w5 o5 g5; clear HI0; have O5 := Lib.hid o5; have A5 := Lib.hid (bel_adds A0.out g5 (Nat.le_of_eq H4s.out)); have y5 : w5.cell? ⟨w1.heap.size, 0, none⟩ = some (.slice (some ⟨g2, k2, none⟩) N cp) := (B4.out.adds A5.out).cell 0; clear o5 g5)
            | (refine step_cat rfl _ _ rfl (w1.heap.size + 1) _ (xs.take p) rfl (by exact O5.out) _ (xs.drop (p + 1)) rfl (by exact HC2.out _ A5.out) HL2.out (by exact Nat.le_trans (Nat.le_of_eq H4s.out.symm) A5.out.size) ?_; intro v6 w6 o6 g6; clear O5; have A6 := Lib.hid (bel_adds A5.out g6 (Nat.le_of_eq H4s.out)); have k6 := B4.out.adds A6.out; have y6 : w6.cell? ⟨w1.heap.size, 0, none⟩ = some (.slice (some ⟨g2, k2, none⟩) N cp) := k6.cell 0; have f6 := k6.free 0; obtain ⟨a6, p6, ev6, _, _⟩ := o6.cut.form; obtain ⟨l6, hl6⟩ : ∃ l6, (xs.take p ++ xs.drop (p + 1)).length = l6 := ⟨_, rfl⟩; rw [hl6] at ev6; subst ev6; obtain ⟨w7, hw7⟩ : ∃ w7, w6.setCell ⟨w1.heap.size, 0, none⟩ (.slice a6 l6 p6) = w7 := ⟨_, rfl⟩; have k7 : BkS 108 w7 w1.heap.size [.slice a6 l6 p6, .int .i64 z] := (by rw [← hw7]; exact k6.set 0 (.slice a6 l6 p6)); have A7 := Lib.hid (show Adds w1 w7 by (rw [← hw7]; exact Adds.set (Adds.trans A4.out A6.out) (Nat.le_refl _) 0 _)); have c7 : w7.cell? ⟨n0, 0, none⟩ = some (.slice (some ⟨g, 0, none⟩) ls.length cap) := (BA1.out.adds A7.out).cell 0; have z70 : w7.cell? ⟨w1.heap.size, 0, none⟩ = some (.slice a6 l6 p6) := k7.cell 0; have z71 : w7.cell? ⟨w1.heap.size, 1, none⟩ = some (.int .i64 z) := k7.cell 1; have H7 := Lib.hid (show CutR w7 (.slice a6 l6 p6) (xs.take p ++ xs.drop (p + 1)) ∧ ∀ q, (Value.slice a6 l6 p6).ownBlock = some q → w1.heap.size + 1 ≤ q from (by subst hl6; exact read_cut o6 hw7)); clear o6 g6 k6 k7))
          all_goals go_wp2_with (go_at_call 76; refine (HWi.out w7 _ ((HR.out.adds (Adds.trans A1.out A7.out)).wide (fun q hq => .inl hq)) (by rw [HO.out]; exact H7.out.1) (fun q hq => .inr (Nat.le_trans (Nat.le_trans A1.out.size (Nat.le_succ _)) (H7.out.2 q hq)))).mono ?_; rintro e w8 ⟨s8, rfl, h1, h2⟩; obtain ⟨g8, p8, e8, _, _⟩ := h1.form; rw [List.length_set] at e8; subst e8; have R8 := Lib.hid h1; have A8 := Lib.hid (Adds.trans A1.out (Adds.trans A7.out h2)); have d8 := D1.out.adds (Adds.trans A7.out h2); have u8 : w8.cell? ⟨n1, 0, none⟩ = some (.slice none 0 0) := d8.cell 0; have f8 := d8.free 0; have D8 := Lib.hid d8; clear h1 h2 d8)
          all_goals
            rw [HPE.out, HGD.out]
            refine bodyPost_ret (res_box3 rfl _ _ _ _ _ _ _ rfl (D8.out.set 0 _) Try.underlying30 rfl (by kernel_rfl)) rfl ?_
            obtain ⟨t1, t2, t3⟩ := HS.out
            exact ⟨_, rfl, ((R8.out.far D8.out (by decide) (by decide) 0 _).wide (fun q hq => hq.elim id (fun h => .inr (Nat.le_trans (Adds.trans A1.out A7.out).size h)))), Adds.set A8.out (b := n1) (by omega) 0 _⟩
        | succ t =>
          rw [show ((t + 1 : Nat) : Int) - 1 = (t : Int) by omega]
          have htI : (t : Int) < (N : Int) := by omega
          have htN : t < N := ht
          obtain ⟨v, hv⟩ : ∃ v, xs[t]? = some v := ⟨_, List.getElem?_eq_getElem (by rw [HN.out]; exact htN)⟩
          have cv := RC4.out.cells.2 t v hv
          have HV := Lib.hid hv
          have HTN := Lib.hid htN
          clear ht hv htN
          by_cases hvb : v = b
          · subst hvb
            go_wp2
            go_round
            case rel => exact ⟨t, t, rfl, by go_num, Nat.le_of_lt HTN.out, Lib.hid (InvU.hit HV.out)⟩
            case measure => simp [intOf]
          · have HVB := Lib.hid hvb
            go_wp2
            go_round
            case rel => exact ⟨t, p, rfl, by go_num, Nat.le_of_lt HTN.out, Lib.hid (HT.out.miss (by rw [HV.out]; intro e; exact HVB.out (by cases e; rfl)))⟩
            case measure => simp [intOf]
  · have hE : unreadE ls i b = rightE ls i b := by unfold unreadE; rw [if_neg he]
    rw [hE, show unreadL ls i b = ls by unfold unreadL; rw [if_neg (by rw [hE]; exact he)], show unreadW ls i b = 0 by unfold unreadW; rw [if_neg (by rw [hE]; exact he)]]
    generalize rightE ls i b = er at *
    clear h hl hf hA ba bb hsa hB hE
    go_enter Try.func41, Try.ntmps41
    go_wp2_with (go_at_call 75; refine HRi.out.mono ?_; rintro e w1 ⟨rfl, h1⟩; have A1 := Lib.hid (Adds.trans HAB.out h1); have b1 := HBa.out.adds h1; have c1 : w1.cell? ⟨n0, 0, none⟩ = some (.slice (some ⟨g, 0, none⟩) ls.length cap) := b1.cell 0; have d1 := HBb.out.adds h1; have e1 : w1.cell? ⟨n1, 0, none⟩ = some (.slice none 0 0) := d1.cell 0; have f1 := d1.free 0; have D1 := Lib.hid d1; clear h1 b1 d1)
    refine bodyPost_ret (res_box3 rfl _ _ _ _ _ _ _ rfl (D1.out.set 0 (.slice (some ⟨g, 0, none⟩) ls.length cap)) Try.underlying30 rfl (by kernel_rfl)) rfl ?_
    obtain ⟨t1, t2, t3⟩ := HS.out
    have ha := Adds.set A1.out (b := n1) (by omega) 0 (.slice (some ⟨g, 0, none⟩) ls.length cap)
    exact ⟨_, rfl, (HR.out.adds ha).wide fun k hk => .inl hk, ha⟩
end Go.Proofs.Ytedllkahalfjgaa
