/- slices.Equal of ints, alike, slices.EqualFunc of locks, same, Same: their contracts. -/
import Derived.Test.YtedllkahalfjgaaWC1
namespace Go.Proofs.Ytedllkahalfjgaa
open Go Go.RowKit

theorem take_next {α : Type} {a b : List α} {k : Nat} (h : a.take k = b.take k) {x : α} (ha : a[k]? = some x) (hb : b[k]? = some x) : a.take (k + 1) = b.take (k + 1) := by
  rw [List.take_add_one, List.take_add_one, h, ha, hb]
theorem CutR.len_lt {w : World} {v : Value} {xs : List Int} (h : CutR w v xs) : xs.length ≤ maxLen := by obtain ⟨_, _, _, h1, h2⟩ := h.form; omega
set_option maxRecDepth 100000 in
set_option maxHeartbeats 4000000 in
theorem eqInts_any {u v : Value} {xs ys : List Int} (w : World) (hc : CutR w u xs) (hd : CutR w v ys) : Calls Try.prog 88 #[u, v] w fun e w' => e = .returned (.bool (decide (xs = ys))) ∧ Adds w w' := by
  have HC := Lib.hid hc
  have HD := Lib.hid hd
  obtain ⟨ao, ca, rfl, _, _⟩ := hc.form
  obtain ⟨bo, cb, rfl, _, _⟩ := hd.form
  have hcm := hc.len_lt
  unfold maxLen at hcm
  by_cases hl : xs.length = ys.length
  · obtain ⟨cl, hcl'⟩ : ∃ cl, xs.length = cl := ⟨_, rfl⟩
    have HCl := Lib.hid hcl'
    have hcI : (cl : Int) ≤ 9223372036854775807 := by omega
    have HL := Lib.hid hl
    rw [← hl, hcl'] at HD ⊢
    rw [hcl'] at HC
    clear hcm hcl' hl hc hd
    go_enter Try.func88, Try.ntmps88
    go_wp2
    go_loopw [13] (fun i wr => ∃ k : Nat, i = .int .i64 k ∧ k ≤ cl ∧ Hid (xs.take k = ys.take k) ∧ Adds w wr) (fun i _ => cl + 1 - (intOf i).toNat)
    case atStart => exact ⟨0, rfl, Nat.zero_le _, Lib.hid (by simp), Adds.refl _⟩
    case round =>
      obtain ⟨k, rfl, hk, HT, hA⟩ := hrel
      have HA := Lib.hid hA
      clear hA
      by_cases hlt : k < cl
      · obtain ⟨x, hx⟩ : ∃ x, xs[k]? = some x := ⟨_, List.getElem?_eq_getElem (by rw [HCl.out]; exact hlt)⟩
        obtain ⟨y, hy⟩ : ∃ y, ys[k]? = some y := ⟨_, List.getElem?_eq_getElem (by rw [← HL.out, HCl.out]; exact hlt)⟩
        obtain ⟨g, q, c1, e1, _, _⟩ := HC.out.some (fun e => by rw [e] at hx; simp at hx)
        obtain ⟨g', q', c2, e2, _, _⟩ := HD.out.some (fun e => by rw [e] at hy; simp at hy)
        simp only [Value.slice.injEq] at e1 e2
        obtain ⟨rfl, f1, rfl⟩ := e1
        obtain ⟨rfl, f2, rfl⟩ := e2
        clear f1 f2
        have hx1 := (HC.out.adds HA.out).cells.2 k x hx
        have hy1 := (HD.out.adds HA.out).cells.2 k y hy
        have hx2 : wr.drew.cell? _ = _ := hx1
        have hy2 : wr.drew.cell? _ = _ := hy1
        have HX := Lib.hid hx; have HY := Lib.hid hy
        have HLt := Lib.hid hlt
        have hltI : (k : Int) < (cl : Int) := by omega
        clear hx hy hlt hk
        by_cases hxy : x = y
        · subst hxy
          go_wp2
          go_region
          simp only [Exit.then]
          go_wp2
          go_roundw
          case rel => exact ⟨k + 1, by go_num, HLt.out, Lib.hid (take_next HT.out HX.out HY.out), Adds.trans HA.out (Adds.drew _)⟩
          case measure => have := HLt.out; simp [intOf]; omega
        · go_wp2
          go_region
          simp only [Exit.then]
          go_wp2
          go_ret
          rw [decide_eq_false (fun h => by
            have h1 := HX.out
            rw [h, HY.out] at h1
            exact hxy (Option.some.inj h1).symm)]
          exact ⟨rfl, Adds.trans HA.out (Adds.drew _)⟩
      · have hltI : ¬ (k : Int) < (cl : Int) := by omega
        have HE := Lib.hid (show xs = ys by
          have h := HT.out
          rwa [List.take_of_length_le (by rw [HCl.out]; omega), List.take_of_length_le (by rw [← HL.out, HCl.out]; omega)] at h)
        clear hlt hk
        go_wp2
        go_ret
        rw [decide_eq_true HE.out]
        exact ⟨rfl, HA.out⟩
  · rw [decide_eq_false (fun h => hl (by rw [h]))]
    have h1 : ¬ ((xs.length : Nat) : Int) = ((ys.length : Nat) : Int) := by omega
    generalize xs.length = a at *
    generalize ys.length = b at *
    clear hc hd HC HD hcm
    go_enter Try.func88, Try.ntmps88
    go_wp2
    go_ret
    exact ⟨rfl, Adds.refl w⟩
def sameLk (x y : Lk) : Bool := decide (x.wr = y.wr) && decide (x.rd = y.rd)
theorem sameLk_iff {x y : Lk} : sameLk x y = true ↔ x = y := by
  unfold sameLk
  cases x; cases y
  simp
  exact ⟨fun h => ⟨h.2, h.1⟩, fun h => ⟨h.2, h.1⟩⟩
set_option maxRecDepth 100000 in
set_option maxHeartbeats 1000000 in
theorem alike_any (x y : LM) (w : World) (hx : CutR w x.sv x.lk.rd) (hy : CutR w y.sv y.lk.rd) (h0 : 0 ≤ x.lk.wr) (h1 : 0 ≤ y.lk.wr) :
    Calls Try.prog 82 #[.agg #[x.sv, .int .i64 (whoW x.lk.wr), .bool (decide (x.lk.wr ≠ 0))], .agg #[y.sv, .int .i64 (whoW y.lk.wr), .bool (decide (y.lk.wr ≠ 0))]] w fun e w' => e = .returned (.bool (sameLk x.lk y.lk)) ∧ Adds w w' := by
  obtain ⟨⟨xs, xw⟩, xv⟩ := x
  obtain ⟨⟨ys, yw⟩, yv⟩ := y
  simp only at hx hy h0 h1 ⊢
  obtain ⟨ao, ca, rfl, _, _⟩ := hx.form
  obtain ⟨bo, cb, rfl, _, _⟩ := hy.form
  have HQ := Lib.hid (fun W (ha : Adds w W) => eqInts_any W (hx.adds ha) (hy.adds ha))
  unfold sameLk
  simp only
  by_cases e0 : decide (xw ≠ 0) = decide (yw ≠ 0)
  · by_cases e1 : whoW xw = whoW yw
    · have ew : xw = yw := by
        unfold whoW at e1
        by_cases z : xw = 0
        · by_cases z' : yw = 0
          · omega
          · simp [z, z'] at e0
        · by_cases z' : yw = 0
          · simp [z, z'] at e0
          · rw [if_neg z, if_neg z'] at e1; omega
      subst ew
      rw [show decide (xw = xw) = true by simp, Bool.true_and]
      generalize decide (xs = ys) = r at *
      generalize decide (xw ≠ 0) = q at *
      generalize whoW xw = z at *
      generalize xs.length = n1 at *
      generalize ys.length = n2 at *
      clear hx hy e0 e1 h0 h1
      go_enter Try.func82, Try.ntmps82
      go_wp2_with (go_at_call 88; refine (HQ.out _ (Adds.trans (Gr.new _ _).adds (Gr.new _ _).adds)).mono ?_; rintro e w3 ⟨rfl, ha⟩; have HA := Lib.hid (Adds.trans (Adds.trans (Gr.new _ _).adds (Gr.new _ _).adds) ha); clear ha)
      go_ret
      exact ⟨rfl, HA.out⟩
    · have ew : decide (xw = yw) = false := by simp; intro e; exact e1 (by rw [e])
      rw [ew, Bool.false_and]
      generalize decide (yw ≠ 0) = q at *
      rw [e0]
      generalize whoW xw = z at *
      generalize whoW yw = z' at *
      generalize xs.length = n1 at *
      generalize ys.length = n2 at *
      clear hx hy e0 h0 h1 HQ ew
      go_enter Try.func82, Try.ntmps82
      go_wp2
      go_ret
      exact ⟨rfl, Adds.trans (Gr.new _ _).adds (Gr.new _ _).adds⟩
  · have ew : decide (xw = yw) = false := by simp; intro e; exact e0 (by rw [e])
    rw [ew, Bool.false_and]
    generalize decide (yw ≠ 0) = q at *
    generalize decide (xw ≠ 0) = q' at *
    generalize whoW xw = z at *
    generalize whoW yw = z' at *
    generalize xs.length = n1 at *
    generalize ys.length = n2 at *
    have e2 : (q' == q) = false := by simpa using e0
    clear hx hy e0 h0 h1 HQ ew
    go_enter Try.func82, Try.ntmps82
    go_wp2
    go_ret
    exact ⟨rfl, Adds.trans (Gr.new _ _).adds (Gr.new _ _).adds⟩
end Go.Proofs.Ytedllkahalfjgaa
