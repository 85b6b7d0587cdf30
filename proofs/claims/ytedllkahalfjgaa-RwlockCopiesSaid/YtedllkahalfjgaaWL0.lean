/- num, the document's Ints; works: their contracts. -/
import Derived.Test.YtedllkahalfjgaaWE1
import Derived.Test.YtedllkahalfjgaaWF7
import Derived.Test.YtedllkahalfjgaaWF8
import Derived.Test.YtedllkahalfjgaaWF9
namespace Go.Proofs.Ytedllkahalfjgaa
open Go Go.RowKit

theorem num_any (x : Int) (w : World) : Calls Try.prog 12 #[.int .i64 x] w fun e w' => e = .returned (.int .i64 x) ∧ w = w' := by
  go_enter Try.func12, Try.ntmps12
  go_wp2
  go_ret
  exact ⟨rfl, rfl⟩
set_option maxRecDepth 100000 in
set_option maxHeartbeats 4000000 in
theorem ints_any {u v : Value} {xs ys : List Int} (w : World) (hc : CutR w u xs) (hd : CutR w v ys) : Calls Try.prog 36 #[u, v] w fun e w' => e = .returned (.bool (decide (xs = ys))) ∧ Adds w w' := by
  have HC := Lib.hid hc
  have HD := Lib.hid hd
  obtain ⟨ao, ca, rfl, _, _⟩ := hc.form
  obtain ⟨bo, cb, rfl, _, _⟩ := hd.form
  have hcm := hc.len_lt
  unfold maxLen at hcm
  by_cases hl : xs.length = ys.length
  · obtain ⟨cl, hcl'⟩ : ∃ cl, xs.length = cl := ⟨_, rfl⟩
    have HCl := Lib.hid hcl'
    have hcI : (cl : Int) ≤ 9223372036854775807 := by omega
    have HL := Lib.hid hl
    rw [← hl, hcl'] at HD ⊢
    rw [hcl'] at HC
    clear hcm hcl' hl hc hd
    go_enter Try.func36, Try.ntmps36
    go_wp2
    go_loopw [5] (fun i wr => ∃ k : Nat, i = .int .i64 k ∧ k ≤ cl ∧ Hid (xs.take k = ys.take k) ∧ Adds w wr) (fun i _ => cl + 1 - (intOf i).toNat)
    case atStart => exact ⟨0, rfl, Nat.zero_le _, Lib.hid (by simp), Adds.refl _⟩
    case round =>
      obtain ⟨k, rfl, hk, HT, hA⟩ := hrel
      have HA := Lib.hid hA
      clear hA
      by_cases hlt : k < cl
      · obtain ⟨x, hx⟩ : ∃ x, xs[k]? = some x := ⟨_, List.getElem?_eq_getElem (by rw [HCl.out]; exact hlt)⟩
        obtain ⟨y, hy⟩ : ∃ y, ys[k]? = some y := ⟨_, List.getElem?_eq_getElem (by rw [← HL.out, HCl.out]; exact hlt)⟩
        obtain ⟨g, q, c1, e1, _, _⟩ := HC.out.some (fun e => by rw [e] at hx; simp at hx)
        obtain ⟨g', q', c2, e2, _, _⟩ := HD.out.some (fun e => by rw [e] at hy; simp at hy)
        simp only [Value.slice.injEq] at e1 e2
        obtain ⟨rfl, f1, rfl⟩ := e1
        obtain ⟨rfl, f2, rfl⟩ := e2
        clear f1 f2
        have hx1 := (HC.out.adds HA.out).cells.2 k x hx
        have hy1 := (HD.out.adds HA.out).cells.2 k y hy
        have hx2 : wr.drew.cell? _ = _ := hx1
        have hy2 : wr.drew.cell? _ = _ := hy1
        have HX := Lib.hid hx; have HY := Lib.hid hy
        have HLt := Lib.hid hlt
        have hltI : (k : Int) < (cl : Int) := by omega
        clear hx hy hlt hk
        by_cases hxy : x = y
        · subst hxy
          go_wp2
          go_region
          simp only [Exit.then]
          go_wp2
          go_roundw
          case rel => exact ⟨k + 1, by go_num, HLt.out, Lib.hid (take_next HT.out HX.out HY.out), Adds.trans HA.out (Adds.drew _)⟩
          case measure => have := HLt.out; simp [intOf]; omega
        · go_wp2
          go_region
          simp only [Exit.then]
          go_wp2
          go_ret
          rw [decide_eq_false (fun h => by
            have h1 := HX.out
            rw [h, HY.out] at h1
            exact hxy (Option.some.inj h1).symm)]
          exact ⟨rfl, Adds.trans HA.out (Adds.drew _)⟩
      · have hltI : ¬ (k : Int) < (cl : Int) := by omega
        have HE := Lib.hid (show xs = ys by
          have h := HT.out
          rwa [List.take_of_length_le (by rw [HCl.out]; omega), List.take_of_length_le (by rw [← HL.out, HCl.out]; omega)] at h)
        clear hlt hk
        go_wp2
        go_ret
        rw [decide_eq_true HE.out]
        exact ⟨rfl, HA.out⟩
  · rw [decide_eq_false (fun h => hl (by rw [h]))]
    have h1 : ¬ ((xs.length : Nat) : Int) = ((ys.length : Nat) : Int) := by omega
    generalize xs.length = a at *
    generalize ys.length = b at *
    clear hc hd HC HD hcm
    go_enter Try.func36, Try.ntmps36
    go_wp2
    go_ret
    exact ⟨rfl, Adds.refl w⟩
/-- Locks that a call made itself. -/
def Live (n : Nat) (w0 W : World) (v : Value) (ls : List Lk) : Prop := ∃ O, HasL n W v O ls ∧ (∀ k, O k → w0.heap.size ≤ k) ∧ Adds w0 W
section
variable {n : Nat} {w0 W W' : World} {v : Value} {ls ls' : List Lk}
theorem Live.adds (h : Live n w0 W v ls) (ha : Adds W W') : Live n w0 W' v ls := let ⟨O, h1, h2, h3⟩ := h; ⟨O, h1.adds ha, h2, Adds.trans h3 ha⟩
theorem Live.up (h : Live n w0 W v ls) {m : Nat} (hm : n ≤ m) : Live m w0 W v ls := let ⟨O, h1, h2, h3⟩ := h; ⟨O, h1.up hm, h2, h3⟩
theorem Live.world (h : Live n w0 W v ls) : Adds w0 W := let ⟨_, _, _, h3⟩ := h; h3
theorem live_goes {f : FuncId} {args : Array Value} {r : Value} {m : Nat} (h : Live n w0 W v ls) (hc : ∀ O, HasL n W v O ls → Calls Try.prog f args W (Goes m W v O ls' r)) : Calls Try.prog f args W fun e W' => e = .returned r ∧ Live m w0 W' v ls' := by
  obtain ⟨O, h1, h2, h3⟩ := h
  refine (hc O h1).mono ?_
  rintro e W' ⟨rfl, O', g1, g2, g3⟩
  exact ⟨rfl, O', g1, fun k hk => (g3 k hk).elim (h2 k) (fun h => Nat.le_trans h3.size h), TnO.own h3 h2 g2⟩
theorem read_live (h : Live n w0 W v ls) (hn : n ≤ 1000000) {i b x : Int} (hx : readE ls i b = x) (hl : readL ls i b = ls') : Calls Try.prog 33 #[v, .int .i64 i, .int .i64 b] W fun e W' => e = .returned (.int .i64 x) ∧ Live (n + 1) w0 W' v ls' := by
  subst hx hl
  exact live_goes h fun O ho => readW_any ho i b hn
theorem write_live (h : Live n w0 W v ls) {i b x : Int} (hx : writeE ls i b = x) (hl : writeL ls i b = ls') : Calls Try.prog 34 #[v, .int .i64 i, .int .i64 b] W fun e W' => e = .returned (.int .i64 x) ∧ Live n w0 W' v ls' := by
  subst hx hl
  exact live_goes h fun O ho => writeW_any ho i b
theorem unread_live (h : Live n w0 W v ls) (hn : n ≤ 1000000) {i b x y : Int} (hx : unreadE ls i b = x) (hy : unreadW ls i b = y) (hl : unreadL ls i b = ls') : Calls Try.prog 35 #[v, .int .i64 i, .int .i64 b] W fun e W' => e = .returned (.tuple #[.int .i64 y, .int .i64 x]) ∧ Live n w0 W' v ls' := by
  subst hx hl hy
  exact live_goes h fun O ho => unreadW_any ho i b hn
theorem unwrite_live (h : Live n w0 W v ls) {i x y : Int} (hx : unwriteE ls i = x) (hy : unwriteW ls i = y) (hl : unwriteL ls i = ls') : Calls Try.prog 37 #[v, .int .i64 i] W fun e W' => e = .returned (.tuple #[.int .i64 y, .int .i64 x]) ∧ Live n w0 W' v ls' := by
  subst hx hl hy
  exact live_goes h fun O ho => unwriteW_any ho i
theorem new_live (many : Nat) (hm : many ≤ 64) (w : World) : Calls Try.prog 10 #[.int .i64 ((many : Nat) : Int)] w fun e w' => ∃ v, e = .returned (.tuple #[v, .int .i64 0]) ∧ Live 0 w w' v (List.replicate many lk0) :=
  (newW_yes many hm w).mono fun _ _ ⟨v, O, he, h1, h2, h3⟩ => ⟨v, he, O, h1, h2, h3⟩
end
set_option maxRecDepth 100000 in
set_option maxHeartbeats 4000000 in
theorem works_any (w : World) : Calls Try.prog 9 #[] w fun e w' => e = .returned (.bool true) ∧ Adds w w' := by
  have HN := Lib.hid (new_live 1 (by decide) w)
  have K1 := Lib.hid (fun W v (h : Live 0 w W v [lk0]) => read_live h (by decide) (i := 0) (b := 1) (x := 0) (ls' := [⟨[1], 0⟩]) rfl rfl)
  have K2 := Lib.hid (fun W v (h : Live 1 w W v [⟨[1], 0⟩]) => read_live h (by decide) (i := 0) (b := 2) (x := 0) (ls' := [⟨[1, 2], 0⟩]) rfl rfl)
  have K3 := Lib.hid (fun W v (h : Live 2 w W v [⟨[1, 2], 0⟩]) => read_live h (by decide) (i := 0) (b := 1) (x := 0) (ls' := [⟨[1, 2, 1], 0⟩]) rfl rfl)
  have K4 := Lib.hid (fun W v (h : Live 3 w W v [⟨[1, 2, 1], 0⟩]) => write_live h (i := 0) (b := 3) (x := 241) (ls' := [⟨[1, 2, 1], 0⟩]) rfl rfl)
  have K5 := Lib.hid (fun W v (h : Live 3 w W v [⟨[1, 2, 1], 0⟩]) => unread_live h (by decide) (i := 0) (b := 1) (x := 0) (y := 1) (ls' := [⟨[2, 1], 0⟩]) rfl rfl rfl)
  have K6 := Lib.hid (fun W v (h : Live 3 w W v [⟨[2, 1], 0⟩]) => unread_live h (by decide) (i := 0) (b := 9) (x := 0) (y := 2) (ls' := [⟨[1], 0⟩]) rfl rfl rfl)
  have K7 := Lib.hid (fun W v (h : Live 3 w W v [⟨[1], 0⟩]) => unread_live h (by decide) (i := 0) (b := 1) (x := 0) (y := 1) (ls' := [⟨[], 0⟩]) rfl rfl rfl)
  have K8 := Lib.hid (fun W v (h : Live 3 w W v [⟨[], 0⟩]) => write_live h (i := 0) (b := 3) (x := 0) (ls' := [⟨[], 4⟩]) rfl rfl)
  have K9 := Lib.hid (fun W v (h : Live 3 w W v [⟨[], 4⟩]) => read_live h (by decide) (i := 0) (b := 1) (x := 240) (ls' := [⟨[], 4⟩]) rfl rfl)
  have K10 := Lib.hid (fun W v (h : Live 4 w W v [⟨[], 4⟩]) => unwrite_live h (i := 0) (x := 0) (y := 3) (ls' := [⟨[], 0⟩]) rfl rfl rfl)
  have K11 := Lib.hid (fun W v (h : Live 4 w W v [⟨[], 0⟩]) => unwrite_live h (i := 0) (x := 242) (y := 0) (ls' := [⟨[], 0⟩]) rfl rfl rfl)
  have HR := Lib.hid (show ∀ W v, Live 3 w W v [⟨[2, 1], 0⟩] → Calls Try.prog 15 #[v, .int .i64 0] W fun e W' => ∃ v', e = .returned v' ∧ IntsO W.heap.size W' v' [2, 1] ∧ Adds W W' from fun W v ⟨O, h1, _, _⟩ => readersW_any h1 0 (by decide))
  have HI := Lib.hid (show ∀ b W v, IntsO b W v [2, 1] → Calls Try.prog 36 #[v, .slice (some ⟨W.heap.size, 0, none⟩) 2 2] (W.alloc (.cells #[.int .i64 2, .int .i64 1] 3)) fun e W' => e = .returned (.bool true) ∧ Adds (W.alloc (.cells #[.int .i64 2, .int .i64 1] 3)) W' from fun b W v h => by
    have h2 : CutR (W.alloc (.cells #[.int .i64 2, .int .i64 1] 3)) (.slice (some ⟨W.heap.size, 0, none⟩) 2 2) [2, 1] := .inr ⟨W.heap.size, 0, 2, _, rfl, heap_new W _, by decide, by decide, by decide, rfl⟩
    exact ints_any _ (h.cut.adds (Gr.new _ _).adds) h2)
  go_enter Try.func9, Try.ntmps9
  go_wp2_with (first
    | (go_at_call 10; refine HN.out.mono ?_; clear HN; rintro e w1 ⟨v, rfl, h1⟩; have L1 := Lib.hid h1; clear h1)
    | (go_at_call 33; refine (K1.out _ _ L1.out).mono ?_; clear K1; rintro e w2 ⟨rfl, h1⟩; have L2 := Lib.hid h1; clear h1)
    | (go_at_call 33; refine (K2.out _ _ L2.out).mono ?_; clear K2; rintro e w3 ⟨rfl, h1⟩; have L3 := Lib.hid h1; clear h1)
    | (go_at_call 33; refine (K3.out _ _ L3.out).mono ?_; clear K3; rintro e w4 ⟨rfl, h1⟩; have L4 := Lib.hid h1; clear h1)
    | (go_at_call 34; refine (K4.out _ _ L4.out).mono ?_; clear K4; rintro e w5 ⟨rfl, h1⟩; have L5 := Lib.hid h1; clear h1)
    | (go_at_call 35; refine (K5.out _ _ L5.out).mono ?_; clear K5; rintro e w6 ⟨rfl, h1⟩; have L6 := Lib.hid h1; clear h1)
    | (go_at_call 15; refine (HR.out _ _ L6.out).mono ?_; clear HR; rintro e w7 ⟨v7, rfl, h1, h2⟩; have R7 := Lib.hid h1; have L7 := Lib.hid (L6.out.adds h2); clear h1 h2)
    | (go_at_call 36; refine (HI.out _ _ _ R7.out).mono ?_; clear HI; rintro e w8 ⟨rfl, h2⟩; have L8 := Lib.hid (L7.out.adds (Adds.trans (Gr.new _ _).adds h2)); clear h2)
    | (go_at_call 35; refine (K6.out _ _ L8.out).mono ?_; clear K6; rintro e w9 ⟨rfl, h1⟩; have L9 := Lib.hid h1; clear h1)
    | (go_at_call 35; refine (K7.out _ _ L9.out).mono ?_; clear K7; rintro e w10 ⟨rfl, h1⟩; have L10 := Lib.hid h1; clear h1)
    | (go_at_call 34; refine (K8.out _ _ L10.out).mono ?_; clear K8; rintro e w11 ⟨rfl, h1⟩; have L11 := Lib.hid h1; clear h1)
    | (go_at_call 33; refine (K9.out _ _ L11.out).mono ?_; clear K9; rintro e w12 ⟨rfl, h1⟩; have L12 := Lib.hid h1; clear h1)
    | (go_at_call 37; refine (K10.out _ _ L12.out).mono ?_; clear K10; rintro e w13 ⟨rfl, h1⟩; have L13 := Lib.hid h1; clear h1)
    | (go_at_call 37; refine (K11.out _ _ L13.out).mono ?_; clear K11; rintro e w14 ⟨rfl, h1⟩; have L14 := Lib.hid h1; clear h1)
    | (go_at_call 12; refine (num_any _ _).mono ?_; rintro e w' ⟨rfl, rfl⟩))
  go_ret
  exact ⟨rfl, L14.out.world⟩
end Go.Proofs.Ytedllkahalfjgaa
