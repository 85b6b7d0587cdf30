/- found, unread, allReaders: their contracts. -/
import Derived.Test.YtedllkahalfjgaaWF2
namespace Go.Proofs.Ytedllkahalfjgaa
open Go Go.RowKit

theorem unread1_any (x y : Int) (b : Nat) (w : World) (hc : w.cell? ⟨b, 0, none⟩ = some (.int .i64 y)) : Calls Try.prog 86 #[.int .i64 x, .pointer (some ⟨b, 0, none⟩)] w fun e w' => e = .returned (.bool (decide (x = y))) ∧ w = w' := by
  by_cases h : x = y
  · subst h
    go_enter Try.func86, Try.ntmps86
    go_wp2
    go_ret
    exact ⟨by simp, rfl⟩
  · rw [show decide (x = y) = false by simp [h]]
    go_enter Try.func86, Try.ntmps86
    go_wp2
    go_ret
    exact ⟨by simp [h], rfl⟩
set_option maxRecDepth 100000 in
set_option maxHeartbeats 1000000 in
theorem found_any (g k cap b : Nat) (xs : List Int) (y : Int) (w : World) (h : CutR w (.slice (some ⟨g, k, none⟩) xs.length cap) xs) (hc : w.cell? ⟨b, 0, none⟩ = some (.int .i64 y)) (hl : xs.length ≤ 1000000) :
    Calls Try.prog 85 #[.slice (some ⟨g, k, none⟩) xs.length cap, .func (.func 86) #[] #[.pointer (some ⟨b, 0, none⟩)]] w fun e w' => e = .returned (.int .i64 ((placeL xs y : Nat) : Int)) ∧ w = w' := by
  have HC := Lib.hid h.cells.2
  have HU := Lib.hid (fun x => unread1_any x y b w hc)
  have HL := Lib.hid hl
  obtain ⟨N, hN⟩ : ∃ N, xs.length = N := ⟨_, rfl⟩
  have HN := Lib.hid hN
  rw [hN]
  clear h hc hl hN
  go_enter Try.func85, Try.ntmps85
  go_wp2
  go_loop [9] (fun i => ∃ j : Nat, i = .int .i64 j ∧ j ≤ N ∧ Hid (∀ q, q < j → xs[q]? ≠ some y)) (fun i => N + 1 - (intOf i).toNat)
  case atStart => exact ⟨0, rfl, Nat.zero_le _, Lib.hid (fun q hq => by omega)⟩
  case round =>
    obtain ⟨j, rfl, hk, HT⟩ := hrel
    have hlI : (N : Int) ≤ 1000000 := by have := HN.out; have := HL.out; omega
    by_cases hlt : j < N
    · obtain ⟨x, hx⟩ : ∃ x, xs[j]? = some x := ⟨_, List.getElem?_eq_getElem (by rw [HN.out]; exact hlt)⟩
      have cj := HC.out j x hx
      have HLt := Lib.hid (And.intro hlt hx)
      have hltI : (j : Int) < (N : Int) := by omega
      have HX := Lib.hid (HU.out x)
      obtain ⟨r, hr⟩ : ∃ r, decide (x = y) = r := ⟨_, rfl⟩
      rw [hr] at HX
      have HR := Lib.hid hr
      clear hr hx hlt hk
      cases r
      · go_wp2_with (go_at_call 86; refine HX.out.mono ?_; rintro e w1 ⟨rfl, rfl⟩)
        go_round
        case rel => exact ⟨j + 1, by go_num, HLt.out.1, Lib.hid (fun q hq => by
          by_cases e : q = j
          · subst e
            rw [HLt.out.2]
            intro e2
            have := HR.out
            simp at this
            exact this (by cases e2; rfl)
          · exact HT.out q (by omega))⟩
        case measure => simp [intOf]; have := HLt.out.1; omega
      · go_wp2_with (go_at_call 86; refine HX.out.mono ?_; rintro e w1 ⟨rfl, rfl⟩)
        go_ret
        have e1 : x = y := by have := HR.out; simpa using this
        rw [placeL_first (n := j) (by rw [HLt.out.2, e1]) HT.out]
        exact ⟨rfl, rfl⟩
    · have HE := Lib.hid (show placeL xs y = 0 from placeL_not _ _ (fun hm => by
        obtain ⟨q, hq⟩ := List.getElem?_of_mem hm
        exact HT.out q (by have := (List.getElem?_eq_some_iff.1 hq).1; have := HN.out; omega) hq))
      have hge : ¬ (j : Int) < (N : Int) := by omega
      clear hlt hk
      go_wp2
      go_ret
      rw [HE.out]
      exact ⟨rfl, rfl⟩

section
variable {m : Nat} {w : World} {v : Value} {bp bl : Nat} {lv : List LM}
theorem info1 : (Try.prog.info? 3).map (·.size) = some 1 := by kernel_rfl
/-- The copy within a row. -/
theorem run_move {w : World} {g k cap : Nat} {xs : List Int} {p : Nat} (h : CutR w (.slice (some ⟨g, k, none⟩) xs.length cap) xs) (hp : p < xs.length) (ty : TypeId) (g1 : Option Addr) (c1 : Nat) (h1 : p ≠ 0 → g1 = some ⟨g, k + 1, none⟩) :
    ∃ w1 z, (Builtin.copy_ #[41, 41] ty #[.slice g1 p c1, .slice (some ⟨g, k, none⟩) p cap]).run Try.prog w = .ok z w1 ∧ w.grownBy w1 (some g) ∧
      CutR w1 (.slice (some (if cap = 1 then ⟨g, k, none⟩ else ⟨g, k + 1, none⟩)) (xs.length - 1) (cap - 1)) (xs.eraseIdx p) := by
  have hcut := h
  rcases h with ⟨h, _⟩ | ⟨g', k', cap', cur, e, hh, h2, h3, h4, h5⟩
  · cases h
  simp only [Value.slice.injEq, Option.some.injEq, Addr.mk.injEq, and_true, true_and] at e
  obtain ⟨⟨rfl, rfl⟩, rfl⟩ := e
  by_cases h0 : p = 0
  · subst h0
    have hr := run_copy_none (P := Try.prog) w 41 41 ty 3 g1 (some ⟨g, k, none⟩) 0 c1 0 cap Try.underlying41 info1 rfl
    refine ⟨w, _, hr, ⟨rfl, rfl, rfl, Nat.le_refl _, fun _ _ _ => rfl⟩, cut_moved hcut hp hh (fun cur' hc' => ?_)⟩
    rw [hh] at hc'
    cases hc'
    simp
  · obtain rfl := h1 h0
    have hr := run_copy_row (P := Try.prog) w 41 41 ty 3 g (k + 1) p c1 ⟨g, k, none⟩ p cap cur 3 ((xs.take p).map intV) Try.underlying41 info1 hh (by simp; omega) (fun j u hu => by
        rw [List.getElem?_map, List.getElem?_take] at hu
        split at hu
        · obtain ⟨x', hx', rfl⟩ := Option.map_eq_some_iff.1 hu
          rw [add_lit]
          exact hcut.cells.2 j x' hx'
        · cases hu) (by simp; omega) (fun u hu => by obtain ⟨z, _, rfl⟩ := List.mem_map.1 hu; rfl)
    refine ⟨_, _, hr, ⟨rfl, rfl, rfl, by simp [World.setRow], fun q _ hq => setRow_other w g q _ (fun e => hq (by rw [e]))⟩, cut_moved hcut hp (setRow_heap w g _ _ _ _ hh) (fun cur' hc' => ?_)⟩
    rw [hh] at hc'
    cases hc'
    simp [Nat.add_assoc]
    omega
end
end Go.Proofs.Ytedllkahalfjgaa
