/- isOutside, hasReaders, hasWriter, isNone, Len, all, asked: their contracts. -/
import Derived.Test.YtedllkahalfjgaaWM2
import Derived.Test.YtedllkahalfjgaaBB
import Derived.Test.YtedllkahalfjgaaBC
namespace Go.Proofs.Ytedllkahalfjgaa
open Go Go.RowKit

def outB (n most : Int) : Bool := decide (n < 0 ∨ most < n)
theorem isOutside_any (n most : Int) (w : World) : Calls Try.prog 39 #[.int .i64 n, .int .i64 most] w fun e w' => e = .returned (.bool (outB n most)) ∧ w = w' := by
  by_cases h0 : n < 0
  · go_enter Try.func39, Try.ntmps39
    go_wp2
    go_ret
    exact ⟨by simp [outB, h0], rfl⟩
  · by_cases h1 : most < n
    · go_enter Try.func39, Try.ntmps39
      go_wp2
      go_ret
      exact ⟨by simp [outB, h1], rfl⟩
    · go_enter Try.func39, Try.ntmps39
      go_wp2
      go_ret
      exact ⟨by simp [outB, h0, h1], rfl⟩
theorem hasReaders_nil (w : World) : Calls Try.prog 71 #[.pointer none] w fun e w' => e = .returned (.bool false) ∧ w = w' := by
  go_enter Try.func71, Try.ntmps71
  go_wp2
  go_ret
  exact ⟨rfl, rfl⟩
theorem hasReaders_at (b k : Nat) (ao : Option Addr) (n cap : Nat) (w : World) (hc : w.cell? ⟨b, k, none⟩ = some (.slice ao n cap)) : Calls Try.prog 71 #[.pointer (some ⟨b, k, none⟩)] w fun e w' => e = .returned (.bool (decide (n ≠ 0))) ∧ w = w' := by
  by_cases h0 : n = 0
  · subst h0
    go_enter Try.func71, Try.ntmps71
    go_wp2
    go_ret
    exact ⟨rfl, rfl⟩
  · obtain ⟨x, hx⟩ : ∃ x : Int, ((n : Nat) : Int) = x := ⟨_, rfl⟩
    have h1 : 0 < x := by omega
    have h2 : 0 < n := by omega
    rw [show decide (n ≠ 0) = true by simp [h0]]
    have HX := Lib.hid hx
    clear h0 hx
    go_enter Try.func71, Try.ntmps71
    go_wp2
    go_ret
    exact ⟨by simp, rfl⟩
theorem hasWriter_nil (w : World) : Calls Try.prog 69 #[.pointer none] w fun e w' => e = .returned (.bool false) ∧ w = w' := by
  go_enter Try.func69, Try.ntmps69
  go_wp2
  go_ret
  exact ⟨rfl, rfl⟩
theorem hasWriter_at (b k : Nat) (x : Bool) (w : World) (hc : w.cell? ⟨b, k + 2, none⟩ = some (.bool x)) : Calls Try.prog 69 #[.pointer (some ⟨b, k, none⟩)] w fun e w' => e = .returned (.bool x) ∧ w = w' := by
  go_enter Try.func69, Try.ntmps69
  go_wp2
  go_ret
  exact ⟨rfl, rfl⟩
theorem isNoneW_nil (w : World) : Calls Try.prog 52 #[.pointer none] w fun e w' => e = .returned (.bool true) ∧ w = w' := by
  go_enter Try.func52, Try.ntmps52
  go_wp2
  go_ret
  exact ⟨rfl, rfl⟩
theorem isNoneW_zero (bp : Nat) (w : World) (hc : w.cell? ⟨bp, 0, none⟩ = some (.pointer none)) : Calls Try.prog 52 #[.pointer (some ⟨bp, 0, none⟩)] w fun e w' => e = .returned (.bool true) ∧ w = w' := by
  go_enter Try.func52, Try.ntmps52
  go_wp2
  go_ret
  exact ⟨rfl, rfl⟩
theorem isNoneW_full (bp bl : Nat) (w : World) (hc : w.cell? ⟨bp, 0, none⟩ = some (.pointer (some ⟨bl, 0, none⟩))) : Calls Try.prog 52 #[.pointer (some ⟨bp, 0, none⟩)] w fun e w' => e = .returned (.bool false) ∧ w = w' := by
  go_enter Try.func52, Try.ntmps52
  go_wp2
  go_ret
  exact ⟨rfl, rfl⟩
theorem lenW_nil (w : World) : Calls Try.prog 49 #[.pointer none] w fun e w' => e = .returned (.int .i64 0) ∧ w = w' := by
  have HN := Lib.hid (isNoneW_nil w)
  go_enter Try.func49, Try.ntmps49
  go_wp2_with (go_at_call 52; refine HN.out.mono ?_; rintro e w1 ⟨rfl, rfl⟩)
  go_ret
  exact ⟨rfl, rfl⟩
theorem lenW_zero (bp : Nat) (w : World) (hc : w.cell? ⟨bp, 0, none⟩ = some (.pointer none)) : Calls Try.prog 49 #[.pointer (some ⟨bp, 0, none⟩)] w fun e w' => e = .returned (.int .i64 0) ∧ w = w' := by
  have HN := Lib.hid (isNoneW_zero bp w hc)
  go_enter Try.func49, Try.ntmps49
  go_wp2_with (go_at_call 52; refine HN.out.mono ?_; rintro e w1 ⟨rfl, rfl⟩)
  go_ret
  exact ⟨rfl, rfl⟩
theorem lenW_full (bp bl : Nat) (x : Int) (w : World) (hc : w.cell? ⟨bp, 0, none⟩ = some (.pointer (some ⟨bl, 0, none⟩))) (hm : w.cell? ⟨bl, 192, none⟩ = some (.int .i64 x)) : Calls Try.prog 49 #[.pointer (some ⟨bp, 0, none⟩)] w fun e w' => e = .returned (.int .i64 x) ∧ w = w' := by
  have HN := Lib.hid (isNoneW_full bp bl w hc)
  go_enter Try.func49, Try.ntmps49
  go_wp2_with (go_at_call 52; refine HN.out.mono ?_; rintro e w1 ⟨rfl, rfl⟩)
  go_ret
  exact ⟨rfl, rfl⟩
set_option maxRecDepth 100000 in
theorem allW_any (bl m : Nat) (hm : m ≤ 64) (w : World) (hc : w.cell? ⟨bl, 192, none⟩ = some (.int .i64 ((m : Nat) : Int))) : Calls Try.prog 79 #[.pointer (some ⟨bl, 0, none⟩)] w fun e w' => e = .returned (.slice (some ⟨bl, 0, none⟩) m m) ∧ Gr w w' := by
  obtain ⟨x, hx⟩ : ∃ x : Int, ((m : Nat) : Int) = x := ⟨_, rfl⟩
  have h0 : 0 ≤ x := by omega
  have h1 : x ≤ 64 := by omega
  have hr := fun W => run_sliceAt_array_hm (P := Try.prog) W 92 ⟨bl, 0, none⟩ (by kernel_rfl) .i64 .i64 x x h0 (Int.le_refl _) (by rw [show Try.prog.arrayLen 92 = 64 by kernel_rfl]; exact h1)
  rw [hx] at hc
  have HX := Lib.hid hx
  have hc' : w.drew.cell? ⟨bl, 192, none⟩ = some (.int .i64 x) := hc
  clear hx hm
  go_enter Try.func79, Try.ntmps79
  go_wp2
  go_region
  simp only [Exit.then]
  go_wp2
  go_ret
  exact ⟨by rw [← HX.out]; rfl, (Gr.refl w).drew⟩

/-- The error of the first ask that refuses. -/
def askedE : List (Bool × Int) → Int
  | [] => 0
  | (true, e) :: _ => e
  | (false, _) :: l => askedE l
def askC (a : Bool × Int) : List Value := [.bool a.1, .int .i64 a.2]
theorem askC_len (a : Bool × Int) : (askC a).length = 2 := rfl
theorem askedE_skip : ∀ (l : List (Bool × Int)) (k : Nat), (∀ j x, j < k → l[j]? = some x → x.1 = false) → askedE l = askedE (l.drop k)
  | _, 0, _ => by simp
  | [], k + 1, _ => by simp
  | (true, e) :: l, k + 1, h => by have := h 0 (true, e) (by omega) rfl; simp at this
  | (false, e) :: l, k + 1, h => by
    show askedE l = _
    rw [askedE_skip l k (fun j x hj hx => h (j + 1) x (by omega) (by simpa using hx))]
    simp
theorem askedE_at {l : List (Bool × Int)} {k : Nat} {e : Int} (h : ∀ j x, j < k → l[j]? = some x → x.1 = false) (hk : l[k]? = some (true, e)) : askedE l = e := by
  rw [askedE_skip l k h]
  have hlt := (List.getElem?_eq_some_iff.1 hk).1
  rw [List.drop_eq_getElem_cons hlt]
  rw [List.getElem?_eq_getElem hlt] at hk
  simp only [Option.some.injEq] at hk
  rw [hk]
  rfl
theorem askedE_end {l : List (Bool × Int)} (h : ∀ j x, j < l.length → l[j]? = some x → x.1 = false) : askedE l = 0 := by
  rw [askedE_skip l l.length h]; simp [askedE]
theorem infoAsk : (Try.prog.info? 88).map (·.size) = some 2 := by kernel_rfl
set_option maxRecDepth 100000 in
set_option maxHeartbeats 1000000 in
theorem asked_any (l : List (Bool × Int)) (hl : l.length ≤ 100) (b cap : Nat) (w : World) (h : ∀ (k : Nat) v, (l.flatMap askC)[k]? = some v → w.cell? ⟨b, k, none⟩ = some v) :
    Calls Try.prog 38 #[.slice (some ⟨b, 0, none⟩) l.length cap] w fun e w' => e = .returned (.int .i64 (askedE l)) ∧ Gr w w' := by
  have HC := Lib.hid (show ∀ (k : Nat) (a : Bool × Int), l[k]? = some a → w.cell? ⟨b, k * 2, none⟩ = some (.bool a.1) ∧ w.cell? ⟨b, k * 2 + 1, none⟩ = some (.int .i64 a.2) from fun k a ha => by
    have hg : ∀ j, j < 2 → (l.flatMap askC)[k * 2 + j]? = (askC a)[j]? := fun j hj => by rw [flat_get askC 2 askC_len l k j hj, ha]; rfl
    exact ⟨h _ _ (hg 0 (by omega)), h _ _ (hg 1 (by omega))⟩)
  have HL := Lib.hid hl
  obtain ⟨N, hN⟩ : ∃ N, l.length = N := ⟨_, rfl⟩
  have HN := Lib.hid hN
  rw [hN]
  clear h hl hN
  go_enter Try.func38, Try.ntmps38
  go_wp2
  go_loopw [7] (fun i wr => ∃ k : Nat, i = .int .i64 k ∧ k ≤ N ∧ (∀ j x, j < k → l[j]? = some x → x.1 = false) ∧ Gr w wr) (fun i _ => N + 1 - (intOf i).toNat)
  case atStart => exact ⟨0, rfl, Nat.zero_le _, fun j x hj => by omega, Gr.refl w⟩
  case round =>
    obtain ⟨k, rfl, hk, hno, hg⟩ := hrel
    have hNI : (N : Int) ≤ 100 := by have := HL.out; have := HN.out; omega
    have HG := Lib.hid hg; have HO := Lib.hid hno
    clear hno hg
    by_cases hlt : k < N
    · have hkI : (k : Int) < (N : Int) := by omega
      obtain ⟨r, er, hx⟩ : ∃ r er, l[k]? = some (r, er) := ⟨_, _, List.getElem?_eq_getElem (by rw [HN.out]; exact hlt)⟩
      obtain ⟨c0, c1⟩ := HC.out k _ hx
      replace c0 := Adds.cellAt HG.out.adds c0
      replace c1 := Adds.cellAt HG.out.adds c1
      have HX := Lib.hid hx; have HLT := Lib.hid hlt
      clear hx hlt hk
      obtain ⟨wz, hwz⟩ : ∃ wz, wr.alloc (.cells #[.bool r, .int .i64 er] 88) = wz := ⟨_, rfl⟩
      have HZ := Lib.hid (show Gr wr wz by rw [← hwz]; exact Gr.new _ _)
      have z0 : wz.cell? ⟨wr.heap.size, 0, none⟩ = some (.bool r) := by rw [← hwz]; simp
      have z1 : wz.cell? ⟨wr.heap.size, 1, none⟩ = some (.int .i64 er) := by rw [← hwz]; simp
      cases r
      · go_wp2
        go_roundw
        case rel => exact ⟨k + 1, by go_num, HLT.out, fun j x hj hx => by
          by_cases e : j = k
          · subst e
            rw [HX.out] at hx
            cases hx
            rfl
          · exact HO.out j x (by omega) hx, HG.out.trans HZ.out⟩
        case measure => have := HLT.out; simp [intOf]; omega
      · go_wp2
        go_ret
        exact ⟨by rw [askedE_at HO.out HX.out]; rfl, HG.out.trans HZ.out⟩
    · have hkI : ¬ (k : Int) < (N : Int) := by omega
      have HE := Lib.hid (show k = N by omega)
      clear hlt hk
      go_wp2
      go_ret
      exact ⟨by rw [askedE_end (l := l) (fun j x hj hx => HO.out j x (by have := HE.out; have := HN.out; omega) hx)]; rfl, HG.out⟩
end Go.Proofs.Ytedllkahalfjgaa
