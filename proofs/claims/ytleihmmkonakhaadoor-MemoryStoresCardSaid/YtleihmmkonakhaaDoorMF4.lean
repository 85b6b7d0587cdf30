/- How many words; a copy of all pages: their contracts. -/
import Derived.Test.YtleihmmkonakhaaDoorMF2
namespace Go.Proofs.YtleihmmkonakhaaDoor
open Go Go.RowKit Go.Maps

def sumL (S : Nat → Nat) : List (Nat × Nat) → Nat
  | [] => 0
  | x :: t => cntP (pgW S x.1) + sumL S t
theorem sumL_perm (S : Nat → Nat) {L L' : List (Nat × Nat)} (h : L.Perm L') : sumL S L = sumL S L' := by
  induction h with
  | nil => rfl
  | cons x _ ih => simp only [sumL]; rw [ih]
  | swap x y l => simp only [sumL]; omega
  | trans _ _ h1 h2 => exact h1.trans h2
theorem sumL_le (S : Nat → Nat) : ∀ L : List (Nat × Nat), sumL S L ≤ 4096 * L.length
  | [] => by simp [sumL]
  | x :: t => by
    have := sumL_le S t
    have := cntP_le (pgW S x.1)
    simp only [sumL, List.length_cons]
    omega

set_option maxRecDepth 100000 in
set_option maxHeartbeats 2000000 in
theorem many_any (b : Nat) (S : Nat → Nat) (L : List (Nat × Nat)) (w : World) (hM : MemL w b S L) :
    Calls Tryd.prog 40 #[.map (some b)] w fun e w' => e = .returned (.int .i64 ((sumL S L : Nat) : Int)) ∧ Adds w w' := by
  have HM := Lib.hid hM; clear hM
  have HT := Lib.hid (show sumL S L ≤ 4294967296 from Nat.le_trans (sumL_le S L) (by have := HM.out.many; omega))
  go_enter Tryd.func40, Tryd.ntmps40
  go_wp2_with (at_range; refine wpList_rangeP rfl _ rfl b L rfl HM.out.map ?_; intro w0 hr ha hs; have HR := Lib.hid hr; have HA := Lib.hid ha; clear hr ha hs)
  go_frame
  have HS := Lib.hid (show w.heap.size ≤ w.heap.size from Nat.le_refl _)
  obtain ⟨r, hr⟩ : ∃ r, w.heap.size = r := ⟨_, rfl⟩
  rw [hr] at HR HS ⊢
  have HE := Lib.hid hr; clear hr
  go_loopw [3] (fun n wr => ∃ (todo : List (Nat × Nat)) (m : Nat), n = .int .i64 (m : Nat) ∧ m + sumL S todo = sumL S L ∧ RngAt wr b r L todo ∧ Adds w wr) (fun _ wr => wr.rangeLeft b r)
  case atStart => exact ⟨L, 0, rfl, by omega, HR.out, HA.out⟩
  case round =>
    obtain ⟨todo, m, rfl, hsum, hrg, hAr⟩ := hrel
    have HSum := Lib.hid hsum; have HRg := Lib.hid hrg; have HAr := Lib.hid hAr
    clear hsum hrg hAr
    go_wp2_with (at_next; refine wpList_nextP rfl _ rfl b r L todo rfl HRg.out ?_ ?_)
    · intro ht
      subst ht
      go_wp2
      go_ret
      refine ⟨ret_i ?_, HAr.out⟩
      have := HSum.out
      simp [sumL] at this
      omega
    · intro p c todo' w1 hp hm hrg1 hg1 hs1 hl1 hen
      have HP := Lib.hid hp; have HMm := Lib.hid hm; have HR1 := Lib.hid hrg1; have HL1 := Lib.hid hl1
      have HA1 := Lib.hid (Below.grown HAr.out hg1 HAr.out.size (fun k hk => by cases hk; have := HE.out; omega))
      clear hp hm hrg1 hg1 hs1 hl1
      have c1 := ((HM.out.adds HA1.out).page _ HMm.out).2.1.left
      simp only at c1
      have HN := Lib.hid (show m + cntP (pgW S p) + sumL S todo' = sumL S L by have h1 := sumL_perm S HP.out; have h2 := HSum.out; simp only [sumL] at h1; omega)
      obtain ⟨x, hx⟩ : ∃ x, cntP (pgW S p) = x := ⟨_, rfl⟩
      rw [hx] at c1 HN
      clear hx
      have hle : m + x ≤ 4294967296 := by have := HN.out; have := HT.out; omega
      have e1 : IntKind.i64.wrap ((m : Int) + (x : Int)) = ((m + x : Nat) : Int) := by rw [IntKind.wrap_i64]; omega
      clear hle
      go_wp2_with fail
      go_roundw
      case rel => exact ⟨todo', m + x, rfl, HN.out, HR1.out, HA1.out⟩
      case measure => exact HL1.out
end Go.Proofs.YtleihmmkonakhaaDoor
