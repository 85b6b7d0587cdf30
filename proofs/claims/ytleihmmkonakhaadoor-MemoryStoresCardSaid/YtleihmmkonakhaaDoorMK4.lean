/- The numbers of all pages; Pages, Len, Copy of a memory: their contracts. -/
import Derived.Test.YtleihmmkonakhaaDoorMK3
import Derived.Test.YtleihmmkonakhaaDoorMF5
namespace Go.Proofs.YtleihmmkonakhaaDoor
open Go Go.RowKit Go.Shelf Go.Maps

theorem collectKeys_any (Bm b : Nat) (L : List (Nat × Nat)) (w : World) (hm : w.cell? ⟨Bm, 0, none⟩ = some (.map (some b))) (hM : MapAt w b L) (hL : L.length ≤ 1048576) :
    Calls Tryd.prog 69 #[kfn (.pointer (some ⟨Bm, 0, none⟩))] w fun e w' => ∃ v xs, e = .returned v ∧ xs.Perm (L.map (·.1)) ∧ RowU w.heap.size w' v xs ∧ Adds w w' := by
  have HC := Lib.hid (appendKeys_any Bm b L w hm hM hL)
  clear hm hM hL
  go_enter Tryd.func69, Tryd.ntmps69
  go_wp2_with (go_at_call 71; refine HC.out.mono ?_; rintro e w1 ⟨v, xs, rfl, h1, h2, h3⟩; have H1 := Lib.hid h1; have H2 := Lib.hid h2; have H3 := Lib.hid h3; clear h1 h2 h3)
  go_ret
  exact ⟨v, xs, rfl, H1.out, H2.out, H3.out⟩

theorem sortedF_any (Bm b : Nat) (L : List (Nat × Nat)) (w : World) (hm : w.cell? ⟨Bm, 0, none⟩ = some (.map (some b))) (hM : MapAt w b L) (hL : L.length ≤ 1048576) :
    Calls Tryd.prog 64 #[kfn (.pointer (some ⟨Bm, 0, none⟩)), .func (.func 54) #[] #[]] w (NumsPost L w) := by
  have HC := Lib.hid (collectKeys_any Bm b L w hm hM hL)
  have HL := Lib.hid hL
  clear hm hM hL
  go_enter Tryd.func64, Tryd.ntmps64
  go_wp2_with (first
    | (go_at_call 69; refine HC.out.mono ?_; rintro e w1 ⟨v, xs, rfl, h1, h2, h3⟩; have H1 := Lib.hid h1; have H2 := Lib.hid h2; have H3 := Lib.hid h3; clear h1 h2 h3)
    | (go_at_call 70; refine (sortF_any w.heap.size v xs w1 H2.out (by have := H1.out.length_eq; simp at this; have := HL.out; omega)).mono ?_; rintro e w2 ⟨rfl, h4, h5⟩; have H4 := Lib.hid h4; have H5 := Lib.hid h5; clear h4 h5))
  go_ret
  exact ⟨v, rfl, by rw [← sortU_eq H1.out]; exact H4.out, Below.trans H3.out H5.out⟩
theorem sortedM_any (Bm b : Nat) (L : List (Nat × Nat)) (w : World) (hm : w.cell? ⟨Bm, 0, none⟩ = some (.map (some b))) (hM : MapAt w b L) (hL : L.length ≤ 1048576) :
    Calls Tryd.prog 52 #[kfn (.pointer (some ⟨Bm, 0, none⟩)), .func (.func 54) #[] #[]] w (NumsPost L w) := by
  have HC := Lib.hid (sortedF_any Bm b L w hm hM hL)
  clear hm hM hL
  go_enter Tryd.func52, Tryd.ntmps52
  go_wp2_with (go_at_call 64; refine HC.out.mono ?_; rintro e w1 ⟨v, rfl, h1, h2⟩; have H1 := Lib.hid h1; have H2 := Lib.hid h2; clear h1 h2)
  go_ret
  exact ⟨v, rfl, H1.out, H2.out⟩
theorem numbers_any (b : Nat) (L : List (Nat × Nat)) (w : World) (hM : MapAt w b L) (hL : L.length ≤ 1048576) :
    Calls Tryd.prog 41 #[.map (some b)] w (NumsPost L w) := by
  have HK := Lib.hid (keysM_any (some b) w)
  obtain ⟨w1, hw1⟩ : ∃ w1, w.alloc (.cells #[.map (some b)] 50) = w1 := ⟨_, rfl⟩
  rw [hw1] at HK
  have HA := Lib.hid (show Adds w w1 by rw [← hw1]; exact (Below.refl _ _).alloc (Nat.le_refl _) _)
  have HC := Lib.hid (sortedM_any w.heap.size b L w1 (by rw [← hw1]; simp) (hM.same (HA.out.block b hM.lt)) hL)
  clear hw1 hM hL
  go_enter Tryd.func41, Tryd.ntmps41
  go_wp2_with (first
    | (go_at_call 53; refine HK.out.mono ?_; rintro e w2 ⟨rfl, rfl⟩)
    | (go_at_call 52; refine HC.out.mono ?_; rintro e w2 ⟨v, rfl, h1, h2⟩; have H1 := Lib.hid h1; have H2 := Lib.hid h2; clear h1 h2))
  go_ret
  exact ⟨v, rfl, H1.out.base HA.out.size, Adds.trans HA.out H2.out⟩

/-! ### Pages, Len, Copy -/
theorem pagesM_any (bm b : Nat) (v : Value) (S : Nat → Nat) (L : List (Nat × Nat)) (w : World) (hM : MemP w v S bm b L) :
    Calls Tryd.prog 24 #[v] w (NumsPost L w) := by
  obtain rfl := hM.ptr
  have c0 := hM.c0
  have HN := Lib.hid (isNoneM_full bm b w c0)
  have HL := Lib.hid (numbers_any b L w hM.mem.map hM.mem.many)
  clear hM
  go_enter Tryd.func24, Tryd.ntmps24
  go_wp2_with (first
    | (go_at_call 26; refine HN.out.mono ?_; rintro e w1 ⟨rfl, rfl⟩)
    | (go_at_call 41; refine HL.out.mono ?_; rintro e w1 ⟨v, rfl, h1, h2⟩; have H1 := Lib.hid h1; have H2 := Lib.hid h2; clear h1 h2))
  go_ret
  exact ⟨v, rfl, H1.out, H2.out⟩
theorem pagesM_no (v : Value) (w : World) (h : NoMem w v) :
    Calls Tryd.prog 24 #[v] w fun e w' => e = .returned (.slice none 0 0) ∧ w = w' := by
  have HN := Lib.hid (isNoneM_no v w h)
  clear h
  go_enter Tryd.func24, Tryd.ntmps24
  go_wp2_with (go_at_call 26; refine HN.out.mono ?_; rintro e w1 ⟨rfl, rfl⟩)
  go_ret
  exact ⟨rfl, rfl⟩
theorem lenM_any (bm b : Nat) (v : Value) (S : Nat → Nat) (L : List (Nat × Nat)) (w : World) (hM : MemP w v S bm b L) :
    Calls Tryd.prog 23 #[v] w fun e w' => e = .returned (.int .i64 ((sumL S L : Nat) : Int)) ∧ Adds w w' := by
  obtain rfl := hM.ptr
  have c0 := hM.c0
  have HN := Lib.hid (isNoneM_full bm b w c0)
  have HL := Lib.hid (many_any b S L w hM.mem)
  clear hM
  go_enter Tryd.func23, Tryd.ntmps23
  go_wp2_with (first
    | (go_at_call 26; refine HN.out.mono ?_; rintro e w1 ⟨rfl, rfl⟩)
    | (go_at_call 40; refine HL.out.mono ?_; rintro e w1 ⟨rfl, h1⟩; have H1 := Lib.hid h1; clear h1))
  go_ret
  exact ⟨rfl, H1.out⟩
theorem lenM_no (v : Value) (w : World) (h : NoMem w v) :
    Calls Tryd.prog 23 #[v] w fun e w' => e = .returned (.int .i64 0) ∧ w = w' := by
  have HN := Lib.hid (isNoneM_no v w h)
  clear h
  go_enter Tryd.func23, Tryd.ntmps23
  go_wp2_with (go_at_call 26; refine HN.out.mono ?_; rintro e w1 ⟨rfl, rfl⟩)
  go_ret
  exact ⟨rfl, rfl⟩
theorem copyM_any (bm b : Nat) (v : Value) (S : Nat → Nat) (L : List (Nat × Nat)) (w : World) (hM : MemP w v S bm b L) :
    Calls Tryd.prog 20 #[v] w fun e w' => ∃ bm' b' L', e = .returned (.pointer (some ⟨bm', 0, none⟩)) ∧ MemP w' (.pointer (some ⟨bm', 0, none⟩)) S bm' b' L' ∧ Adds w w' ∧ ∀ k, footP bm' b' L' k → w.heap.size ≤ k := by
  obtain rfl := hM.ptr
  have c0 := hM.c0
  have HN := Lib.hid (isNoneM_full bm b w c0)
  have HL := Lib.hid (copied_any b S L w hM.mem)
  clear hM
  go_enter Tryd.func20, Tryd.ntmps20
  go_wp2_with (first
    | (go_at_call 26; refine HN.out.mono ?_; rintro e w1 ⟨rfl, rfl⟩)
    | (go_at_call 38; refine HL.out.mono ?_; rintro e w1 ⟨b', L', rfl, h1, h2, h3⟩; have H1 := Lib.hid h1; have H2 := Lib.hid h2; have H3 := Lib.hid h3; clear h1 h2 h3))
  go_ret
  have ha : Adds w1 (w1.alloc (.cells #[.map (some b')] 52)) := (Below.refl _ _).alloc (Nat.le_refl _) _
  exact ⟨_, b', L', rfl, ⟨rfl, heap_alloc_new _ _, H1.out.adds ha⟩, Adds.trans H2.out ha, fun k hk => hk.elim (fun e => by rw [e]; exact H2.out.size) (H3.out k)⟩
theorem copyM_no (v : Value) (w : World) (h : NoMem w v) :
    Calls Tryd.prog 20 #[v] w fun e w' => e = .returned (.pointer none) ∧ w = w' := by
  have HN := Lib.hid (isNoneM_no v w h)
  clear h
  go_enter Tryd.func20, Tryd.ntmps20
  go_wp2_with (go_at_call 26; refine HN.out.mono ?_; rintro e w1 ⟨rfl, rfl⟩)
  go_ret
  exact ⟨rfl, rfl⟩
end Go.Proofs.YtleihmmkonakhaaDoor
