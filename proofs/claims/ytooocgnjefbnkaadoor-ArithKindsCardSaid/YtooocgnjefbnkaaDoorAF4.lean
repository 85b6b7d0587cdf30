/- Do, Signed; the law's own does, num, works: their contracts. -/
import Derived.Test.YtooocgnjefbnkaaDoorAF3
namespace Go.Proofs.YtooocgnjefbnkaaDoor
open Go Go.RowKit

def doX (x : Int) (a b : Nat) : Nat × Int := if 1 ≤ x ∧ x ≤ 12 then (if byNone x.toNat b then (0, 150) else (doN x.toNat a b, 0)) else (0, 2)
theorem foldX_one (x : Int) (a : Nat) (u : UInt32) : (foldX x a [u]).2.2 = (doX x a u.toNat).2 ∧ ((doX x a u.toNat).2 = 0 → (foldX x a [u]).1 = (doX x a u.toNat).1) ∧ ((doX x a u.toNat).2 ≠ 0 → (doX x a u.toNat).1 = 0) := by
  unfold foldX doX
  split
  · rw [foldN, foldN]
    split <;> simp
  · simp
set_option maxRecDepth 100000 in
theorem do_any (x : Int) (hx : (Lit.int .i64 x).wf = true) (a b : Nat) (ha : a < 4294967296) (hb : b < 4294967296) (w : World) :
    Calls Tryd.prog 45 #[.int .i64 x, .int .u32 a, .int .u32 b] w fun e w' => e = .returned (.tuple #[.int .u32 (doX x a b).1, .int .i64 (doX x a b).2]) ∧ Adds w w' := by
  obtain ⟨u, rfl⟩ : ∃ u : UInt32, b = u.toNat := ⟨UInt32.ofNat b, by rw [show (UInt32.ofNat b).toNat = b % 4294967296 from UInt32.toNat_ofNat']; omega⟩
  have HF := Lib.hid (fold_any x hx a ha (.slice (some ⟨w.heap.size, 0, none⟩) 1 1) [u] (w.alloc (.cells #[.int .u32 (u.toNat : Nat)] 63)) (cells32_lit w [u] (by simp [maxLen])))
  unfold FoldPost at HF
  have A0 := Lib.hid (adds_box w (.cells #[.int .u32 (u.toNat : Nat)] 63))
  obtain ⟨e1, e2, e3⟩ := foldX_one x a u
  have E2 := Lib.hid e2; clear e2
  have E3 := Lib.hid e3; clear e3
  generalize foldX x a [u] = r at e1 E2 HF
  generalize doX x a u.toNat = r' at e1 E2 E3 ⊢
  obtain ⟨n, m, er⟩ := r
  obtain ⟨n', er'⟩ := r'
  simp only at e1 E2 E3 HF ⊢
  subst e1
  clear hx ha hb
  by_cases he : er = 0
  · subst he
    obtain rfl : n = n' := E2.out rfl
    go_enter Tryd.func45, Tryd.ntmps45
    go_wp2
    refine wp_scope_fwd 0 rfl ?_
    go_wp2_with (go_at_call 30; refine HF.out.mono ?_; rintro e w2 ⟨rfl, a2⟩; have A2 := Lib.hid a2; clear a2)
    simp only [Exit.jump]
    go_ret2
    exact ⟨rfl, A0.out.trans A2.out⟩
  · obtain rfl : n' = 0 := E3.out he
    have hne : (er != 0) = true := by simpa using he
    clear he E2 E3
    go_enter Tryd.func45, Tryd.ntmps45
    go_wp2
    refine wp_scope_fwd 0 rfl ?_
    go_wp2_with (go_at_call 30; refine HF.out.mono ?_; rintro e w2 ⟨rfl, a2⟩; have A2 := Lib.hid a2; clear a2)
    go_step3
    refine ⟨rfl, ?_⟩
    go_wp2
    rw [Exit.noGoto_ret]
    go_ret2
    exact ⟨rfl, A0.out.trans A2.out⟩

theorem num5_any (x : Int) (w : World) :
    Calls Tryd.prog 20 #[.int .i64 x] w fun e w' => e = .returned (.int .i64 x) ∧ w = w' := by
  go_enter Tryd.func20, Tryd.ntmps20
  go_wp2
  go_ret
  exact ⟨rfl, rfl⟩
def signN (n : Nat) : Int := if n < 2147483648 then n else n - 4294967296
theorem signed_word (n : Nat) (hn : n < 4294967296) (w : World) :
    Calls Tryd.prog 46 #[.int .u32 n] w fun e w' => e = .returned (.int .i64 (signN n)) ∧ w = w' := by
  go_enter Tryd.func46, Tryd.ntmps46
  go_wp2
  go_ret
  refine ⟨ret_int ?_, rfl⟩
  unfold wrap64 wrap32 signN
  split <;> omega
theorem signed_any (n : Nat) (hn : n < 4294967296) (w : World) :
    Calls Tryd.prog 32 #[.int .u32 n] w fun e w' => e = .returned (.int .i64 (signN n)) ∧ w = w' := by
  have HC := Lib.hid (fun W => signed_word n hn W)
  go_enter Tryd.func32, Tryd.ntmps32
  go_wp2_with (go_at_call 46; refine (HC.out _).mono ?_; rintro e w' ⟨rfl, rfl⟩)
  go_ret
  exact ⟨rfl, rfl⟩

def doesN (x : Int) (a b : Nat) : Nat := if (doX x a b).2 = 0 then (doX x a b).1 else 1000000 + (doX x a b).2.toNat
theorem doX_err (x : Int) (a b : Nat) : (doX x a b).2 = 0 ∨ (doX x a b).2 = 2 ∨ (doX x a b).2 = 150 := by
  unfold doX
  split
  · split <;> simp
  · simp
theorem does_any (x : Int) (hx : (Lit.int .i64 x).wf = true) (a b : Nat) (ha : a < 4294967296) (hb : b < 4294967296) (w : World) :
    Calls Tryd.prog 31 #[.int .i64 x, .int .u32 a, .int .u32 b] w fun e w' => e = .returned (.int .u32 (doesN x a b)) ∧ Adds w w' := by
  have HD := Lib.hid (do_any x hx a b ha hb w)
  have hc := doX_err x a b
  unfold doesN
  generalize doX x a b = r at HD hc ⊢
  obtain ⟨n, er⟩ := r
  simp only at HD hc ⊢
  clear hx ha hb
  rcases hc with rfl | rfl | rfl
  all_goals
    go_enter Tryd.func31, Tryd.ntmps31
    go_wp2_with (first
      | (go_at_call 45; refine HD.out.mono ?_; rintro e w2 ⟨rfl, a2⟩; have A2 := Lib.hid a2; clear a2)
      | (go_at_call 20; refine (num5_any _ _).mono ?_; rintro e w' ⟨rfl, rfl⟩))
    go_ret
    exact ⟨rfl, A2.out⟩
end Go.Proofs.YtooocgnjefbnkaaDoor
