/- The iterator over a page's words: its contract, at the wide fence. -/
import Derived.Test.YtleihmmkonakhaaDoorMMem
import Derived.Test.YtleihmmkonakhaaDoorKeep
import Derived.Test.YtleihmmkonakhaaDoorSeqS
import Derived.Test.YtleihmmkonakhaaDoorMF3
namespace Go.Proofs.YtleihmmkonakhaaDoor
open Go Go.RowKit Go.Shelf
attribute [local go_sem] Oper.semAt_some

/-- The words that are not 0 at the n places from lo on, each with its place. -/
def nz (f : Nat → Nat) (lo : Nat) : Nat → List (Nat × Nat)
  | 0 => []
  | n + 1 => nz f lo n ++ if f (lo + n) = 0 then [] else [(lo + n, f (lo + n))]
theorem nz_add (f : Nat → Nat) (lo n : Nat) : ∀ m, nz f lo (n + m) = nz f lo n ++ nz f (lo + n) m
  | 0 => by simp [nz]
  | m + 1 => by
    show nz f lo (n + m) ++ _ = nz f lo n ++ (nz f (lo + n) m ++ _)
    rw [nz_add f lo n m, List.append_assoc, Nat.add_assoc lo n m]
    rfl
theorem nz_yes (f : Nat → Nat) (lo n : Nat) (h : f (lo + n) ≠ 0) : nz f lo (n + 1) = nz f lo n ++ [(lo + n, f (lo + n))] := by simp [nz, h]
theorem nz_no (f : Nat → Nat) (lo n : Nat) (h : f (lo + n) = 0) : nz f lo (n + 1) = nz f lo n := by simp [nz, h]
/-- All that a page's words from a place on are. -/
def nzP (f : Nat → Nat) (lo : Nat) : List (Nat × Nat) := nz f lo (4096 - lo)
theorem nzP_split (f : Nat → Nat) (lo k : Nat) (h : lo + k < 4096) (hf : f (lo + k) ≠ 0) : ∃ r, nzP f lo = nz f lo k ++ (lo + k, f (lo + k)) :: r := by
  obtain ⟨m, hm⟩ : ∃ m, 4096 - lo = (k + 1) + m := ⟨4096 - lo - (k + 1), by omega⟩
  unfold nzP
  rw [hm, nz_add f lo (k + 1) m, nz_yes f lo k hf]
  exact ⟨_, by rw [List.append_assoc]; rfl⟩
abbrev cellV (x : Nat × Nat) : Array Value := #[.int .u32 ((x.1 : Nat) : Int), .int .u32 ((x.2 : Nat) : Int)]
/-- What is still to come: x, and all behind it. -/
def NextOf (full pre : List (Nat × Nat)) (x : Nat × Nat) : Prop := ∃ r, full = pre ++ x :: r
def PreOf (full pre : List (Nat × Nat)) : Prop := ∃ r, full = pre ++ r

theorem PBlk.keep {M : Nat → Prop} {W W' : World} {c : Nat} {f : Nat → Nat} {n : Nat} (h : PBlk W c f n) (hk : KeepC M W W') (hc : ¬ M c) : PBlk W' c f n := hk c _ _ _ hc h

set_option maxRecDepth 100000 in
set_option maxHeartbeats 4000000 in
theorem page1_in (B n : Nat) (hn : 1 ≤ n) (l B1 B2 : Nat) (M : Nat → Prop) (c cn lo : Nat) (f : Nat → Nat) (hlo : lo ≤ 4096) (hf : ∀ i, f i < 4294967296) (J Jx : List (Nat × Nat) → World → Prop)
    (hY : ∀ pre x W, J pre W → NextOf (nzP f lo) pre x → YieldAt Fence.wide (n - 1) Tryd.prog l (cellV x) W fun e W' =>
      (e = .returned (.bool true) ∧ J (pre ++ [x]) W' ∧ KeepC M W W' ∧ KeepsFrom B W W') ∨ (e = .returned (.bool false) ∧ Jx (pre ++ [x]) W' ∧ KeepsFrom B W W'))
    (W : World) (hB1 : ¬ M B1) (hB2 : ¬ M B2) (hc : ¬ M c) (c1 : W.cell? ⟨B1, 0, none⟩ = some (.int .u32 ((lo : Nat) : Int))) (c2 : W.cell? ⟨B2, 0, none⟩ = some (.pointer (some ⟨c, 0, none⟩))) (hP : PBlk W c f cn) (h0 : J [] W) :
    CallsIn Fence.wide n Tryd.prog 63 #[.func (.yield l) #[] #[], .pointer (some ⟨B1, 0, none⟩), .pointer (some ⟨B2, 0, none⟩)] W fun e W' => (∃ v, e = .returned v) ∧
      ((∃ xs, xs = nzP f lo ∧ J xs W') ∨ (∃ pre, PreOf (nzP f lo) pre ∧ Jx pre W')) := by
  have HY := Lib.hid hY; clear hY
  have HM1 := Lib.hid hB1; have HM2 := Lib.hid hB2; have HMc := Lib.hid hc
  have HP := Lib.hid hP
  have HLo := Lib.hid hlo
  clear hB1 hB2 hc hP hlo
  refine callsIn_of_wp Tryd.func63 rfl trivial ?_ rfl
  simp only [Tryd.ntmps63, List.size_toArray, List.length_cons, List.length_nil, Nat.reduceAdd, Nat.reduceSub, Array.replicate_succ, Array.replicate_zero, List.push_toArray, List.append_toArray, List.nil_append, List.cons_append]
  gi_wp2
  gi_loopw [4] (fun i wr => ∃ k a : Nat, i = .int .u32 ((a : Nat) : Int) ∧ a = lo + k ∧ a ≤ 4096 ∧ J (nz f lo k) wr ∧ KeepC M W wr) (fun i _ => 4097 - (intOf i).toNat)
  case atStart => exact ⟨0, lo, rfl, rfl, HLo.out, h0, KeepC.refl _ _⟩
  case round =>
    obtain ⟨k, a, rfl, hak, hal, hJs, hnx⟩ := hrel
    have HX := Lib.hid hnx; have HJs := Lib.hid hJs; have HAK := Lib.hid hak; have HAL := Lib.hid hal
    clear hnx hJs hak hal
    have d2 : wr.cell? ⟨B2, 0, none⟩ = some (.pointer (some ⟨c, 0, none⟩)) := HX.out.cell HM2.out c2
    by_cases hlt : a < 4096
    · have d3 := (HP.out.keep HX.out HMc.out).cell a hlt
      have ha1 : (a : Int) < 4096 := by omega
      have HLt := Lib.hid hlt
      clear hlt
      by_cases hz : f a = 0
      · rw [hz] at d3
        have e1 : IntKind.u32.wrap ((a : Int) + 1) = ((a + 1 : Nat) : Int) := by rw [IntKind.wrap_u32]; omega
        have HZ := Lib.hid (show nz f lo (k + 1) = nz f lo k from nz_no f lo k (by rw [← HAK.out]; exact hz))
        clear hz
        gi_wp2
        refine ⟨fun _ hf => (by cases hf), ?_⟩
        gi_wp2
        go_roundw
        case rel => exact ⟨k + 1, a + 1, by first | rfl | go_num, by have := HAK.out; omega, by have := HLt.out; omega, by rw [HZ.out]; exact HJs.out, HX.out⟩
        case measure => simp [intOf]; have := HLt.out; omega
      · have HZ := Lib.hid (show nz f lo (k + 1) = nz f lo k ++ [(a, f a)] by have := nz_yes f lo k (by rw [← HAK.out]; exact hz); rwa [← HAK.out] at this)
        have HN := Lib.hid (show NextOf (nzP f lo) (nz f lo k) (a, f a) by
          have h1 := nzP_split f lo k (by rw [← HAK.out]; exact HLt.out) (by rw [← HAK.out]; exact hz)
          rw [← HAK.out] at h1
          exact h1)
        have HFb := Lib.hid (hf a)
        have hz' : ¬ ((f a : Nat) : Int) = 0 := by omega
        obtain ⟨y, hy⟩ : ∃ y, f a = y := ⟨_, rfl⟩
        rw [hy] at d3 hz' HZ HN
        clear hz hy
        obtain ⟨fn, tmps, assign, body, hyd, hR⟩ := HY.out _ (a, y) wr HJs.out HN.out
        dsimp only [cellV] at hyd
        gi_wp2
        refine hR.mono ?_
        rintro e W3 (⟨rfl, hJ3, hk3, _⟩ | ⟨rfl, hJx3, _⟩)
        · have HJ3 := Lib.hid hJ3; clear hJ3
          have HX3 := Lib.hid (HX.out.trans hk3); clear hk3
          have e1 : IntKind.u32.wrap ((a : Int) + 1) = ((a + 1 : Nat) : Int) := by rw [IntKind.wrap_u32]; omega
          gi_wp2
          go_roundw
          case rel => exact ⟨k + 1, a + 1, by first | rfl | go_num, by have := HAK.out; omega, by have := HLt.out; omega, by rw [HZ.out]; exact HJ3.out, HX3.out⟩
          case measure => simp [intOf]; have := HLt.out; omega
        · have HJ3 := Lib.hid hJx3; clear hJx3
          gi_wp2
          refine bodyPost_ret (results_none rfl _ _ _) rfl ?_
          refine ⟨⟨_, rfl⟩, .inr ⟨_, ?_, HJ3.out⟩⟩
          obtain ⟨r, hr⟩ := HN.out
          exact ⟨r, by rw [hr, List.append_assoc]; rfl⟩
    · obtain rfl : a = 4096 := by have := HAL.out; omega
      gi_wp2
      go_end0
      refine ⟨⟨_, rfl⟩, .inl ⟨_, ?_, HJs.out⟩⟩
      unfold nzP
      rw [show 4096 - lo = k by have := HAK.out; omega]

theorem pageFrom_any (c a : Nat) (w : World) :
    Calls Tryd.prog 50 #[.pointer (some ⟨c, 0, none⟩), .int .u32 ((a : Nat) : Int)] w fun e w' =>
      e = .returned (.func (.func 63) #[] #[.pointer (some ⟨w.heap.size + 1, 0, none⟩), .pointer (some ⟨w.heap.size, 0, none⟩)]) ∧
      (w.alloc (.cells #[.pointer (some ⟨c, 0, none⟩)] 62)).alloc (.cells #[.int .u32 ((a : Nat) : Int)] 29) = w' := by
  go_enter Tryd.func50, Tryd.ntmps50
  go_wp2
  go_ret
  exact ⟨rfl, rfl⟩
theorem pagesFrom_any (b : Option Nat) (a : Nat) (w : World) :
    Calls Tryd.prog 37 #[.map b, .int .u32 ((a : Nat) : Int)] w fun e w' =>
      e = .returned (.func (.func 49) #[] #[.pointer (some ⟨w.heap.size, 0, none⟩), .pointer (some ⟨w.heap.size + 1, 0, none⟩)]) ∧
      (w.alloc (.cells #[.map b] 50)).alloc (.cells #[.int .u32 ((a : Nat) : Int)] 29) = w' := by
  go_enter Tryd.func37, Tryd.ntmps37
  go_wp2
  go_ret
  exact ⟨rfl, rfl⟩
end Go.Proofs.YtleihmmkonakhaaDoor
