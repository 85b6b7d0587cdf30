/- Bytes taken into a sum's bits: step, the folds over bytes and over lists. -/
import Derived.Test.YtleihmmkonakhaaDoorDFun2
namespace Go.Proofs.YtleihmmkonakhaaDoor
open Go Go.RowKit

theorem step_ix {s : Nat} (x : UInt8) : bits .xor .u8 ((s : Int) % 256) (x.toNat : Int) = (((s % 256) ^^^ x.toNat : Nat) : Int) ∧ ((s % 256) ^^^ x.toNat) < 256 := by
  refine ⟨?_, Nat.xor_lt_two_pow (n := 8) (by omega) x.toNat_lt⟩
  have := u8_xor_nat (s % 256) x.toNat (by omega) x.toNat_lt
  rw [← this]
  congr 1
theorem step_out {s T r : Nat} (hs : s < 18446744073709551616) (hT : T < 18446744073709551616) (hr : T ^^^ (s / 256) = r) : bits .xor .u64 (T : Int) ((s : Int) / 256) = (r : Int) := by
  have := u64_xor_nat T (s / 256) hT (by omega)
  rw [← hr, ← this]
  congr 1

theorem step_any (b bits many s : Nat) (hs : U64 s) (x : UInt8) (w : World) (hB : Blk w b (digK 256 bits many)) :
    Calls Tryd.prog 68 #[.pointer (some ⟨b, 0, none⟩), .int .u64 s, .int .u8 x.toNat] w fun e w' => e = .returned (.int .u64 (byS s x)) ∧ w = w' := by
  obtain ⟨h1, h2⟩ := step_ix (s := s) x
  have h3 := byS_tab s x
  obtain ⟨ix, hix⟩ : ∃ ix, (s % 256) ^^^ x.toNat = ix := ⟨_, rfl⟩
  rw [hix] at h1 h2 h3
  obtain ⟨T, hT⟩ : ∃ T, dnK 8 ix = T := ⟨_, rfl⟩
  have hTu : T < 18446744073709551616 := by rw [← hT]; exact dnK_lt 8 (by omega)
  rw [hT] at h3
  have h4 := step_out hs hTu h3.symm
  have hc := (hB.cell ix).trans (digK_tab 256 bits many ix h2)
  rw [show tabV 256 ix = .int .u64 (T : Int) by unfold tabV; rw [if_pos h2, hT]] at hc
  obtain ⟨r, hr⟩ : ∃ r, byS s x = r := ⟨_, rfl⟩
  rw [hr] at h4 ⊢
  clear h3 hix hT hTu hB hr
  have HU := Lib.hid hs; clear hs
  go_enter Tryd.func68, Tryd.ntmps68
  go_wp2
  go_ret
  exact ⟨rfl, rfl⟩

theorem foldS_take (s : Nat) (l : List UInt8) (k : Nat) (h : k < l.length) : byS (foldS s (l.take k)) (l.getD k 0) = foldS s (l.take (k + 1)) := by
  rw [List.take_succ_eq_append_getElem h, foldS_snoc]
  simp [h]

set_option maxHeartbeats 400000 in
theorem foldB_any (b bits many s : Nat) (hs : U64 s) {n : Nat} (v : Value) (l : List UInt8) (w : World) (hv : Bytes n w v l) (hB : Blk w b (digK 256 bits many)) :
    Calls Tryd.prog 67 #[.int .u64 s, v, .func (.func 68) #[.pointer (some ⟨b, 0, none⟩)] #[]] w fun e w' => e = .returned (.int .u64 (foldS s l)) ∧ w = w' := by
  obtain ⟨ao, cap, rfl, h1, h2, h3⟩ := hv
  unfold maxLen at h2
  have HC := Lib.hid h3; clear h3
  have HB := Lib.hid hB; clear hB
  have HS := Lib.hid hs; clear hs
  go_enter Tryd.func67, Tryd.ntmps67
  go_wp2
  go_loop [0, 8, 11] (fun x _ i => ∃ k : Nat, k ≤ l.length ∧ i = .int .i64 k ∧ x = .int .u64 (foldS s (l.take k))) (fun _ _ i => l.length - (intOf i).toNat)
  case atStart => exact ⟨0, Nat.zero_le _, rfl, rfl⟩
  case round =>
    obtain ⟨k, hk, rfl, rfl⟩ := hrel
    by_cases hlt : k < l.length
    · obtain ⟨b1, off, rfl, _, hc1⟩ := HC.out (by rintro rfl; simp at hlt)
      have hcell := hc1 k hlt
      clear hc1
      have hU : U64 (foldS s (l.take k)) := foldS_lt _ HS.out
      have HF := Lib.hid (foldS_take s l k hlt)
      obtain ⟨x, hx⟩ : ∃ x, l.getD k 0 = x := ⟨_, rfl⟩
      rw [hx] at HF hcell
      unfold byteV at hcell
      obtain ⟨y, hy⟩ : ∃ y, foldS s (l.take k) = y := ⟨_, rfl⟩
      rw [hy] at HF hU ⊢
      have HT := Lib.hid (step_any b bits many y hU x w HB.out)
      clear hx hy hU
      go_wp2_with (go_at_call 68; refine HT.out.mono ?_; rintro e w' ⟨rfl, rfl⟩)
      go_round
      case rel => exact ⟨k + 1, by omega, by go_num, int_eq (by rw [HF.out])⟩
      case measure => simp [intOf]; omega
    · go_wp2
      go_ret
      exact ⟨ret_int (by rw [List.take_of_length_le (by omega)]), rfl⟩

theorem list_any (b bits many s : Nat) (hs : U64 s) {n : Nat} (v : Value) (l : List UInt8) (w : World) (hv : Bytes n w v l) (hB : Blk w b (digK 256 bits many)) :
    Calls Tryd.prog 62 #[.pointer (some ⟨b, 0, none⟩), .int .u64 s, v] w fun e w' => e = .returned (.int .u64 (foldS s l)) ∧ w = w' := by
  have HF := Lib.hid (foldB_any b bits many s hs v l w hv hB)
  clear hv hB hs
  go_enter Tryd.func62, Tryd.ntmps62
  go_wp2_with (go_at_call 67; refine HF.out.mono ?_; rintro e w' ⟨rfl, rfl⟩)
  go_ret
  exact ⟨rfl, rfl⟩

/-- v is a slice of slices that read as these lists. -/
def Lists (n : Nat) (w : World) (v : Value) (ls : List (List UInt8)) : Prop :=
  ∃ ao cap, v = .slice ao ls.length cap ∧ ls.length ≤ cap ∧ cap ≤ maxLen ∧
    (ls ≠ [] → ∃ b off, ao = some ⟨b, off, none⟩ ∧ ∀ i, i < ls.length → ∃ u, w.cell? ⟨b, off + i, none⟩ = some u ∧ Bytes n w u (ls.getD i []))

def foldL (s : Nat) (ls : List (List UInt8)) : Nat := ls.foldl foldS s
theorem foldL_flat : ∀ (ls : List (List UInt8)) (s : Nat), foldL s ls = foldS s ls.flatten
  | [], _ => rfl
  | l :: ls, s => by rw [List.flatten_cons, foldS_append, ← foldL_flat ls]; rfl
theorem foldL_lt (ls : List (List UInt8)) {s : Nat} (h : s < 18446744073709551616) : foldL s ls < 18446744073709551616 := by rw [foldL_flat]; exact foldS_lt _ h
theorem foldL_take (s : Nat) (ls : List (List UInt8)) (k : Nat) (h : k < ls.length) : foldS (foldL s (ls.take k)) (ls.getD k []) = foldL s (ls.take (k + 1)) := by
  unfold foldL
  rw [List.take_succ_eq_append_getElem h, List.foldl_append]
  simp [h]

set_option maxHeartbeats 400000 in
theorem foldL_any (b bits many s : Nat) (hs : U64 s) {n : Nat} (v : Value) (ls : List (List UInt8)) (w : World) (hv : Lists n w v ls) (hB : Blk w b (digK 256 bits many)) :
    Calls Tryd.prog 61 #[.int .u64 s, v, .func (.func 62) #[.pointer (some ⟨b, 0, none⟩)] #[]] w fun e w' => e = .returned (.int .u64 (foldL s ls)) ∧ w = w' := by
  obtain ⟨ao, cap, rfl, h1, h2, h3⟩ := hv
  unfold maxLen at h2
  have HC := Lib.hid h3; clear h3
  have HB := Lib.hid hB; clear hB
  have HS := Lib.hid hs; clear hs
  go_enter Tryd.func61, Tryd.ntmps61
  go_wp2
  go_loop [0, 8, 11] (fun x _ i => ∃ k : Nat, k ≤ ls.length ∧ i = .int .i64 k ∧ x = .int .u64 (foldL s (ls.take k))) (fun _ _ i => ls.length - (intOf i).toNat)
  case atStart => exact ⟨0, Nat.zero_le _, rfl, rfl⟩
  case round =>
    obtain ⟨k, hk, rfl, rfl⟩ := hrel
    by_cases hlt : k < ls.length
    · obtain ⟨b1, off, rfl, hc1⟩ := HC.out (by rintro rfl; simp at hlt)
      obtain ⟨u, hcell, hu⟩ := hc1 k hlt
      clear hc1
      have hU : U64 (foldL s (ls.take k)) := foldL_lt _ HS.out
      have HF := Lib.hid (foldL_take s ls k hlt)
      obtain ⟨x, hx⟩ : ∃ x, ls.getD k [] = x := ⟨_, rfl⟩
      rw [hx] at HF hu
      obtain ⟨y, hy⟩ : ∃ y, foldL s (ls.take k) = y := ⟨_, rfl⟩
      rw [hy] at HF hU ⊢
      have HT := Lib.hid (list_any b bits many y hU u x w hu HB.out)
      clear hx hy hU hu
      go_wp2_with (go_at_call 62; refine HT.out.mono ?_; rintro e w' ⟨rfl, rfl⟩)
      go_round
      case rel => exact ⟨k + 1, by omega, by go_num, int_eq (by rw [HF.out])⟩
      case measure => simp [intOf]; omega
    · go_wp2
      go_ret
      exact ⟨ret_int (by rw [List.take_of_length_le (by omega)]), rfl⟩
end Go.Proofs.YtleihmmkonakhaaDoor
