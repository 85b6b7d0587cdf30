/- Contracts of package epoch: what is read of a text. -/
import Derived.Test.YtlbloehhmpnkgaaDoorKT2
namespace Go.Proofs.YtlbloehhmpnkgaaDoor
open Go Go.RowKit

theorem six0 (x y : Value) (w : World) : (Instr.index 132 (.agg #[x, y]) (.int .i64 0)).run Tryd.prog w = .ok x w := by kernel_rfl
theorem six1 (x y : Value) (w : World) : (Instr.index 132 (.agg #[x, y]) (.int .i64 1)).run Tryd.prog w = .ok y w := by kernel_rfl

theorem str_data (l : List UInt8) : (str l).data.toList = l := rfl
theorem str_size (l : List UInt8) : (str l).size = l.length := by simp [str, ByteArray.size]
theorem parse_ok (l : List UInt8) (u : Nat) (h : Lib.parseUintB 64 l = .ok u) (hl : l.length ≤ 281474976710656) (w : World) (hv : EpVars w) :
    Calls Tryd.prog 83 #[.string (str l), .int .i64 10, .int .i64 64] w fun e w' => e = .returned (.tuple #[.int .u64 u, .nilIface]) ∧ Below w.heap.size w w' :=
  (parseU_any (str l) (by rw [str_size]; exact hl) w hv).mono fun e w' ⟨hb, h2⟩ => by
    rw [str_data] at h2
    rcases h2 with ⟨u', h3, _, h4⟩ | ⟨h3, _⟩
    · rw [h] at h3; injection h3 with h3; subst h3; exact ⟨h4, hb⟩
    · exact absurd h (h3 u)
theorem parse_bad (l : List UInt8) (h : ∀ u, Lib.parseUintB 64 l ≠ .ok u) (hl : l.length ≤ 281474976710656) (w : World) (hv : EpVars w) :
    Calls Tryd.prog 83 #[.string (str l), .int .i64 10, .int .i64 64] w fun e w' => ∃ (n : Int) (N : Nat), e = .returned (.tuple #[.int .u64 n, .iface 154 (.pointer (some ⟨N, 0, none⟩))]) ∧ Below w.heap.size w w' :=
  (parseU_any (str l) (by rw [str_size]; exact hl) w hv).mono fun e w' ⟨hb, h2⟩ => by
    rw [str_data] at h2
    rcases h2 with ⟨u', h3, _, h4⟩ | ⟨_, n, N, h4⟩
    · exact absurd h3 (h u')
    · exact ⟨n, N, h4, hb⟩
theorem cut_str (s : ByteArray) (a b : List UInt8) (f : Bool) (hc : Lib.cut s.data.toList [64] = (a, b, f)) (hs : s.size < 4294967281) (w : World) (hv : EpVars w) :
    Calls Tryd.prog 82 #[.string s, .string ⟨#[64]⟩] w fun e w' => e = .returned (.tuple #[.string (str a), .string (str b), .bool f]) ∧ Below w.heap.size w w' := by
  have h := cut_any s hs w hv.len
  rw [hc] at h
  exact h
theorem cut_len (s : List UInt8) (a b : List UInt8) (f : Bool) (hc : Lib.cut s [64] = (a, b, f)) : a.length ≤ s.length ∧ b.length ≤ s.length := by
  unfold Lib.cut at hc
  split at hc
  · injection hc with h1 h2
    injection h2 with h2 h3
    rw [← h1, ← h2]
    simp only [List.length_take, List.length_drop]
    omega
  · injection hc with h1 h2
    injection h2 with h2 h3
    rw [← h1, ← h2]
    simp

/-- The two variables of a reading, in blocks of their own. -/
abbrev RW (w : World) (x y : Int) : World := (w.alloc (.cells #[.int .u64 0, .int .u64 0] 92)).alloc (.cells #[.int .u64 x, .int .u64 y] 92)
theorem rw_adds (w : World) (x y : Int) : Adds w (RW w x y) := (adds_b w _).trans ((adds_b _ _).mono (by simp))

theorem set_two {w : World} {b : Nat} {u0 u1 : Value} (h0 : w.cell? ⟨b, 0, none⟩ = some u0) (h1 : w.cell? ⟨b, 1, none⟩ = some u1) (x y : Value) :
    (w.setCell ⟨b, 0, none⟩ x).cell? ⟨b, 0, none⟩ = some x ∧ ((w.setCell ⟨b, 0, none⟩ x).setCell ⟨b, 1, none⟩ y).cell? ⟨b, 1, none⟩ = some y := by
  have h2 : (w.setCell ⟨b, 0, none⟩ x).cell? ⟨b, 1, none⟩ = some u1 := by rw [World.cell?_setCell_other _ _ _ _ (by simp)]; exact h1
  exact ⟨World.cell?_setCell_same _ _ _ h0, World.cell?_setCell_same _ _ _ h2⟩

set_option maxHeartbeats 1000000 in
theorem read_no (s : ByteArray) (a b : List UInt8) (hc : Lib.cut s.data.toList [64] = (a, b, false)) (hs : s.size < 4294967281) (w : World) (hv : EpVars w) :
    Calls Tryd.prog 61 #[.string s] w fun e w' => e = .returned (.tuple #[.agg #[.int .u64 0, .int .u64 0], .bool false]) ∧ Below w.heap.size w w' := by
  have HC := Lib.hid (cut_str s a b false hc hs _ (hv.below (rw_adds w 0 0)))
  clear hc hs hv
  go_enter Tryd.func61, Tryd.ntmps61
  go_wp2_with (go_at_call 82; refine HC.out.mono ?_; rintro e w1 ⟨rfl, b1⟩; have A1 := Lib.hid b1; obtain ⟨hc, hf⟩ := bcell b1; have hz : w.heap.size + 1 < w1.heap.size := (by have := b1.size; simp at this; omega); clear b1)
  have h0 : w1.cell? ⟨w.heap.size, 0, none⟩ = some (.int .u64 0) := by rw [hc _ _ (by simp; try omega)]; simp
  have h1 : w1.cell? ⟨w.heap.size, 1, none⟩ = some (.int .u64 0) := by rw [hc _ _ (by simp; try omega)]; simp
  obtain ⟨f0, f1⟩ := set_two h0 h1 (.int .u64 0) (.int .u64 0)
  exact bodyPost_ret (v := .tuple #[.agg #[.int .u64 0, .int .u64 0], .bool false]) (by simp [results, Tryd.results61, go_sem, f0, f1]) rfl ⟨rfl, (((rw_adds w 0 0).trans A1.out).setCell (by simp) _).setCell (by simp) _⟩

set_option maxHeartbeats 2000000 in
theorem read_bad1 (s : ByteArray) (a b : List UInt8) (hc : Lib.cut s.data.toList [64] = (a, b, true)) (hs : s.size < 4294967281) (w : World) (hv : EpVars w) (hp : ∀ u, Lib.parseUintB 64 a ≠ .ok u) :
    Calls Tryd.prog 61 #[.string s] w fun e w' => e = .returned (.tuple #[.agg #[.int .u64 0, .int .u64 0], .bool false]) ∧ Below w.heap.size w w' := by
  have HV := Lib.hid (hv.below (rw_adds w 0 0))
  have HC := Lib.hid (cut_str s a b true hc hs _ HV.out)
  have hl := cut_len _ _ _ _ hc
  have HP := Lib.hid (fun W hV => parse_bad a hp (by have := Lib.size_eq s; omega) W hV)
  have s0 := six0
  clear hc hs hv hp hl
  go_enter Tryd.func61, Tryd.ntmps61
  go_wp2_with (go_at_call 82; refine HC.out.mono ?_; rintro e w1 ⟨rfl, b1⟩; have V1 := Lib.hid (HV.out.below b1); have A1 := Lib.hid ((rw_adds w 0 0).trans b1); obtain ⟨hc, hf⟩ := bcell b1; have hz : w.heap.size + 1 < w1.heap.size := (by have := b1.size; simp at this; omega); clear b1)
  refine wp_loop_rounds 1 ?_
  rw [rounds_succ]
  have h0 : w1.cell? ⟨w.heap.size, 0, none⟩ = some (.int .u64 0) := by rw [hc _ _ (by simp; try omega)]; simp
  have h1 : w1.cell? ⟨w.heap.size, 1, none⟩ = some (.int .u64 0) := by rw [hc _ _ (by simp; try omega)]; simp
  have g0 : w1.frozen? ⟨w.heap.size, 0, none⟩ = false := by rw [hf _ _ (by simp; try omega)]; simp
  have g1 : w1.frozen? ⟨w.heap.size, 1, none⟩ = false := by rw [hf _ _ (by simp; try omega)]; simp
  clear hc hf
  go_wp2_with (go_at_call 83; refine (HP.out _ V1.out).mono ?_; rintro e w2 ⟨n, N, rfl, b2⟩; have A2 := Lib.hid (A1.out.trans b2); have c0 := (b2.cell (p := ⟨w.heap.size, 0, none⟩) (by simp; omega)).trans h0; have c1 := (b2.cell (p := ⟨w.heap.size, 1, none⟩) (by simp; omega)).trans h1; have d0 := (b2.frozen (p := ⟨w.heap.size, 0, none⟩) (by simp; omega)).trans g0; have d1 := (b2.frozen (p := ⟨w.heap.size, 1, none⟩) (by simp; omega)).trans g1; clear b2)
  obtain ⟨f0, f1⟩ := set_two c0 c1 (.int .u64 0) (.int .u64 0)
  exact bodyPost_ret (v := .tuple #[.agg #[.int .u64 0, .int .u64 0], .bool false]) (by simp [results, Tryd.results61, go_sem, f0, f1]) rfl ⟨rfl, (A2.out.setCell (by simp) _).setCell (by simp) _⟩

/-- A block of two cells that may be written. -/
structure TwoC (w : World) (b : Nat) (x y : Value) : Prop where
  c0 : w.cell? ⟨b, 0, none⟩ = some x
  c1 : w.cell? ⟨b, 1, none⟩ = some y
  f0 : w.frozen? ⟨b, 0, none⟩ = false
  f1 : w.frozen? ⟨b, 1, none⟩ = false
theorem TwoC.below {w w' : World} {b n : Nat} {x y : Value} (h : TwoC w b x y) (hb : Below n w w') (hn : b < n) : TwoC w' b x y :=
  ⟨(hb.cell (p := ⟨b, 0, none⟩) hn).trans h.c0, (hb.cell (p := ⟨b, 1, none⟩) hn).trans h.c1, (hb.frozen (p := ⟨b, 0, none⟩) hn).trans h.f0, (hb.frozen (p := ⟨b, 1, none⟩) hn).trans h.f1⟩
theorem TwoC.adds {w w' : World} {b : Nat} {x y : Value} (h : TwoC w b x y) (ha : Adds w w') : TwoC w' b x y := h.below ha (World.block_lt_of_cell? w _ h.c0)
theorem TwoC.set0 {w : World} {b : Nat} {x y : Value} (h : TwoC w b x y) (u : Value) : TwoC (w.setCell ⟨b, 0, none⟩ u) b u y :=
  ⟨World.cell?_setCell_same _ _ _ h.c0, by rw [World.cell?_setCell_other _ _ _ _ (by simp)]; exact h.c1, by rw [World.frozen?_setCell]; exact h.f0, by rw [World.frozen?_setCell]; exact h.f1⟩
theorem TwoC.set1 {w : World} {b : Nat} {x y : Value} (h : TwoC w b x y) (u : Value) : TwoC (w.setCell ⟨b, 1, none⟩ u) b x u :=
  ⟨by rw [World.cell?_setCell_other _ _ _ _ (by simp)]; exact h.c0, World.cell?_setCell_same _ _ _ h.c1, by rw [World.frozen?_setCell]; exact h.f0, by rw [World.frozen?_setCell]; exact h.f1⟩
theorem TwoC.other {w : World} {b : Nat} {x y : Value} (h : TwoC w b x y) {c o : Nat} (hc : b ≠ c) (u : Value) : TwoC (w.setCell ⟨c, o, none⟩ u) b x y :=
  ⟨by rw [World.cell?_setCell_other _ _ _ _ (by simp)]; exact h.c0, by rw [World.cell?_setCell_other _ _ _ _ (by simp)]; exact h.c1, by rw [World.frozen?_setCell]; exact h.f0, by rw [World.frozen?_setCell]; exact h.f1⟩
theorem rw_r (w : World) : TwoC (RW w 0 0) w.heap.size (.int .u64 0) (.int .u64 0) := by
  refine ⟨?_, ?_, ?_, ?_⟩ <;> simp
theorem rw_p (w : World) : TwoC (RW w 0 0) (w.heap.size + 1) (.int .u64 0) (.int .u64 0) := by
  refine ⟨?_, ?_, ?_, ?_⟩ <;> simp

set_option maxHeartbeats 2000000 in
theorem read_bad2 (s : ByteArray) (a b : List UInt8) (i : Nat) (hc : Lib.cut s.data.toList [64] = (a, b, true)) (hs : s.size < 4294967281) (w : World) (hv : EpVars w) (hp1 : Lib.parseUintB 64 a = .ok i) (hp : ∀ u, Lib.parseUintB 64 b ≠ .ok u) :
    Calls Tryd.prog 61 #[.string s] w fun e w' => e = .returned (.tuple #[.agg #[.int .u64 0, .int .u64 0], .bool false]) ∧ Below w.heap.size w w' := by
  have HE := Lib.hid (fun W (h : Below w.heap.size w W) => hv.below h)
  have HC := Lib.hid (cut_str s a b true hc hs _ (HE.out _ (rw_adds w 0 0)))
  have hl := cut_len _ _ _ _ hc
  have HP1 := Lib.hid (fun W hV => parse_ok a i hp1 (by have := Lib.size_eq s; omega) W hV)
  have HP := Lib.hid (fun W hV => parse_bad b hp (by have := Lib.size_eq s; omega) W hV)
  have s0 := six0
  have s1 := six1
  clear hc hs hv hp hl hp1
  go_enter Tryd.func61, Tryd.ntmps61
  go_wp2_with (go_at_call 82; refine HC.out.mono ?_; rintro e w1 ⟨rfl, b1⟩; have R1 := Lib.hid ((rw_r w).adds b1); have P1 := Lib.hid ((rw_p w).adds b1); have A1 := Lib.hid ((rw_adds w 0 0).trans b1); have hz : w.heap.size + 1 < w1.heap.size := (by have := b1.size; simp at this; omega); clear b1)
  refine wp_loop_rounds 2 ?_
  rw [rounds_succ]
  go_wp2_with (go_at_call 83; refine (HP1.out _ (HE.out _ A1.out)).mono ?_; rintro e w2 ⟨rfl, b2⟩; have A2 := Lib.hid (A1.out.trans b2); have R2 := Lib.hid (R1.out.adds b2); have P2 := Lib.hid (P1.out.adds b2); have c0 := P2.out.c0; have f0 := P2.out.f0; have hz2 : w.heap.size + 1 < w2.heap.size := Nat.lt_of_lt_of_le hz b2.size; clear b2)
  have R3 := Lib.hid (R2.out.other (c := w.heap.size + 1) (o := 0) (by omega) (.int .u64 i))
  have P3 := Lib.hid (P2.out.set0 (.int .u64 i))
  have A3 := Lib.hid (A2.out.setCell (show w.heap.size ≤ (⟨w.heap.size + 1, 0, none⟩ : Addr).block by simp) (.int .u64 i))
  have hz3 : w.heap.size + 1 < (w2.setCell ⟨w.heap.size + 1, 0, none⟩ (.int .u64 i)).heap.size := by simpa using hz2
  clear c0 f0 P2 R2
  generalize w2.setCell ⟨w.heap.size + 1, 0, none⟩ (.int .u64 i) = w3 at *
  rw [rounds_succ]
  go_wp2_with (go_at_call 83; refine (HP.out _ (HE.out _ A3.out)).mono ?_; rintro e w4 ⟨n, N, rfl, b4⟩; have A4 := Lib.hid (A3.out.trans (b4.mono A3.out.size)); have R4 := Lib.hid (R3.out.adds b4); have c0 := R4.out.c0; have c1 := R4.out.c1; have d0 := R4.out.f0; have d1 := R4.out.f1; clear b4)
  obtain ⟨f0, f1⟩ := set_two c0 c1 (.int .u64 0) (.int .u64 0)
  exact bodyPost_ret (v := .tuple #[.agg #[.int .u64 0, .int .u64 0], .bool false]) (by simp [results, Tryd.results61, go_sem, f0, f1]) rfl ⟨rfl, (A4.out.setCell (by simp) _).setCell (by simp) _⟩

set_option maxHeartbeats 2000000 in
theorem read_yes (s : ByteArray) (a b : List UInt8) (i c : Nat) (hc : Lib.cut s.data.toList [64] = (a, b, true)) (hs : s.size < 4294967281) (w : World) (hv : EpVars w) (hp1 : Lib.parseUintB 64 a = .ok i) (hp : Lib.parseUintB 64 b = .ok c) :
    Calls Tryd.prog 61 #[.string s] w fun e w' => e = .returned (.tuple #[.agg #[.int .u64 i, .int .u64 c], .bool true]) ∧ Below w.heap.size w w' := by
  have HE := Lib.hid (fun W (h : Below w.heap.size w W) => hv.below h)
  have HC := Lib.hid (cut_str s a b true hc hs _ (HE.out _ (rw_adds w 0 0)))
  have hl := cut_len _ _ _ _ hc
  have HP1 := Lib.hid (fun W hV => parse_ok a i hp1 (by have := Lib.size_eq s; omega) W hV)
  have HP := Lib.hid (fun W hV => parse_ok b c hp (by have := Lib.size_eq s; omega) W hV)
  have s0 := six0
  have s1 := six1
  clear hc hs hv hp hl hp1
  go_enter Tryd.func61, Tryd.ntmps61
  go_wp2_with (go_at_call 82; refine HC.out.mono ?_; rintro e w1 ⟨rfl, b1⟩; have R1 := Lib.hid ((rw_r w).adds b1); have P1 := Lib.hid ((rw_p w).adds b1); have A1 := Lib.hid ((rw_adds w 0 0).trans b1); have hz : w.heap.size + 1 < w1.heap.size := (by have := b1.size; simp at this; omega); clear b1)
  refine wp_loop_rounds 3 ?_
  rw [rounds_succ]
  go_wp2_with (go_at_call 83; refine (HP1.out _ (HE.out _ A1.out)).mono ?_; rintro e w2 ⟨rfl, b2⟩; have A2 := Lib.hid (A1.out.trans b2); have R2 := Lib.hid (R1.out.adds b2); have P2 := Lib.hid (P1.out.adds b2); have c0 := P2.out.c0; have f0 := P2.out.f0; have hz2 : w.heap.size + 1 < w2.heap.size := Nat.lt_of_lt_of_le hz b2.size; clear b2)
  have R3 := Lib.hid (R2.out.other (c := w.heap.size + 1) (o := 0) (by omega) (.int .u64 i))
  have P3 := Lib.hid (P2.out.set0 (.int .u64 i))
  have A3 := Lib.hid (A2.out.setCell (show w.heap.size ≤ (⟨w.heap.size + 1, 0, none⟩ : Addr).block by simp) (.int .u64 i))
  have hz3 : w.heap.size + 1 < (w2.setCell ⟨w.heap.size + 1, 0, none⟩ (.int .u64 i)).heap.size := by simpa using hz2
  clear c0 f0 P2 R2
  generalize w2.setCell ⟨w.heap.size + 1, 0, none⟩ (.int .u64 i) = w3 at *
  rw [rounds_succ]
  go_wp2_with (go_at_call 83; refine (HP.out _ (HE.out _ A3.out)).mono ?_; rintro e w4 ⟨rfl, b4⟩; have A4 := Lib.hid (A3.out.trans (b4.mono A3.out.size)); have R4 := Lib.hid (R3.out.adds b4); have P4 := Lib.hid (P3.out.adds b4); have c1 := P4.out.c1; have f1 := P4.out.f1; clear b4)
  have R5 := Lib.hid (R4.out.other (c := w.heap.size + 1) (o := 1) (by omega) (.int .u64 c))
  have P5 := Lib.hid (P4.out.set1 (.int .u64 c))
  have A5 := Lib.hid (A4.out.setCell (show w.heap.size ≤ (⟨w.heap.size + 1, 1, none⟩ : Addr).block by simp) (.int .u64 c))
  clear c1 f1 P4 R4
  generalize w4.setCell ⟨w.heap.size + 1, 1, none⟩ (.int .u64 c) = w5 at *
  rw [rounds_succ]
  have k0 := P5.out.c0
  have k1 := P5.out.c1
  have c0 := R5.out.c0
  have c1 := R5.out.c1
  have d0 := R5.out.f0
  have d1 := R5.out.f1
  go_wp2
  obtain ⟨f0, f1⟩ := set_two c0 c1 (.int .u64 i) (.int .u64 c)
  exact bodyPost_ret (v := .tuple #[.agg #[.int .u64 i, .int .u64 c], .bool true]) (by simp [results, Tryd.results61, go_sem, f0, f1]) rfl ⟨rfl, (A5.out.setCell (by simp) _).setCell (by simp) _⟩
end Go.Proofs.YtlbloehhmpnkgaaDoor
