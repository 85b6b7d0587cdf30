/- One part of a site read of bytes: its contract. -/
import Derived.Test.YtnhapmodgmkbjaaDoorW6
import Derived.Test.YtnhapmodgmkbjaaDoorApp
import Derived.Test.YtnhapmodgmkbjaaDoorSMem
import Derived.Test.YtnhapmodgmkbjaaDoorSLib
namespace Go.Proofs.YtnhapmodgmkbjaaDoor
open Go Go.RowKit Go.Shelf Go.Sort

theorem slice_from7 (ao : Option Addr) (len cap i : Nat) (hi : i ≤ len) (w : World) :
    (Instr.slice 37 (.slice ao len cap) (some (.int .i64 (i : Int))) none none).run Tryd.prog w = .ok (.slice (if cap = i then ao else ao.map (·.add (i * 1))) (len - i) (cap - i)) w := by
  have h := run_slice_l (P := Tryd.prog) w 37 ao len cap (by kernel_rfl) .i64 i (by omega) (by omega)
  rw [h]
  have hs : (sizeOf (Tryd.prog.elem 37)).run Tryd.prog w = .ok 1 w := by
    obtain ⟨i0, hi, hz0, hz1, hz2⟩ := info_parts info8
    have e : Tryd.prog.elem 37 = 5 := by kernel_rfl
    rw [e]
    simp [sizeOf, typeInfo, hi, hz1]
  rw [hs]
  simp only [Result.andThen, sliced, Int.toNat_natCast]
theorem rest_bytes {n : Nat} {w : World} {ao : Option Addr} {cap a : Nat} {l : List UInt8} (h : Bytes n w (.slice ao l.length cap) l) (ha : a ≤ l.length) :
    Bytes n w (.slice (if cap = a then ao else ao.map (·.add (a * 1))) (l.length - a) (cap - a)) (l.drop a) := by
  have hc : l.length ≤ cap := by
    obtain ⟨_, _, e, h1, _⟩ := h
    simp only [Value.slice.injEq] at e
    omega
  have := h.sliced a l.length cap ha (Nat.le_refl _) hc (Nat.le_refl _)
  rw [List.take_of_length_le (by simp)] at this
  exact this

set_option maxRecDepth 100000 in
set_option maxHeartbeats 2000000 in
theorem bytes_no (fv : Value) (b : Int) (m : ByteArray) (k : Nat) (hk : k = 1 ∨ k = 2) (v : Value) (l : List UInt8) (hl : l.length < k) (w : World) (hb : Bytes w.heap.size w v l) (hv : Widths w) :
    Calls Tryd.prog 31 #[.agg #[fv, .int .i64 b, .string m, .int .i64 (k : Int)], v] w fun e w' => e = .returned (.tuple #[.int .i64 0, .slice none 0 0, .int .i64 110]) ∧ Adds w w' := by
  have he : rfE l (k : Int) = 110 := by unfold rfE; rw [if_pos (by rcases hk with rfl | rfl <;> decide), if_pos (by simpa using hl)]
  have HB := Lib.hid (fun (W : World) (h : Adds w W) => readFixed_any v l (k : Int) W (hb.below h) (hv.below h))
  rw [he] at HB
  obtain ⟨ao, cap, rfl, _, _, _⟩ := hb
  clear hv hk hl he
  go_enter Tryd.func31, Tryd.ntmps31
  go_wp2_with (go_at_call 48; refine (HB.out _ (Gr.new w _).adds).mono ?_; rintro e w2 ⟨rfl, h1⟩; have H1 := Lib.hid (Adds.trans (Gr.new w _).adds h1); clear h1)
  go_ret3
  exact ⟨rfl, H1.out⟩

set_option maxRecDepth 100000 in
set_option maxHeartbeats 2000000 in
theorem bytes_yes (fv : Value) (b : Int) (m : ByteArray) (k : Nat) (hk : k = 1 ∨ k = 2) (v : Value) (l : List UInt8) (hl : k ≤ l.length) (w : World) (hb : Bytes w.heap.size w v l) (hv : Widths w) :
    Calls Tryd.prog 31 #[.agg #[fv, .int .i64 b, .string m, .int .i64 (k : Int)], v] w fun e w' => ∃ v', e = .returned (.tuple #[.int .i64 ((unB (l.take k) : Nat) : Int), v', .int .i64 0]) ∧ Adds w w' ∧ ∀ n W, Bytes n W v l → Bytes n W v' (l.drop k) := by
  have hmx : Tryd.prog.follows .mixedOrders = true := by kernel_rfl
  have he : rfE l (k : Int) = 0 := by unfold rfE; rw [if_pos (by rcases hk with rfl | rfl <;> decide), if_neg (by simpa using hl)]
  have hn : rfN l (k : Int) = unB (l.take k) := by unfold rfN; rw [if_pos he]; simp
  have hlt : unB (l.take k) < 65536 := by
    have h1 := unB_lt (l.take k)
    have h2 : (l.take k).length = k := by simp; omega
    rw [h2] at h1
    rcases hk with rfl | rfl <;> omega
  have HB := Lib.hid (fun (W : World) (h : Adds w W) => readFixed_any v l (k : Int) W (hb.below h) (hv.below h))
  rw [he, hn] at HB
  obtain ⟨N, hN⟩ : ∃ N, unB (l.take k) = N := ⟨_, rfl⟩
  rw [hN] at HB hlt ⊢
  have ew : IntKind.i64.wrap ((N : Nat) : Int) = N := by rw [IntKind.wrap_i64]; omega
  obtain ⟨ao, cap, rfl, hc1, hc2, hc3⟩ := hb
  have HS := Lib.hid (fun (n : Nat) (W : World) (h : Bytes n W (.slice ao l.length cap) l) => rest_bytes h hl)
  have hsl := slice_from7 ao l.length cap k hl
  obtain ⟨S, hS⟩ : ∃ S, Value.slice (if cap = k then ao else ao.map (·.add (k * 1))) (l.length - k) (cap - k) = S := ⟨_, rfl⟩
  rw [hS] at HS hsl
  have HC := Lib.hid (And.intro hc1 hc2)
  clear hv hk hl he hn hN hlt hS hc1 hc2 hc3
  go_enter Tryd.func31, Tryd.ntmps31
  go_wp2_with (go_at_call 48; refine (HB.out _ (Gr.new w _).adds).mono ?_; rintro e w2 ⟨rfl, h1⟩
               have hb2 : BkS 58 w2 w.heap.size [fv, .int .i64 b, .string m, .int .i64 (k : Int)] := (BkS.new _ _ _).adds h1
               have c3 : w2.cell? ⟨w.heap.size, 3, none⟩ = some (.int .i64 (k : Int)) := hb2.cell 3
               have g3 := grc c3
               have H1 := Lib.hid (Adds.trans (Gr.new w _).adds h1)
               clear h1 hb2)
  go_quiet_grown (fail)
  have HW := Lib.hid (Adds.trans H1.out (Gr.grown w2 nq osq).adds)
  simp only [Exit.then]
  go_simp
  go_wp2_with fail
  go_ret3
  exact ⟨S, rfl, HW.out, HS.out⟩
end Go.Proofs.YtnhapmodgmkbjaaDoor
