/- unread: its contract. -/
import Derived.Test.YtedllkahalfjgaaWF3
namespace Go.Proofs.Ytedllkahalfjgaa
open Go Go.RowKit

theorem size_int : ∀ W, (sizeOf (Try.prog.elem 41)).run Try.prog W = .ok 1 W := fun W => by
  obtain ⟨i0, hi, hz, hs, hb⟩ := info_parts infoI
  have he : Try.prog.elem 41 = 3 := by kernel_rfl
  rw [he]
  simp [sizeOf, typeInfo, hi, hs]
section
variable (g k n cap : Nat)
theorem cut_lh (p : Nat) (z : Int) (hz : z = (p : Int) + 1) (hp : p + 1 ≤ cap) : ∃ g1 c1, (∀ W, (Instr.slice 41 (.slice (some ⟨g, k, none⟩) n cap) (some (.int .i64 1)) (some (.int .i64 z)) none).run Try.prog W = .ok (.slice g1 p c1) W) ∧ (p ≠ 0 → g1 = some ⟨g, k + 1, none⟩) := by
  refine ⟨if cap = 1 then some ⟨g, k, none⟩ else some ⟨g, k + 1, none⟩, cap - 1, fun W => ?_, fun h => by rw [if_neg (by omega)]⟩
  rw [run_slice_lh (P := Try.prog) W 41 (some ⟨g, k, none⟩) n cap (by kernel_rfl) .i64 .i64 1 z (by decide) (by omega) (by omega), size_int]
  have e : z.toNat = p + 1 := by omega
  simp [Result.andThen, sliced, e, add_lit]
theorem cut_h (p : Nat) (z : Int) (hz : z = (p : Int)) (hp : p ≤ cap) : ∀ W, (Instr.slice 41 (.slice (some ⟨g, k, none⟩) n cap) none (some (.int .i64 z)) none).run Try.prog W = .ok (.slice (some ⟨g, k, none⟩) p cap) W := fun W => by
  rw [run_slice_h (P := Try.prog) W 41 (some ⟨g, k, none⟩) n cap (by kernel_rfl) .i64 z (by omega) (by omega), size_int]
  have e : z.toNat = p := by omega
  simp [Result.andThen, sliced, e, add_lit]
theorem cut_l (hn : 1 ≤ n) : ∀ W, (Instr.slice 41 (.slice (some ⟨g, k, none⟩) n cap) (some (.int .i64 1)) none none).run Try.prog W = .ok (.slice (some (if cap = 1 then ⟨g, k, none⟩ else ⟨g, k + 1, none⟩)) (n - 1) (cap - 1)) W := fun W => by
  rw [run_slice_l (P := Try.prog) W 41 (some ⟨g, k, none⟩) n cap (by kernel_rfl) .i64 1 (by decide) (by omega), size_int]
  by_cases h : cap = 1
  · subst h; simp [Result.andThen, sliced]
  · simp [Result.andThen, sliced, h, add_lit]
end
section
variable {m : Nat} {w : World} {v : Value} {bp bl : Nat} {lv : List LM}
set_option maxRecDepth 100000 in
set_option maxHeartbeats 2000000 in
theorem unread_any (h : LocksP m w v bp bl lv) {i : Nat} {x : LM} (hx : lv[i]? = some x) (by_ : Int) (h0 : x.lk.rd ≠ []) (hm : m ≤ 1000000) :
    Calls Try.prog 73 #[.pointer (some ⟨bl, i * 3, none⟩), .int .i64 by_] w fun e w' => e = .returned (.int .i64 (x.lk.rd.getD (placeL x.lk.rd by_) 0)) ∧ ∃ v', LocksP m w' v bp bl (lv.set i ⟨⟨outL x.lk.rd by_, x.lk.wr⟩, v'⟩) ∧ TnO (ownB bp bl lv) w w' ∧ ∀ k, ownB bp bl (lv.set i ⟨⟨outL x.lk.rd by_, x.lk.wr⟩, v'⟩) k → ownB bp bl lv k ∨ w.heap.size ≤ k := by
  obtain ⟨w1, hw1⟩ : ∃ w1, w.alloc (.cells #[.int .i64 by_] 3) = w1 := ⟨_, rfl⟩
  have A1 := Lib.hid (show Adds w w1 by rw [← hw1]; exact (Gr.new _ _).adds)
  have z0 : w1.cell? ⟨w.heap.size, 0, none⟩ = some (.int .i64 by_) := by rw [← hw1]; simp
  have H1 := Lib.hid (h.adds A1.out)
  have ok := h.ok x (List.mem_of_getElem? hx)
  have LE := Lib.hid (show x.lk.rd.length ≤ 1000000 by have := ok.2.2.2; omega)
  have R0 := H1.out.row i x hx
  obtain ⟨g, k, cap, hsv, hc1, hc2⟩ := R0.some h0
  obtain ⟨c0, _, _⟩ := H1.out.at_ hx
  rw [hsv] at c0 R0
  have HF := Lib.hid (found_any g k cap w.heap.size x.lk.rd by_ w1 R0 z0 LE.out)
  have hp := placeL_lt x.lk.rd by_ h0
  obtain ⟨p, hpp⟩ : ∃ p, placeL x.lk.rd by_ = p := ⟨_, rfl⟩
  obtain ⟨y, hy⟩ : ∃ y, x.lk.rd[p]? = some y := ⟨_, List.getElem?_eq_getElem (by omega)⟩
  have hyv : x.lk.rd.getD (placeL x.lk.rd by_) 0 = y := by rw [hpp, List.getD_eq_getElem?_getD, hy]; rfl
  have cy := R0.cells.2 p y hy
  rw [hpp] at HF hp
  obtain ⟨z, hz⟩ : ∃ z : Int, ((p : Nat) : Int) = z := ⟨_, rfl⟩
  obtain ⟨g1, c1, hs1, hg1⟩ := cut_lh g k x.lk.rd.length cap p (z + 1) (by omega) (by omega)
  have hs2 := cut_h g k x.lk.rd.length cap p z hz.symm (by omega)
  have hs3 := cut_l g k x.lk.rd.length cap (by omega)
  obtain ⟨w2, zc, hmv, hgr, hcut⟩ := run_move (R0.adds (Adds.drew w1)) hp 3 g1 c1 hg1
  have hnb : g ≠ bl := (H1.out.ne_row hx (k := g) (by rw [hsv]; rfl)).2
  have d0 : w2.cell? ⟨bl, i * 3, none⟩ = some (.slice (some ⟨g, k, none⟩) x.lk.rd.length cap) := (World.cell?_of_block (hgr.block bl H1.out.lst.lt (fun e => hnb (Option.some.inj e).symm))).trans c0
  have df : w2.frozen? ⟨bl, i * 3, none⟩ = false := (World.frozen?_of_block (hgr.block bl H1.out.lst.lt (fun e => hnb (Option.some.inj e).symm))).trans (H1.out.lst.free (i * 3))
  have e0 : w1.drew.cell? ⟨bl, i * 3, none⟩ = some (.slice (some ⟨g, k, none⟩) x.lk.rd.length cap) := c0
  have G := Lib.hid ((H1.out.adds (Adds.drew w1)).putR (n := m) (Nat.le_refl m) hx (w1 := w2) (rd' := outL x.lk.rd by_) (by rw [hsv]; exact hgr) (by unfold outL; rw [hpp]; exact hcut)
    ⟨ok.1, ok.2.1, fun r hr => ok.2.2.1 r (outL_mem hr), by have h1 := outL_len by_ h0; have h2 := ok.2.2.2; show (outL x.lk.rd by_).length ≤ m; omega⟩ (fun q hq => .inl (by rw [hsv]; revert hq; split <;> exact id)))
  have HS := Lib.hid (show w.heap.size ≤ w1.heap.size from A1.out.size)
  have hzl : 0 ≤ z := by omega
  have hzn : z < ((x.lk.rd.length : Nat) : Int) := by omega
  have hzm : z ≤ 1000000 := by have := LE.out; omega
  rw [hz] at HF
  have hpz : z.toNat = p := by omega
  rw [hyv]
  obtain ⟨n, hn⟩ : ∃ n, x.lk.rd.length = n := ⟨_, rfl⟩
  simp only [hn] at hs1 hs2 hs3 HF c0 d0 e0 hzn G
  obtain ⟨va, hva⟩ : ∃ va : Addr, (if cap = 1 then (⟨g, k, none⟩ : Addr) else ⟨g, k + 1, none⟩) = va := ⟨_, rfl⟩
  simp only [hva] at hs3 G
  clear h ok hx h0 hm R0 hc1 hc2 hsv hpp hy hyv hgr hcut hnb hg1 hp hz hn hva
  go_enter Try.func73, Try.ntmps73
  go_wp2_with (go_at_call 85; refine HF.out.mono ?_; rintro e w3 ⟨rfl, rfl⟩)
  go_region
  simp only [Exit.then]
  go_wp2
  go_ret
  obtain ⟨e1, e2, e3⟩ := G.out
  exact ⟨rfl, _, e1, (TnO.of_adds _ (Adds.trans A1.out (Adds.drew w1))).trans e2, fun q hq => (e3 q hq).imp id (Nat.le_trans HS.out)⟩
end
end Go.Proofs.Ytedllkahalfjgaa
