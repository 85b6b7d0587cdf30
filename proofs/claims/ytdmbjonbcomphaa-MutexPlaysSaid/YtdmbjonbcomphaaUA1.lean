/- act: its contract. -/
import Derived.Test.YtdmbjonbcomphaaUFr
import Derived.Test.YtdmbjonbcomphaaUR3
import Derived.Test.YtdmbjonbcomphaaUF5
import Derived.Test.YtdmbjonbcomphaaUL0
namespace Go.Proofs.Ytdmbjonbcomphaa
open Go Go.RowKit Go.Maps

def kindL (a : Int) : Nat := if 0 ≤ a ∧ a ≤ 3 then 0 else if a = 4 ∨ a = 5 then 1 else 2
/-- What a call makes of it. -/
def stepA (l : List Int) (x : A3) : List Int := if kindL x.1 = 0 then lockL l x.2.1 x.2.2 else if kindL x.1 = 1 then unlockL l x.2.1 else l
def ActGo (w : World) (b : Nat) (l' : List Int) (e : Ending) (w' : World) : Prop :=
  ∃ v' bp' b' u', e = .returned (.tuple #[v', u', .bool true]) ∧ MutP w' v' bp' b' l' ∧ RefM w' u' l' ∧ TnS b w w' ∧ (b' = b ∨ w.heap.size ≤ b')
theorem TnS.set2 {b c : Nat} {u v : World} (h : TnS b u v) (hc : u.heap.size ≤ c) (i : Nat) (x : Value) : TnS b u (v.setCell ⟨c, i, none⟩ x) :=
  ⟨h.os, h.tape, h.output, by simpa [World.setCell] using h.size, fun k hk hb => (Below.heap_setCell v _ _ _ (fun e => by have e1 : k = c := e; omega)).trans (h.block k hk hb)⟩
theorem res_mid {P : Program} {fn : Func} {p q r : Tmp} {ty : TypeId} (h : fn.results = #[.tmp q, .cell p ty, .tmp r]) (tmps : Array Value) (w : World) (g : Nat) (cs : Array Value) (t : TypeId) (fr : Nat × Nat) (d : TypeDesc) (hp : tmps.getD p undef = .pointer (some ⟨g, 0, none⟩))
    (hg : w.heap[g]? = some (.cells cs t fr)) (hu : P.underlying ty = some d) (hd : (match d with | .struct _ | .array _ _ => true | _ => false) = true) (hi : (P.info? ty).map (·.size) = some cs.size) : (results fn tmps).run P w = .ok (.tuple #[tmps.getD q undef, .agg cs, tmps.getD r undef]) w := by
  have hp' : tmps[p]?.getD undef = .pointer (some ⟨g, 0, none⟩) := by simpa using hp
  simp [results, h, hp', asAddr, run_loadVar_row (P := P) w g t ty cs fr d hg hu hd hi]
set_option maxRecDepth 100000 in
set_option maxHeartbeats 8000000 in
theorem act_copy (v u : Value) (bp b : Nat) (l : List Int) (a i c : Int) (hk : kindL a = 2) (w : World) (hM : MutP w v bp b l) (hR : RefM w u l) :
    Calls Try.prog 11 #[v, u, .agg #[.int .i64 a, .int .i64 i, .int .i64 c]] w (ActGo w b l) := by
  have hcs : (a == 0) = false ∧ (a == 1) = false ∧ (a == 2) = false ∧ (a == 3) = false ∧ (a == 4) = false ∧ (a == 5) = false := by
    unfold kindL at hk
    split at hk
    · omega
    · split at hk
      · omega
      · simp only [beq_eq_false_iff_ne]; omega
  obtain ⟨k0, k1, k2, k3, k4, k5⟩ := hcs
  clear hk
  obtain ⟨g, cap, rfl⟩ := hR.val
  obtain ⟨w1, hw1⟩ : ∃ w1, w.alloc (.cells #[.slice (some ⟨g, 0, none⟩) l.length cap] 30) = w1 := ⟨_, rfl⟩
  obtain ⟨w2, hw2⟩ : ∃ w2, w1.alloc (.cells #[.int .i64 a, .int .i64 i, .int .i64 c] 37) = w2 := ⟨_, rfl⟩
  obtain ⟨w3, hw3⟩ : ∃ w3, w2.alloc (.cells #[.slice none 0 0] 30) = w3 := ⟨_, rfl⟩
  have a1 : Adds w w1 := by rw [← hw1]; exact (Gr.new _ _).adds
  have a2 : Adds w1 w2 := by rw [← hw2]; exact (Gr.new _ _).adds
  have a3 : Adds w2 w3 := by rw [← hw3]; exact (Gr.new _ _).adds
  obtain ⟨n0, hn0⟩ : ∃ n0, w.heap.size = n0 := ⟨_, rfl⟩
  obtain ⟨n1, hn1⟩ : ∃ n1, w1.heap.size = n1 := ⟨_, rfl⟩
  obtain ⟨n2, hn2⟩ : ∃ n2, w2.heap.size = n2 := ⟨_, rfl⟩
  have HS := Lib.hid (show n0 = w.heap.size ∧ n1 = w.heap.size + 1 ∧ n2 = w.heap.size + 2 by rw [← hn0, ← hn1, ← hn2, ← hw2, ← hw1]; simp)
  have x0 : BkS 30 w3 n0 [.slice (some ⟨g, 0, none⟩) l.length cap] := by
    have h := BkS.new 30 w [.slice (some ⟨g, 0, none⟩) l.length cap]
    rw [hw1, hn0] at h
    exact (h.adds a2).adds a3
  have x1 : BkS 37 w3 n1 [.int .i64 a, .int .i64 i, .int .i64 c] := by
    have h := BkS.new 37 w1 [.int .i64 a, .int .i64 i, .int .i64 c]
    rw [hw2, hn1] at h
    exact h.adds a3
  have x2 : BkS 30 w3 n2 [.slice none 0 0] := by
    have h := BkS.new 30 w2 [.slice none 0 0]
    rw [hw3, hn2] at h
    exact h
  have HA := Lib.hid (Adds.trans a1 (Adds.trans a2 a3))
  have HM := Lib.hid (hM.adds HA.out)
  have HR := Lib.hid (hR.adds HA.out)
  have X0 := Lib.hid x0; have X1 := Lib.hid x1; have X2 := Lib.hid x2
  have c0 : w3.cell? ⟨n0, 0, none⟩ = some (.slice (some ⟨g, 0, none⟩) l.length cap) := x0.cell 0
  have d0 : w3.cell? ⟨n1, 0, none⟩ = some (.int .i64 a) := x1.cell 0
  have d1 : w3.cell? ⟨n1, 1, none⟩ = some (.int .i64 i) := x1.cell 1
  have d2 : w3.cell? ⟨n1, 2, none⟩ = some (.int .i64 c) := x1.cell 2
  have e0 : w3.cell? ⟨n2, 0, none⟩ = some (.slice none 0 0) := x2.cell 0
  have f0 := x2.free 0
  have HBs := Lib.hid hM.map.lt
  have h02 : ¬ n0 = n2 := by have := HS.out; omega
  have h20 : ¬ n2 = n0 := by have := HS.out; omega
  have h12 : ¬ n1 = n2 := by have := HS.out; omega
  have h21 : ¬ n2 = n1 := by have := HS.out; omega
  clear a1 a2 a3 x0 x1 x2 hM hR
  go_enter Try.func11, Try.ntmps11
  go_wp2
  have cq : w3.drew.cell? ⟨n0, 0, none⟩ = some (.slice (some ⟨g, 0, none⟩) l.length cap) := c0
  have HC := Lib.hid (copyU_any v bp b l w3.drew (HM.out.adds (Adds.drew w3)))
  go_region_with (go_at_call 13; refine HC.out.mono ?_; rintro e w4 ⟨v', bp', b', rfl, h1, h2, h3, h4⟩; have h5 := Adds.trans (Adds.drew w3) h4; have p0 : w4.cell? ⟨n0, 0, none⟩ = some (.slice (some ⟨g, 0, none⟩) l.length cap) := (X0.out.adds h5).cell 0; have q0 : w4.cell? ⟨n2, 0, none⟩ = some (.slice none 0 0) := (X2.out.adds h5).cell 0; have r0 := (X2.out.adds h5).free 0; have H1 := Lib.hid h1; have H3 := Lib.hid h3; have H5 := Lib.hid h5; clear h1 h2 h3 h4 h5)
  all_goals
    simp only [Exit.then]
    go_simp
    go_wp2
    have hX := X2.out.adds H5.out
    refine bodyPost_ret (res_mid rfl _ _ _ _ _ _ _ rfl (hX.set 0 (.slice (some ⟨g, 0, none⟩) l.length cap)) Try.underlying30 rfl (by kernel_rfl)) rfl ?_
    have hs3 : w3.drew.heap.size = w3.heap.size := rfl
    exact ⟨_, bp', b', _, rfl, H1.out.far hX (by decide) 0 _, (HR.out.adds H5.out).far hX 0 _, TnS.of_adds b (Adds.set (Adds.trans HA.out H5.out) (by have := HS.out; omega) 0 _), .inr (by have := H3.out; have := HA.out.size; omega)⟩
end Go.Proofs.Ytdmbjonbcomphaa
