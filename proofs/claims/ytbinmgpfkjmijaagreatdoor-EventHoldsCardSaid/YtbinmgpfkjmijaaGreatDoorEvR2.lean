/- Reading an event of whose Kind there is none: contracts. -/
import Derived.Test.YtbinmgpfkjmijaaGreatDoorEvR1
namespace Go.Proofs.YtbinmgpfkjmijaaGreatDoor
open Go Go.RowKit Go.Shelf

abbrev zE : Ev := ⟨0, 0, 0, 0, 0, 0, 0, 0, 0⟩
theorem res_box2t {P : Program} {fn : Func} {p q s : Tmp} {ty tz : TypeId} (h : fn.results = #[.cell p ty, .tmp q, .cell s tz]) (tmps : Array Value) (w : World) (g : Nat) (cs : Array Value) (t : TypeId) (fr : Nat × Nat) (d : TypeDesc) (hp : tmps.getD p undef = .pointer (some ⟨g, 0, none⟩))
    (hg : w.heap[g]? = some (.cells cs t fr)) (hu : P.underlying ty = some d) (hd : (match d with | .struct _ | .array _ _ => true | _ => false) = true) (hi : (P.info? ty).map (·.size) = some cs.size)
    (g2 : Nat) (v : Value) (hs : tmps.getD s undef = .pointer (some ⟨g2, 0, none⟩)) (hv : (loadVar tz ⟨g2, 0, none⟩).run P w = .ok v w) : (results fn tmps).run P w = .ok (.tuple #[.agg cs, tmps.getD q undef, v]) w := by
  have hp' : tmps[p]?.getD undef = .pointer (some ⟨g, 0, none⟩) := by simpa using hp
  have hs' : tmps[s]?.getD undef = .pointer (some ⟨g2, 0, none⟩) := by simpa using hs
  simp [results, h, hp', hs', asAddr, run_loadVar_row (P := P) w g t ty cs fr d hg hu hd hi, hv]
theorem wf_small (m : Nat) (h : m < 256) : (Lit.int .i64 (m : Int)).wf = true := by
  have h1 : IntKind.i64.min = -9223372036854775808 := by decide
  have h2 : IntKind.i64.max = 9223372036854775807 := by decide
  simp [Lit.wf, h1, h2]
  omega
set_option maxRecDepth 100000 in
set_option maxHeartbeats 4000000 in
theorem eventR_none {n : Nat} (br : Nat) (v : Value) (b0 : UInt8) (l : List UInt8) (hb0 : ¬ (1 ≤ b0.toNat ∧ b0.toNat ≤ 14)) (w : World) (hn : n ≤ w.heap.size) (hv : Bytes n w v (b0 :: l)) (hw : Widths w) (hr : BkS 84 w br (rdE v 0 false)) :
    Calls Tryz.prog 48 #[.pointer (some ⟨br, 0, none⟩)] w fun e w' => e = .panicked [{ v := .iface 97 (.int .i64 260), recovered := false }] ∧ TnS br w w' := by
  have hmx : Tryz.prog.follows .mixedOrders = true := by kernel_rfl
  obtain ⟨w1, hw1⟩ : ∃ w1, w.alloc (.cells (evC zE).toArray 28) = w1 := ⟨_, rfl⟩
  have HA1 := Lib.hid (show Adds w w1 by rw [← hw1]; exact (Gr.new _ _).adds)
  have HB1 := Lib.hid (show BkS 28 w1 w.heap.size (evC zE) by rw [← hw1]; exact BkS.new _ _ _)
  have hN := number_any br 1 (.inl rfl) v (b0 :: l) 0 (by simp) false w1 (Nat.le_trans hn HA1.out.size) (hv.below (HA1.out.mono hn)) (hw.below HA1.out) (hr.adds HA1.out)
  rw [show decide (¬ ((b0 :: l).drop 0).length < 1) = true by simp, rfN_is16 ((b0 :: l).drop 0) (.inl rfl) (by simp)] at hN
  have e1 : unB (((b0 :: l).drop 0).take 1) = b0.toNat := by simp [unB]
  rw [e1] at hN
  have HN := Lib.hid (show Calls Tryz.prog 78 #[.pointer (some ⟨br, 0, none⟩), .int .i64 1] w1 fun e w' => e = .returned (.int .i64 (b0.toNat : Nat)) ∧ BkS 84 w' br (rdE v (0 + 1) false) ∧ TnS br w1 w' from hN.mono fun e w' h => by simpa [NumPostE] using h)
  have hm : b0.toNat < 256 := b0.toNat_lt
  obtain ⟨m, hmm⟩ : ∃ m, b0.toNat = m := ⟨_, rfl⟩
  rw [hmm] at HN hb0 hm
  have HK := Lib.hid (show (Lit.int .i64 (m : Int)).wf = true ∧ ¬ (1 ≤ (m : Int) ∧ (m : Int) ≤ 14) from ⟨wf_small m hm, by omega⟩)
  clear hN e1 hmm hb0 hm hv hw
  go_enter Tryz.func48, Tryz.ntmps48
  go_wp2_with (go_at_call 78; refine HN.out.mono ?_; rintro e w2 ⟨rfl, q1, q2⟩; have HT2 := Lib.hid q2; clear q1 q2)
  obtain ⟨n3, hn3⟩ : ∃ n3, w2.heap.size = n3 := ⟨_, rfl⟩
  obtain ⟨w3, hw3⟩ : ∃ w3, w2.alloc (.cells (evC ⟨0, (m : Int), 0, 0, 0, 0, 0, 0, 0⟩).toArray 28) = w3 := ⟨_, rfl⟩
  have HA3 := Lib.hid (show Adds w2 w3 by rw [← hw3]; exact (Gr.new _ _).adds)
  have HB3 := Lib.hid (show BkS 28 w3 n3 (evC ⟨0, (m : Int), 0, 0, 0, 0, 0, 0, 0⟩) by rw [← hw3, ← hn3]; exact BkS.new _ _ _)
  rw [hw3, hn3]
  clear hw3 hn3 hw1
  have i1 : w3.drew.cell? ⟨n3, 1, none⟩ = some (.int .i64 (m : Nat)) := (HB3.out.adds (Adds.drew _)).cell 1
  have ln : n3 < w3.drew.heap.size := (HB3.out.adds (Adds.drew _)).lt
  refine wp_calmS ?_
  go_region_with (go_at_call 61; refine (named_any _).mono ?_; rintro e w4 ⟨b9, rfl, _, hN, hA⟩; have hl := look_none hN m HK.out.1 HK.out.2 w4 (Adds.refl _); have HA4 := Lib.hid (Adds.trans (Adds.drew _) hA); have HB4 := Lib.hid (HB3.out.adds (Adds.trans (Adds.drew _) hA)); have j1 : w4.cell? ⟨n3, 1, none⟩ = some (.int .i64 (m : Nat)) := HB4.out.cell 1; have ln2 : n3 < w4.heap.size := HB4.out.lt; clear hN hA)
  all_goals (simp only [Exit.then]; go_simp)
  all_goals (
    go_wp2
    exact ⟨rfl, ⟨rfl, ((TnS.of_adds br HA1.out).trans HT2.out).trans (TnS.of_adds br (Adds.trans HA3.out HA4.out))⟩⟩)
set_option maxRecDepth 100000 in
set_option maxHeartbeats 4000000 in
/-- Read, where there is no such Kind. -/
theorem read_none {n : Nat} (v : Value) (b0 : UInt8) (l : List UInt8) (hb0 : ¬ (1 ≤ b0.toNat ∧ b0.toNat ≤ 14)) (w : World) (hn : n ≤ w.heap.size) (hv : Bytes n w v (b0 :: l)) (hw : Widths w) :
    Calls Tryz.prog 17 #[v] w fun e w' => e = .returned (.tuple #[evV zE, .int .i64 0, .int .i64 260]) ∧ Adds w w' := by
  have hmf : ∀ (fn : Fn) (first cap : Array Value) (w : World), (Instr.makeFunc fn first cap).run Tryz.prog w = .ok (.func fn first cap) w := fun _ _ _ _ => rfl
  obtain ⟨w1, hw1⟩ : ∃ w1, (w.alloc (.cells (evC zE).toArray 28)).alloc (.cells #[.int .i64 0] 30) = w1 := ⟨_, rfl⟩
  have HA1 := Lib.hid (show Adds w w1 by rw [← hw1]; exact ((Gr.new _ _).alloc _).adds)
  have HB1 := Lib.hid (show BkS 28 w1 w.heap.size (evC zE) by rw [← hw1]; exact (BkS.new _ _ _).adds (Gr.new _ _).adds)
  have HB2 := Lib.hid (show BkS 30 w1 (w.heap.size + 1) [.int .i64 0] by rw [← hw1]; unfold BkS; exact heap_new1 _ _ _)
  have HS1 := Lib.hid (show w1.heap.size = w.heap.size + 1 + 1 by rw [← hw1]; simp)
  obtain ⟨ao, cap, hvv, _, _, _⟩ := id hv
  subst hvv
  have HV := Lib.hid hv
  have HW := Lib.hid hw
  clear hw hv
  go_enter_defers Tryz.func17, Tryz.ntmps17
  go_wp2_with fail
  obtain ⟨n3, hn3⟩ : ∃ n3, w1.heap.size = n3 := ⟨_, rfl⟩
  obtain ⟨w2, hw2⟩ : ∃ w2, w1.alloc (.cells #[.slice ao (l.length + 1) cap, .int .i64 0, .bool false] 84) = w2 := ⟨_, rfl⟩
  have HA2 := Lib.hid (show Adds w1 w2 by rw [← hw2]; exact (Gr.new _ _).adds)
  have HR2 := Lib.hid (show BkS 84 w2 n3 (rdE (.slice ao (l.length + 1) cap) 0 false) by rw [← hw2, ← hn3]; exact BkS.new _ _ _)
  have HN3 := Lib.hid (show n3 = w.heap.size + 1 + 1 from hn3.symm.trans HS1.out)
  have HE := Lib.hid (eventR_none n3 (.slice ao (l.length + 1) cap) b0 l hb0 w2 (Nat.le_trans hn (Nat.le_trans HA1.out.size HA2.out.size)) (HV.out.below ((Adds.trans HA1.out HA2.out).mono hn)) (HW.out.below (Adds.trans HA1.out HA2.out)) HR2.out)
  rw [hw2, hn3]
  clear hw2 hn3 hw1 hn hb0
  refine HE.out.mono ?_
  rintro e w3 ⟨rfl, q⟩
  have HT3 := Lib.hid q
  clear q
  have b1 : BkS 28 w3 w.heap.size (evC zE) := (HT3.out.block w.heap.size (HB1.out.adds HA2.out).lt (fun e => by have h := HN3.out; cases e; omega)).trans (HB1.out.adds HA2.out)
  have b2 : BkS 30 w3 (w.heap.size + 1) [.int .i64 0] := (HT3.out.block (w.heap.size + 1) (HB2.out.adds HA2.out).lt (fun e => by have h := HN3.out; cases e; omega)).trans (HB2.out.adds HA2.out)
  have A3 := Lib.hid (show Adds w w3 from TnS.own (Adds.trans HA1.out HA2.out) (by have h := HN3.out; omega) HT3.out)
  have d0 : w3.cell? ⟨w.heap.size + 1, 0, none⟩ = some (.int .i64 0) := b2.cell 0
  refine leaves_cons (f := 47) (args := #[.pointer (some ⟨w.heap.size + 1, 0, none⟩)]) (by simp) (by simp [go_sem]) ?_
  refine (catch_read (w.heap.size + 1) 0 260 [] w3 b2).mono ?_
  rintro e u' w'' ⟨rfl, rfl, rfl⟩
  have hA := Adds.set A3.out (b := w.heap.size + 1) (by omega) 0 (.int .i64 260)
  have b3 := b1.other (c := w.heap.size + 1) (i := 0) (by omega) (.int .i64 260)
  have z0 : (w3.setCell ⟨w.heap.size + 1, 0, none⟩ (.int .i64 260)).cell? ⟨w.heap.size, 0, none⟩ = some (.int .i64 0) := b3.cell 0
  have z1 : (w3.setCell ⟨w.heap.size + 1, 0, none⟩ (.int .i64 260)).cell? ⟨w.heap.size, 1, none⟩ = some (.int .i64 0) := b3.cell 1
  have z2 : (w3.setCell ⟨w.heap.size + 1, 0, none⟩ (.int .i64 260)).cell? ⟨w.heap.size, 2, none⟩ = some (.int .i64 0) := b3.cell 2
  have z3 : (w3.setCell ⟨w.heap.size + 1, 0, none⟩ (.int .i64 260)).cell? ⟨w.heap.size, 3, none⟩ = some (.int .i64 0) := b3.cell 3
  have z4 : (w3.setCell ⟨w.heap.size + 1, 0, none⟩ (.int .i64 260)).cell? ⟨w.heap.size, 4, none⟩ = some (.int .u32 0) := b3.cell 4
  have z5 : (w3.setCell ⟨w.heap.size + 1, 0, none⟩ (.int .i64 260)).cell? ⟨w.heap.size, 5, none⟩ = some (.int .i64 0) := b3.cell 5
  have z6 : (w3.setCell ⟨w.heap.size + 1, 0, none⟩ (.int .i64 260)).cell? ⟨w.heap.size, 6, none⟩ = some (.int .i64 0) := b3.cell 6
  have z7 : (w3.setCell ⟨w.heap.size + 1, 0, none⟩ (.int .i64 260)).cell? ⟨w.heap.size, 7, none⟩ = some (.int .i64 0) := b3.cell 7
  have z8 : (w3.setCell ⟨w.heap.size + 1, 0, none⟩ (.int .i64 260)).cell? ⟨w.heap.size, 8, none⟩ = some (.int .i64 0) := b3.cell 8
  simp [Leaves, settle, results, Tryz.results17, go_sem, d0, z0, z1, z2, z3, z4, z5, z6, z7, z8]
  exact hA
end Go.Proofs.YtbinmgpfkjmijaaGreatDoor
