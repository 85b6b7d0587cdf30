/- The document's mutexes: New, with, Lock, Unlock, Holder, Same: their contracts. -/
import Derived.OwnWalk
import Derived.Test.YtdmbjonbcomphaaUF4
namespace Go.Proofs.Ytdmbjonbcomphaa
open Go Go.RowKit Go.Maps

/-- The document's mutexes in memory: a list. -/
def RefM (w : World) (v : Value) (l : List Int) : Prop :=
  ∃ g cap, v = .agg #[.slice (some ⟨g, 0, none⟩) l.length cap] ∧ ∃ cur : Array Value, w.heap[g]? = some (Obj.cells cur 3 (0, 0)) ∧ l.length ≤ cap ∧ cap ≤ maxLen ∧ cur.size = cap ∧ ∀ k, k < l.length → cur[k]? = some (.int .i64 (l.getD k 0))
theorem RefM.keep {w w' : World} {v : Value} {l : List Int} (h : RefM w v l) (hk : ∀ (g : Nat) (cur : Array Value), w.heap[g]? = some (Obj.cells cur 3 (0, 0)) → w'.heap[g]? = w.heap[g]?) : RefM w' v l := by
  obtain ⟨g, cap, e, cur, hg, h1⟩ := h
  exact ⟨g, cap, e, cur, (hk g cur hg).trans hg, h1⟩
theorem RefM.adds {w w' : World} {v : Value} {l : List Int} (h : RefM w v l) (ha : Adds w w') : RefM w' v l := h.keep fun _ _ hg => ha.block _ (Array.getElem?_eq_some_iff.1 hg).1
/-- A map turns. -/
theorem RefM.turn {w w' : World} {v : Value} {l l2 : List Int} {b : Nat} (h : RefM w v l) (hb : HolF w b l2) (ht : TnS b w w') : RefM w' v l := h.keep fun g cur hg => by
  refine ht.block _ (Array.getElem?_eq_some_iff.1 hg).1 (fun e => ?_)
  cases e
  obtain ⟨es, c, h1⟩ := hb.obj
  rw [h1] at hg
  cases hg
theorem RefM.cells {w : World} {g cap n : Nat} {l : List Int} (h : RefM w (.agg #[.slice (some ⟨g, 0, none⟩) n cap]) l) : n = l.length ∧ ∀ k, k < l.length → w.cell? ⟨g, k, none⟩ = some (.int .i64 (l.getD k 0)) := by
  obtain ⟨g', cap', e, cur, hg, _, _, _, hc⟩ := h
  simp only [Value.agg.injEq, Array.mk.injEq, List.cons.injEq, Value.slice.injEq, Option.some.injEq, Addr.mk.injEq, and_true] at e
  obtain ⟨rfl, rfl, _⟩ := e
  exact ⟨rfl, fun k hk => by rw [cell_of_row w g k _ _ _ hg]; exact hc k hk⟩
theorem RefM.val {w : World} {v : Value} {l : List Int} (h : RefM w v l) : ∃ g cap, v = .agg #[.slice (some ⟨g, 0, none⟩) l.length cap] := let ⟨g, cap, e, _⟩ := h; ⟨g, cap, e⟩
theorem run_mkI (n : Nat) (hn : n ≤ 64) (w : World) :
    (Instr.makeSlice 28 (.int .i64 (n : Int)) (.int .i64 (n : Int))).run Try.prog w = .ok (.slice (some ⟨w.heap.size, 0, none⟩) n n) (w.alloc (.cells (List.replicate n (.int .i64 0)).toArray 3)) := by
  obtain ⟨i0, hi, hz, hs, hb⟩ := info_parts (show (Try.prog.info? 3).map (fun i => (i.zero, i.size, i.bytes)) = some (some (.int .i64 0), 1, 8) by kernel_rfl)
  have h := run_make (P := Try.prog) w 28 3 i0 (.int .i64 0) Try.underlying28 hi hz .i64 .i64 n n (by omega) (by omega) (by rw [hb]; omega) (by omega)
  rw [hs] at h
  have e : madeCells #[.int .i64 0] n = (List.replicate n (.int .i64 0)).toArray := by
    unfold madeCells
    apply Array.ext
    · simp
    · intro i h1 h2
      simp [Nat.mod_one]
  rw [← e]
  simpa [Value.cells] using h
theorem infoRM : (Try.prog.info? 30).map (·.size) = some 1 := by kernel_rfl
/-- What New of the document leaves. -/
def NewR (many : Int) (e : Ending) (w' : World) : Prop := if 0 ≤ many ∧ many ≤ 64 then ∃ v, e = .returned (.tuple #[v, .int .i64 0]) ∧ RefM w' v (List.replicate many.toNat 0) else e = .returned (.tuple #[.agg #[.slice none 0 0], .int .i64 2])
theorem refNew_any (many : Int) (w : World) : Calls Try.prog 9 #[.int .i64 many] w fun e w' => NewR many e w' ∧ Adds w w' := by
  obtain ⟨w0, hw0⟩ : ∃ w0, w.alloc (.cells #[.slice none 0 0] 30) = w0 := ⟨_, rfl⟩
  have HA := Lib.hid (show Adds w w0 by rw [← hw0]; exact (Gr.new _ _).adds)
  have hb : BkS 30 w0 w.heap.size [.slice none 0 0] := by rw [← hw0]; exact BkS.new _ _ _
  have HB := Lib.hid hb
  unfold NewR
  by_cases h : 0 ≤ many ∧ many ≤ 64
  · simp only [if_pos h]
    obtain ⟨n, rfl⟩ : ∃ n : Nat, many = n := ⟨many.toNat, by omega⟩
    have h64 : n ≤ 64 := by omega
    have hmk := run_mkI n h64 w0
    obtain ⟨w1, hw1⟩ : ∃ w1, w0.alloc (.cells (List.replicate n (.int .i64 0)).toArray 3) = w1 := ⟨_, rfl⟩
    have hh := heap_new w0 (.cells (List.replicate n (.int .i64 0)).toArray 3)
    rw [hw1] at hmk hh
    have HA1 := Lib.hid (show Adds w0 w1 by rw [← hw1]; exact (Gr.new _ _).adds)
    have HB1 := Lib.hid (hb.adds HA1.out)
    have c0 : w1.cell? ⟨w.heap.size, 0, none⟩ = some (.slice none 0 0) := HB1.out.cell 0
    have f0 := HB1.out.free 0
    have HH := Lib.hid hh
    have HN := Lib.hid h64
    have HNe := Lib.hid (show w0.heap.size ≠ w.heap.size by rw [← hw0]; simp)
    have h1 : ¬ (n : Int) < 0 := by omega
    have h2 : ¬ 64 < (n : Int) := by omega
    clear hh hb h h64
    go_enter Try.func9, Try.ntmps9
    go_wp2
    refine bodyPost_ret (res_box2 rfl _ _ _ _ _ _ _ rfl (HB1.out.set 0 (.slice (some ⟨w0.heap.size, 0, none⟩) n n)) Try.underlying30 rfl (by kernel_rfl)) rfl ?_
    refine ⟨⟨_, rfl, w0.heap.size, n, by simp, _, (Below.heap_setCell w1 _ _ _ (fun e => HNe.out e)).trans HH.out, by simp, by have := HN.out; unfold maxLen; omega, by simp, fun k hk => ?_⟩, Adds.set (Adds.trans HA.out HA1.out) (Nat.le_refl _) 0 _⟩
    simp only [List.length_replicate] at hk
    simp [hk, List.getD_eq_getElem?_getD]
  · simp only [if_neg h]
    have c0 : w0.cell? ⟨w.heap.size, 0, none⟩ = some (.slice none 0 0) := hb.cell 0
    have f0 := hb.free 0
    clear hb
    by_cases h1 : many < 0
    · clear h
      go_enter Try.func9, Try.ntmps9
      go_wp2
      refine bodyPost_ret (res_box2 rfl _ _ _ _ _ _ _ rfl (HB.out.set 0 (.slice none 0 0)) Try.underlying30 rfl (by kernel_rfl)) rfl ?_
      exact ⟨rfl, Adds.set HA.out (Nat.le_refl _) 0 _⟩
    · have h2 : 64 < many := by omega
      clear h
      go_enter Try.func9, Try.ntmps9
      go_wp2
      refine bodyPost_ret (res_box2 rfl _ _ _ _ _ _ _ rfl (HB.out.set 0 (.slice none 0 0)) Try.underlying30 rfl (by kernel_rfl)) rfl ?_
      exact ⟨rfl, Adds.set HA.out (Nat.le_refl _) 0 _⟩
end Go.Proofs.Ytdmbjonbcomphaa
