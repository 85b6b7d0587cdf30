/- Package site's parts; what is told of one site, and of two: contracts. -/
import Derived.WalkKit
import Derived.BigCall
import Derived.BigGuard
import Derived.Laws.EntriesVeiled
import Derived.Shelf.SlSortCmp.QuietGrown
import Derived.Test.YtbinmgpfkjmijaaGreatDoorRows
import Derived.Test.YtbinmgpfkjmijaaGreatDoorBA
import Derived.Test.YtbinmgpfkjmijaaGreatDoorSPlain
namespace Go.Proofs.YtbinmgpfkjmijaaGreatDoor
open Go Go.RowKit Go.Shelf Go.Sort

/-- Only memory was made, and draws were taken. -/
def Gr (w w' : World) : Prop := ∃ n os, w' = grow (w.drewN n) os
theorem Gr.refl (w : World) : Gr w w := ⟨0, #[], by rw [grow_empty]; rfl⟩
theorem Gr.trans {a b c : World} (h : Gr a b) (k : Gr b c) : Gr a c := by
  obtain ⟨n, os, rfl⟩ := h
  obtain ⟨m, os', rfl⟩ := k
  exact ⟨n + m, os ++ os', by show grow (grow ((a.drewN n).drewN m) os) os' = _; rw [grow_grow, World.drewN_drewN]⟩
theorem Gr.new (w : World) (o : Obj) : Gr w (w.alloc o) := ⟨0, #[o], alloc_eq_grow w o⟩
theorem Gr.alloc {a b : World} (h : Gr a b) (o : Obj) : Gr a (b.alloc o) := h.trans (Gr.new b o)
theorem Gr.drewn (w : World) (n : Nat) : Gr w (w.drewN n) := ⟨n, #[], by rw [grow_empty]⟩
theorem Gr.drew {a b : World} (h : Gr a b) : Gr a b.drew := h.trans (Gr.drewn b 1)
theorem Gr.adds {w w' : World} (h : Gr w w') : Adds w w' := by
  obtain ⟨n, os, rfl⟩ := h
  exact ⟨rfl, rfl, rfl, by show w.heap.size ≤ (w.heap ++ os).size; simp, fun k hk => heap_grow_old _ _ (by simpa using hk)⟩
theorem Gr.grown (w : World) (n : Nat) (os : Array Obj) : Gr w (grow (w.drewN n) os) := ⟨n, os, rfl⟩
theorem Calls.gr {f : FuncId} {args : Array Value} {w : World} {n : Nat} {os : Array Obj} {v : Value}
    (h : ∀ W, Calls Tryz.prog f args W fun e w' => e = .returned v ∧ Gr W w') : Calls Tryz.prog f args (grow (w.drewN n) os) fun e w'' => e = .returned v ∧ ∃ p : GrownBy, w'' = grow (w.drewN p.n) p.os :=
  Calls.grown_of (h _)

/-- A result that lies in a box, alone or ahead of another one. -/
theorem res_box {P : Program} {fn : Func} {p : Tmp} {ty : TypeId} (h : fn.results = #[.cell p ty]) (tmps : Array Value) (w : World) (g : Nat) (cs : Array Value) (t : TypeId) (fr : Nat × Nat) (d : TypeDesc) (hp : tmps.getD p undef = .pointer (some ⟨g, 0, none⟩))
    (hg : w.heap[g]? = some (.cells cs t fr)) (hu : P.underlying ty = some d) (hd : (match d with | .struct _ | .array _ _ => true | _ => false) = true) (hi : (P.info? ty).map (·.size) = some cs.size) : (results fn tmps).run P w = .ok (.agg cs) w := by
  have hp' : tmps[p]?.getD undef = .pointer (some ⟨g, 0, none⟩) := by simpa using hp
  simp [results, h, hp', asAddr, run_loadVar_row (P := P) w g t ty cs fr d hg hu hd hi]
theorem res_box2 {P : Program} {fn : Func} {p q : Tmp} {ty : TypeId} (h : fn.results = #[.cell p ty, .tmp q]) (tmps : Array Value) (w : World) (g : Nat) (cs : Array Value) (t : TypeId) (fr : Nat × Nat) (d : TypeDesc) (hp : tmps.getD p undef = .pointer (some ⟨g, 0, none⟩))
    (hg : w.heap[g]? = some (.cells cs t fr)) (hu : P.underlying ty = some d) (hd : (match d with | .struct _ | .array _ _ => true | _ => false) = true) (hi : (P.info? ty).map (·.size) = some cs.size) : (results fn tmps).run P w = .ok (.tuple #[.agg cs, tmps.getD q undef]) w := by
  have hp' : tmps[p]?.getD undef = .pointer (some ⟨g, 0, none⟩) := by simpa using hp
  simp [results, h, hp', asAddr, run_loadVar_row (P := P) w g t ty cs fr d hg hu hd hi]
theorem heap_new (w : World) (o : Obj) : (w.alloc o).heap[w.heap.size]? = some o := by unfold World.alloc; simp

abbrev siV (s : Si) : Value := .agg #[.int .i64 s.1, .int .i64 s.2]
abbrev fn1 : Value := .func (.func 93) #[] #[]
abbrev fn2 : Value := .func (.func 94) #[] #[]
abbrev p1V : Value := .agg #[fn1, .int .i64 32, .string ⟨#[102]⟩, .int .i64 1]
abbrev p2V : Value := .agg #[fn2, .int .i64 512, .string ⟨#[58]⟩, .int .i64 2]
abbrev partsV : Value := .agg #[fn1, .int .i64 32, .string ⟨#[102]⟩, .int .i64 1, fn2, .int .i64 512, .string ⟨#[58]⟩, .int .i64 2]

theorem of1_any (s : Si) (w : World) : Calls Tryz.prog 93 #[siV s] w fun e w' => e = .returned (.int .i64 s.1) ∧ Gr w w' := by
  obtain ⟨f, p⟩ := s
  go_enter Tryz.func93, Tryz.ntmps93
  go_wp2
  go_ret
  exact ⟨rfl, Gr.new _ _⟩
theorem of2_any (s : Si) (w : World) : Calls Tryz.prog 94 #[siV s] w fun e w' => e = .returned (.int .i64 s.2) ∧ Gr w w' := by
  obtain ⟨f, p⟩ := s
  go_enter Tryz.func94, Tryz.ntmps94
  go_wp2
  go_ret
  exact ⟨rfl, Gr.new _ _⟩
theorem parts_any (w : World) : Calls Tryz.prog 64 #[] w fun e w' => e = .returned partsV ∧ Gr w w' := by
  go_enter Tryz.func64, Tryz.ntmps64
  go_wp2
  refine bodyPost_ret (res_box rfl _ _ _ _ _ _ _ rfl (heap_new _ _) Tryz.underlying106 rfl (by kernel_rfl)) rfl ?_
  exact ⟨rfl, Gr.new _ _⟩
theorem partHolds_any (fv : Value) (b : Int) (m : ByteArray) (wd n : Int) (w : World) :
    Calls Tryz.prog 92 #[.agg #[fv, .int .i64 b, .string m, .int .i64 wd], .int .i64 n] w fun e w' => e = .returned (.bool (decide (0 ≤ n ∧ n < b))) ∧ Gr w w' := by
  by_cases h0 : 0 ≤ n
  · by_cases h1 : n < b
    · rw [decide_eq_true ⟨h0, h1⟩]
      go_enter Tryz.func92, Tryz.ntmps92
      go_wp2
      go_ret
      exact ⟨rfl, Gr.new _ _⟩
    · rw [decide_eq_false (fun h => h1 h.2)]
      go_enter Tryz.func92, Tryz.ntmps92
      go_wp2
      go_ret
      exact ⟨rfl, Gr.new _ _⟩
  · rw [decide_eq_false (fun h => h0 h.1)]
    go_enter Tryz.func92, Tryz.ntmps92
    go_wp2
    go_ret
    exact ⟨rfl, Gr.new _ _⟩
end Go.Proofs.YtbinmgpfkjmijaaGreatDoor
