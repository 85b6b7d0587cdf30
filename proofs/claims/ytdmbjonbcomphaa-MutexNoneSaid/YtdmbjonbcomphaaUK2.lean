/- The keys gathered: slices.AppendSeq, slices.Collect over maps.Keys: their contracts. -/
import Derived.OwnWalkIn
import Derived.Test.YtdmbjonbcomphaaUK1
import Derived.Test.YtdmbjonbcomphaaUF3
namespace Go.Proofs.Ytdmbjonbcomphaa
open Go Go.RowKit Go.Shelf Go.Maps
attribute [local go_sem] Oper.semAt_some

def iV (x : Int) : Value := .int .i64 x
abbrev kfn : Value → Value := fun p => .func (.func 45) #[] #[p]
/-- A slice of numbers of 32 bits that the call has made: it reads xs. -/
def RowI (base : Nat) (w : World) (v : Value) (xs : List Int) : Prop := w.ownsRow base 3 1 v xs.length (xs.map iV) ∧ (v = .slice none 0 0 ↔ xs = [])
theorem infoI64 : (Try.prog.info? 3).map (fun i => (i.zero, i.size, i.bytes)) = some (some (.int .i64 0), 1, 8) := by kernel_rfl
theorem RowI.kept {base : Nat} {w w' : World} {v : Value} {xs : List Int} {row : Option Nat} (h : RowI base w v xs) (hg : w.grownBy w' row) (hr : ∀ r, row = some r → ∃ o, w.heap[r]? = some o ∧ ∀ cur, o ≠ .cells cur 3 (0, 0)) : RowI base w' v xs := by
  refine ⟨h.1.kept hg ?_, h.2⟩
  cases row with
  | none =>
    cases hv : v.ownBlock with
    | none => exact .inl rfl
    | some g => exact .inr (by simp)
  | some r =>
    obtain ⟨o, ho, hn⟩ := hr r rfl
    exact ownsRow_ne_a h.1 ho hn
theorem RowI.adds {base : Nat} {w w' : World} {v : Value} {xs : List Int} (h : RowI base w v xs) (ha : Adds w w') : RowI base w' v xs :=
  h.kept (row := none) ⟨ha.os, ha.tape, ha.output, ha.size, fun k hk _ => ha.block k hk⟩ (fun r e => by cases e)
theorem RowI.base {base base' : Nat} {w : World} {v : Value} {xs : List Int} (h : RowI base w v xs) (hb : base' ≤ base) : RowI base' w v xs := by
  refine ⟨⟨h.1.1, h.1.2.elim .inl (fun ⟨g, cap, cur, h1, h2, h3⟩ => .inr ⟨g, cap, cur, h1, Nat.le_trans hb h2, h3⟩)⟩, h.2⟩

def KeyI (base Bs : Nat) (w : World) (pre : List Int) (W : World) : Prop := ∃ v, W.heap[Bs]? = some (.cells #[v] 28 (0, 0)) ∧ RowI base W v pre ∧ Below base w W
theorem KeyI.own {base Bs B : Nat} {w : World} (hw : base ≤ w.heap.size) (hB : base ≤ B) : OwnFrom B (KeyI base Bs w) := fun s W W' row ⟨v, h1, h2, h3⟩ hg hr => by
  refine ⟨v, ?_, h2.kept hg (fun r e => ?_), h3.grown hg ?_ (fun k e => Nat.le_trans hB (hr k e).1)⟩
  · refine (hg.block Bs (Array.getElem?_eq_some_iff.1 h1).1 (fun e => ?_)).trans h1
    obtain ⟨o, ho, hc⟩ := (hr Bs e.symm).2
    rw [h1] at ho; cases ho; cases hc
  · obtain ⟨o, ho, hc⟩ := (hr r e).2
    exact ⟨o, ho, fun cur e => by rw [e] at hc; cases hc⟩
  · exact Nat.le_trans hw h3.size

set_option maxRecDepth 100000 in
set_option maxHeartbeats 4000000 in
theorem appendKeys_any (Bm b : Nat) (L : List IP) (w : World) (hm : w.cell? ⟨Bm, 0, none⟩ = some (.map (some b))) (hM : HolAt w b L) (hL : L.length ≤ 1048576) :
    Calls Try.prog 49 #[.slice none 0 0, kfn (.pointer (some ⟨Bm, 0, none⟩))] w fun e w' =>
      ∃ v xs, e = .returned v ∧ xs.Perm (L.map (·.1)) ∧ RowI w.heap.size w' v xs ∧ Adds w w' := by
  have HM := Lib.hid hM; clear hM
  have HL := Lib.hid hL; clear hL
  have HCM := Lib.hid hm; clear hm
  obtain ⟨i0, hi, hz0, hz1, hz2⟩ := info_parts infoI64
  refine (callsIn_wide (n := 6)).1 ?_
  refine callsIn_of_wp_marks Try.func49 rfl trivial ?_ rfl
  simp only [Try.ntmps49, List.size_toArray, List.length_cons, List.length_nil, Nat.reduceAdd, Nat.reduceSub, Array.replicate_succ, Array.replicate_zero, List.push_toArray, List.append_toArray, List.nil_append, List.cons_append]
  gi_wp2
  obtain ⟨W0, hW0⟩ : ∃ W0, w.alloc (.cells #[.slice none 0 0] 28) = W0 := ⟨_, rfl⟩
  have HS0 := Lib.hid (show W0.heap.size = w.heap.size + 1 by rw [← hW0]; simp)
  have HB0 := Lib.hid (show W0.heap[w.heap.size]? = some (.cells #[.slice none 0 0] 28 (0, 0)) by rw [← hW0]; exact World.alloc_heap_new w _)
  have HA0 := Lib.hid (show Adds w W0 by rw [← hW0]; exact (Below.refl _ w).alloc (Nat.le_refl _) _)
  rw [hW0]
  clear hW0
  have HCM0 := Lib.hid ((HA0.out.cell (p := ⟨Bm, 0, none⟩) (World.block_lt_of_cell? w _ HCM.out)).trans HCM.out)
  have HM0 := Lib.hid (HM.out.same (HA0.out.block b HM.out.lt))
  obtain ⟨n0, hn0⟩ : ∃ n0, w.heap.size = n0 := ⟨_, rfl⟩
  have HN0 := Lib.hid hn0
  rw [hn0] at HS0 HB0 ⊢
  clear hn0
  refine' rangeFunc_X rfl (by omega) (gf := 45) (lb := #[.pointer (some ⟨Bm, 0, none⟩)]) rfl trivial (enters_of Try.func45 (by kernel_rfl) rfl)
    (keys_seqX 5 (by omega) Bm b L W0 HCM0.out HM0.out) (fun h k => k.trans h) (fun W l o o' hl _ _ _ => World.putObj_heap_other (by have := HM0.out.lt; omega)) (Below.refl _ _) (fun _ => rfl)
    (KeyI n0 n0 w) (fun _ _ _ => False) ?own ?ownx ?h0 _ ?assign ?body ?done ?stop
  case assign =>
    intro l2 x W2 K hK
    have HK := Lib.hid hK; clear hK
    gi_wp2
    exact HK.out
  case own => exact KeyI.own (Nat.le_of_eq HN0.out.symm) (by have := HS0.out; omega)
  case ownx => exact fun c s A B row hs => hs.elim
  case h0 => exact ⟨_, HB0.out, ⟨⟨rfl, .inl ⟨rfl, rfl⟩⟩, by simp⟩, by rw [← HN0.out]; exact HA0.out⟩
  case body =>
    rintro l pre x W ⟨v, h1, h2, h3⟩ ⟨hx, hlen⟩
    have HI := Lib.hid (And.intro h1 (And.intro h2 h3))
    have HP := Lib.hid (show pre.length < 1048576 by have := HL.out; omega)
    have c2 := (cell_of_box_a h1).1
    have f2 := (cell_of_box_a h1).2
    have HBs := Lib.hid (Array.getElem?_eq_some_iff.1 h1).1
    clear h1 h2 h3 hx hlen
    gi_wp2_with (first
      | (gi_at_builtin; refine wpListIn_append_own _ rfl _ _ 28 rfl n0 3 i0 (.int .i64 0) 1 8 Try.underlying28 hi hz0 hz1 hz2 rfl (by decide) _ _ _ rfl (HI.out.2.1.1.alloc _) ⟨W.heap.size, 0, none⟩ 1 1 [iV x] rfl rfl (cell_one_new _ _ _) (by simp [Value.oneCell', iV]) (by have := HP.out; unfold maxLen; omega) (by have := HP.out; omega) (by have := HI.out.2.2.size; have := HN0.out; simp; omega) ?_; intro v' w3 hown' hg3 hnil3
         have hg3' : (W.alloc (.cells #[iV x] 3)).grownBy w3 v.ownBlock := hg3
         have hne : ∀ {j : Nat} {o : Obj}, W.heap[j]? = some o → (∀ cur, o ≠ .cells cur 3 (0, 0)) → some j ≠ v.ownBlock := fun hj hno e => by
           rcases ownsRow_ne_a HI.out.2.1.1 hj hno with e' | e'
           · rw [e'] at e; cases e
           · exact e' e.symm
         have hv3 : w3.heap[n0]? = some (.cells #[v] 28 (0, 0)) := (hg3'.block n0 (by have := HBs.out; simp; omega) (hne HI.out.1 (fun cur e => by injection e with _ h; exact absurd h (by decide)))).trans ((Below.heap_alloc _ _ n0 HBs.out).trans HI.out.1)
         have c3 := (cell_of_box_a hv3).1
         have f3 := (cell_of_box_a hv3).2
         have HV3 := Lib.hid hv3
         have HG := Lib.hid hg3'
         have HNE := Lib.hid (fun (j : Nat) (o : Obj) (h1 : W.heap[j]? = some o) (h2 : ∀ cur, o ≠ .cells cur 3 (0, 0)) => hne h1 h2)
         have HO := Lib.hid hown'
         obtain ⟨g', cap', cur', rfl, _⟩ : ∃ g' cap' cur', v' = .slice (some ⟨g', 0, none⟩) (pre.length + 1) cap' ∧ (n0 ≤ g' ∧ w3.heap[g']? = some (.cells cur' 3 (0, 0))) := by
           rcases hown'.2 with ⟨_, h0⟩ | ⟨g, cap, cur, h1, h2, h3, _⟩
           · exact absurd h0 (by omega)
           · exact ⟨g, cap, cur, h1, h2, h3⟩
         clear hown' hg3 hnil3 hg3' hne hv3 c2 f2)
      | gi_in)
    have HW4 := Lib.hid (TnS.setCell n0 0 w3 (.slice (some ⟨g', 0, none⟩) (pre.length + 1) cap'))
    have HV4 := Lib.hid (heap_setCell_box_a (.slice (some ⟨g', 0, none⟩) (pre.length + 1) cap') HV3.out)
    generalize w3.setCell ⟨n0, 0, none⟩ (.slice (some ⟨g', 0, none⟩) (pre.length + 1) cap') = w4 at HW4 HV4 ⊢
    have hWa : Below n0 W (W.alloc (.cells #[iV x] 3)) := (Below.refl _ _).alloc (Nat.le_of_lt HBs.out) _
    have hb3 : Below n0 W w3 := hWa.grown HG.out (by have := HBs.out; simp; omega) (fun k e => (HI.out.2.1.1.lt k e).1)
    have hb4 : Below n0 W w4 := hb3.grown HW4.out (by have := HBs.out; have := hb3.size; omega) (fun k e => by cases e; exact Nat.le_refl _)
    refine ⟨⟨hb4.size, fun k o hk ho hc => ?_⟩, ?_, _, HV4.out, ⟨?_, by simp⟩, HI.out.2.2.trans hb4⟩
    · have hk3 : w3.heap[k]? = some o := ((HG.out.block k (by have := (Array.getElem?_eq_some_iff.1 ho).1; simp; omega) (HNE.out k o ho (fun cur e => by rw [e] at hc; cases hc))).trans (Below.heap_alloc _ _ k (Array.getElem?_eq_some_iff.1 ho).1)).trans ho
      exact (HW4.out.block k (Array.getElem?_eq_some_iff.1 hk3).1 (fun e => by simp only [Option.some.injEq] at e; rw [e, HV3.out] at hk3; cases hk3; cases hc)).trans hk3
    · exact hb4.block b (by have := HM.out.lt; have := HN0.out; omega)
    · have h5 : W.heap.size ≤ w3.heap.size := hb3.size
      have := HO.out.kept HW4.out (ownsRow_ne_a HO.out HV3.out (fun cur e => by injection e with _ h; exact absurd h (by decide)))
      simpa using this
  case done =>
    rintro D xs W hD hS ⟨v, h1, h2, h3⟩ hK
    have c2 := (cell_of_box_a h1).1
    have HI := Lib.hid (And.intro h1 (And.intro h2 h3))
    have HKD := Lib.hid hK
    have HSx := Lib.hid hS
    have HD := Lib.hid hD
    clear h1 h2 h3 hK hS hD
    gi_wp2
    refine ⟨by simp, .inl ⟨_, _, rfl, run_takeDeferred HKD.out, ?_⟩⟩
    have hg := grownBy_putObj' W D (.deferred none)
    have HI' := HI.out
    rw [← HN0.out] at HI'
    exact ⟨_, results_tmp rfl _ _ _, v, xs, rfl, HSx.out, HI'.2.1.kept hg (fun r e => by cases e; exact ⟨_, HKD.out, fun cur e => by cases e⟩), HI'.2.2.grown hg HI'.2.2.size (fun k e => by cases e; have := HD.out; have := HS0.out; have := HN0.out; omega)⟩
  case stop => exact fun D c pre W _ _ h => h.elim
end Go.Proofs.Ytdmbjonbcomphaa
