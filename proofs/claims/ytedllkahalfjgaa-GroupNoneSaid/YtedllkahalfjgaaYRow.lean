/- From what a row of group's laws lets in to what the walks ask; and from what they leave to what a row asks. -/
import Derived.WalkKit
import Derived.ProofKit
import Derived.OpenShut
import Derived.Deep.DeepHandedRow
import Derived.Deep.Slices
import Derived.Lib.LaidTab
import Derived.Test.YtedllkahalfjgaaRows
import Derived.Test.YtedllkahalfjgaaYPl
namespace Go.Proofs.Ytedllkahalfjgaa
open Go Go.ChangeShapes Go.WideShapes Go.ChangeAt Go.RowKit

def In64 (x : Int) : Prop := -9223372036854775808 ≤ x ∧ x ≤ 9223372036854775807
theorem laidOutU : laidOutB Try.prog = true := by kernel_rfl
/-- A call: which, a number, a goroutine. -/
abbrev A3 := Int × Int × Int
def okA (x : A3) : Prop := In64 x.1 ∧ In64 x.2.1 ∧ In64 x.2.2
def At3 (w : World) (g o : Nat) (x : A3) : Prop := w.cell? ⟨g, o, none⟩ = some (.int .i64 x.1) ∧ w.cell? ⟨g, o + 1, none⟩ = some (.int .i64 x.2.1) ∧ w.cell? ⟨g, o + 2, none⟩ = some (.int .i64 x.2.2)
def zA : A3 := (0, 0, 0)
/-- A slice of calls, in memory below block N. -/
def ActsW (N : Nat) (w : World) (v : Value) (l : List A3) : Prop :=
  ∃ ao cap, v = .slice ao l.length cap ∧ l.length ≤ maxLen ∧ (l ≠ [] → ∃ g off, ao = some ⟨g, off, none⟩ ∧ g < N ∧ ∀ i, i < l.length → At3 w g (off + i * 3) (l.getD i zA))

section
variable {H : Type} {enc : TypeId × Value → H}
theorem cA3 : Try.prog.cellsOf 59 = 3 := by kernel_rfl
theorem cN8 : Try.prog.cellsOf 2 = 1 := by kernel_rfl
theorem cN1 : Try.prog.cellsOf 3 = 1 := by kernel_rfl
theorem in64_of {z : Int} (h : (Lit.int .i64 z).wf = true) : In64 z := by have := bounds_i64 h; exact ⟨by omega, by omega⟩
set_option maxRecDepth 100000 in
theorem arg_boolU {r : Reach} {b0 : Nat} {W : World} {v : Value} {d : DataW H} {ps : List MemPlace} (hval : Value.okWide Try.prog W r b0 4 v)
    (hd : DataW.Trod enc Try.prog W 0 (fun _ => true) true 4 v d ps) : ∃ z : Bool, v = .bool z := by
  obtain ⟨z, rfl, _⟩ := open_bool Try.underlying4 hval hd
  exact ⟨z, rfl⟩
set_option maxRecDepth 100000 in
theorem arg_intU {r : Reach} {b0 : Nat} {W : World} {v : Value} {d : DataW H} {ps : List MemPlace} (hval : Value.okWide Try.prog W r b0 3 v)
    (hd : DataW.Trod enc Try.prog W 0 (fun _ => true) true 3 v d ps) : ∃ z : Int, v = .int .i64 z ∧ In64 z := by
  obtain ⟨x, rfl, rfl, rfl, wx⟩ := open_int Try.underlying3 hval hd
  exact ⟨x, rfl, in64_of wx⟩
set_option maxRecDepth 100000 in
theorem trod_act {fuel : Nat} {W : World} {cs : List Value} {x : DataW H × List MemPlace} (hl : cs.length = 3) (hf : DataW.trod enc Try.prog W 0 (fun _ => true) true fuel 59 cs = some x) : ∃ y : A3, cs = [.int .i64 y.1, .int .i64 y.2.1, .int .i64 y.2.2] ∧ okA y := by
  obtain ⟨z0, z1, z2, rfl⟩ : ∃ z0 z1 z2, cs = [z0, z1, z2] := by
    match cs, hl with
    | [z0, z1, z2], _ => exact ⟨z0, z1, z2, rfl⟩
  obtain ⟨xs, n', _, _, _, hxl, hfld⟩ := DataW.trod_struct Try.underlying59 hf
  have f0 := hfld 0 _ rfl
  have f1 := hfld 1 _ rfl
  have f2 := hfld 2 _ rfl
  obtain ⟨x0, x1, x2, rfl⟩ : ∃ x0 x1 x2, xs = [x0, x1, x2] := by
    match xs, hxl with
    | [x0, x1, x2], _ => exact ⟨x0, x1, x2, rfl⟩
  simp [cN1, cN8] at f0 f1 f2
  obtain ⟨v0, e0, _, w0⟩ := DataW.trod_int Try.underlying3 f0
  obtain ⟨v1, e1, _, w1⟩ := DataW.trod_int Try.underlying3 f1
  obtain ⟨v2, e2, _, w2⟩ := DataW.trod_int Try.underlying2 f2
  simp only [List.cons.injEq, and_true] at e0 e1 e2
  subst e0 e1 e2
  exact ⟨(v0, v1, v2), rfl, in64_of w0, in64_of w1, in64_of w2⟩
set_option maxRecDepth 100000 in
theorem arg_actU {r : Reach} {b0 : Nat} {W : World} {v : Value} {d : DataW H} {ps : List MemPlace} (hval : Value.okWide Try.prog W r b0 59 v)
    (hd : DataW.Trod enc Try.prog W 0 (fun _ => true) true 59 v d ps) : ∃ y : A3, v = .agg #[.int .i64 y.1, .int .i64 y.2.1, .int .i64 y.2.2] ∧ okA y := by
  obtain ⟨cs, rfl, hsz, _⟩ : ∃ cs, v = .agg cs ∧ cs.size = Try.prog.cellsOf 59 ∧ Row.okWide Try.prog W r b0 59 cs := by
    simpa [Value.okWide, Try.underlying59] using hval
  rw [cA3] at hsz
  obtain ⟨l⟩ := cs
  obtain ⟨fuel, hf⟩ := hd
  obtain ⟨y, e, hy⟩ := trod_act (by simpa using hsz) (show DataW.trod enc Try.prog W 0 (fun _ => true) true fuel 59 l = some _ from hf)
  exact ⟨y, by rw [e], hy⟩
set_option maxRecDepth 100000 in
theorem arg_actsU {r : Reach} {b0 : Nat} {W : World} {v : Value} {d : DataW H} {ps : List MemPlace} (hval : Value.okWide Try.prog W r b0 47 v)
    (hd : DataW.Trod enc Try.prog W 0 (fun _ => true) true 47 v d ps) : ∃ l, ActsW W.heap.size W v l ∧ ∀ y ∈ l, okA y := by
  obtain ⟨a0, len0, cap0, rfl⟩ := okWide_slice Try.underlying47 hval
  obtain ⟨fuel, hf⟩ := hd
  rcases Deep.open_slice Try.underlying47 hf with ⟨hcs, _⟩ | ⟨a, len, cap, m, n, D, Pl, hcs, _, hl, hm, hmm, _, hel⟩
  · simp only [Value.cells, List.cons.injEq, Value.slice.injEq, and_true] at hcs
    obtain ⟨rfl, rfl, rfl⟩ := hcs
    exact ⟨[], ⟨none, 0, rfl, by simp, fun h => absurd rfl h⟩, fun x hx => by simp at hx⟩
  · simp only [Value.cells, List.cons.injEq, Value.slice.injEq, and_true] at hcs
    obtain ⟨rfl, rfl, rfl⟩ := hcs
    simp only [if_true] at hmm
    subst hmm
    have hsp : 0 < len0 → a.spot = none := by
      intro h0
      obtain ⟨cs, hcs, _⟩ := hel 0 (by omega)
      rw [cA3] at hcs
      obtain ⟨_, hlen, hcell⟩ := World.cells?_some hcs
      have k0 := hcell 0 (by decide)
      rw [List.getElem?_eq_getElem (by omega)] at k0
      simpa [Addr.add] using World.cell?_spot k0
    have key : ∀ i, i < len0 → ∃ g off, a = ⟨g, off, none⟩ ∧ g < W.heap.size ∧ ∃ e : A3, At3 W g (off + i * 3) e ∧ okA e := by
      intro i hi
      obtain ⟨cs, hcs, hx⟩ := hel i (by omega)
      rw [cA3] at hcs
      obtain ⟨_, hlen, hcell⟩ := World.cells?_some hcs
      obtain ⟨y, rfl, hy⟩ := trod_act hlen hx
      have k0 := hcell 0 (by decide)
      have k1 := hcell 1 (by decide)
      have k2 := hcell 2 (by decide)
      simp only [List.getElem?_cons_zero, List.getElem?_cons_succ] at k0 k1 k2
      obtain ⟨g, off, spot⟩ := a
      have hspot : spot = none := hsp (by omega)
      subst hspot
      have hp : ∀ q, (⟨g, off, none⟩ : Addr).add q = ⟨g, off + q, none⟩ := fun q => by unfold Addr.add; split <;> simp_all
      have hp2 : ∀ q r, (⟨g, off + q, none⟩ : Addr).add r = ⟨g, off + q + r, none⟩ := fun q r => by unfold Addr.add; split <;> simp_all
      rw [hp, hp2] at k0 k1 k2
      rw [Nat.add_zero] at k0
      exact ⟨g, off, rfl, World.block_lt_of_cell? W _ k0, y, ⟨k0, k1, k2⟩, hy⟩
    by_cases h0 : len0 = 0
    · subst h0
      exact ⟨[], ⟨some a, m, rfl, by simp, fun h => absurd rfl h⟩, fun x hx => by simp at hx⟩
    · obtain ⟨g, off, rfl, hg, _⟩ := key 0 (by omega)
      have key2 : ∀ i, i < len0 → ∃ e : A3, At3 W g (off + i * 3) e ∧ okA e := by
        intro i hi
        obtain ⟨g', off', e, _, h⟩ := key i hi
        simp only [Addr.mk.injEq, and_true] at e
        obtain ⟨rfl, rfl⟩ := e
        exact h
      let F : Nat → A3 := fun i => if h : i < len0 then (key2 i h).choose else zA
      have hF : ∀ i (h : i < len0), F i = (key2 i h).choose := fun i h => by simp [F, h]
      refine ⟨(List.range len0).map F, ⟨some ⟨g, off, none⟩, m, by simp, by simp; omega, fun _ => ⟨g, off, rfl, hg, fun i hi => ?_⟩⟩, fun x hx => ?_⟩
      · have hi' : i < len0 := by simpa using hi
        have e : ((List.range len0).map F).getD i zA = (key2 i hi').choose := by
          simp [List.getD_eq_getElem?_getD, hi', hF]
        rw [e]
        exact (key2 i hi').choose_spec.1
      · obtain ⟨i, hi, rfl⟩ := List.mem_map.1 hx
        have hi' : i < len0 := by simpa using hi
        rw [hF i hi']
        exact (key2 i hi').choose_spec.2
/-- A slice of numbers, in memory below block N. -/
def NumsW (N : Nat) (w : World) (v : Value) (l : List Int) : Prop :=
  ∃ ao cap, v = .slice ao l.length cap ∧ l.length ≤ maxLen ∧ (l ≠ [] → ∃ g off, ao = some ⟨g, off, none⟩ ∧ g < N ∧ ∀ i, i < l.length → w.cell? ⟨g, off + i, none⟩ = some (.int .i64 (l.getD i 0)))
set_option maxRecDepth 100000 in
theorem arg_numsQ {r : Reach} {b0 : Nat} {W : World} {v : Value} {d : DataW H} {ps : List MemPlace} (hval : Value.okWide Try.prog W r b0 51 v)
    (hd : DataW.Trod enc Try.prog W 0 (fun _ => true) true 51 v d ps) : ∃ l : List Int, NumsW W.heap.size W v l ∧ ∀ y ∈ l, In64 y := by
  obtain ⟨a0, len0, cap0, rfl⟩ := okWide_slice Try.underlying51 hval
  obtain ⟨fuel, hf⟩ := hd
  rcases Deep.open_slice Try.underlying51 hf with ⟨hcs, _⟩ | ⟨a, len, cap, m, n, D, Pl, hcs, _, hl, hm, hmm, _, hel⟩
  · simp only [Value.cells, List.cons.injEq, Value.slice.injEq, and_true] at hcs
    obtain ⟨rfl, rfl, rfl⟩ := hcs
    exact ⟨[], ⟨none, 0, rfl, by simp, fun h => absurd rfl h⟩, fun x hx => by simp at hx⟩
  · simp only [Value.cells, List.cons.injEq, Value.slice.injEq, and_true] at hcs
    obtain ⟨rfl, rfl, rfl⟩ := hcs
    simp only [if_true] at hmm
    subst hmm
    have hsp : 0 < len0 → a.spot = none := by
      intro h0
      obtain ⟨cs, hcs, _⟩ := hel 0 (by omega)
      rw [cN8] at hcs
      obtain ⟨_, hlen, hcell⟩ := World.cells?_some hcs
      have k0 := hcell 0 (by decide)
      rw [List.getElem?_eq_getElem (by omega)] at k0
      simpa [Addr.add] using World.cell?_spot k0
    have key : ∀ i, i < len0 → ∃ g off, a = ⟨g, off, none⟩ ∧ g < W.heap.size ∧ ∃ e : Int, W.cell? ⟨g, off + i, none⟩ = some (.int .i64 e) ∧ In64 e := by
      intro i hi
      obtain ⟨cs, hcs, hx⟩ := hel i (by omega)
      rw [cN8] at hcs
      obtain ⟨_, hlen, hcell⟩ := World.cells?_some hcs
      obtain ⟨z, e0, _, w0⟩ := DataW.trod_int Try.underlying2 hx
      subst e0
      have k0 := hcell 0 (by decide)
      have hspot : a.spot = none := hsp (by omega)
      obtain ⟨g, off, spot⟩ := a
      simp only at hspot
      subst hspot
      have hp : ∀ q, (⟨g, off, none⟩ : Addr).add q = ⟨g, off + q, none⟩ := fun q => by unfold Addr.add; split <;> simp_all
      have hp2 : ∀ q r, (⟨g, off + q, none⟩ : Addr).add r = ⟨g, off + q + r, none⟩ := fun q r => by unfold Addr.add; split <;> simp_all
      rw [hp, hp2] at k0
      simp only [List.getElem?_cons_zero, Nat.mul_one, Nat.add_zero] at k0
      exact ⟨g, off, rfl, World.block_lt_of_cell? W _ k0, z, k0, in64_of w0⟩
    by_cases h0 : len0 = 0
    · subst h0
      exact ⟨[], ⟨some a, m, rfl, by simp, fun h => absurd rfl h⟩, fun x hx => by simp at hx⟩
    · obtain ⟨g, off, rfl, hg, _⟩ := key 0 (by omega)
      have key2 : ∀ i, i < len0 → ∃ e : Int, W.cell? ⟨g, off + i, none⟩ = some (.int .i64 e) ∧ In64 e := by
        intro i hi
        obtain ⟨g', off', e, _, h⟩ := key i hi
        simp only [Addr.mk.injEq, and_true] at e
        obtain ⟨rfl, rfl⟩ := e
        exact h
      let F : Nat → Int := fun i => if h : i < len0 then (key2 i h).choose else 0
      have hF : ∀ i (h : i < len0), F i = (key2 i h).choose := fun i h => by simp [F, h]
      refine ⟨(List.range len0).map F, ⟨some ⟨g, off, none⟩, m, by simp, by simp; omega, fun _ => ⟨g, off, rfl, hg, fun i hi => ?_⟩⟩, fun x hx => ?_⟩
      · have hi' : i < len0 := by simpa using hi
        have e : ((List.range len0).map F).getD i 0 = (key2 i hi').choose := by
          simp [List.getD_eq_getElem?_getD, hi', hF]
        rw [e]
        exact (key2 i hi').choose_spec.1
      · obtain ⟨i, hi, rfl⟩ := List.mem_map.1 hx
        have hi' : i < len0 := by simpa using hi
        rw [hF i hi']
        exact (key2 i hi').choose_spec.2
/-- Arguments of types that read as data read as they did, where only memory was made. -/
theorem args_addsU {P : Program} (hl : laidOutB P = true) : ∀ (ts : List TypeId) (vs : List Value) (ds : List (DataW H)) (ps : List MemPlace) {W W' : World}, (∀ t ∈ ts, P.readableRec t = true ∧ t < P.types.size) →
    DataW.TrodAll enc P W 0 (fun _ => true) true ts vs ds ps → Below W.heap.size W W' → (∀ x ∈ ps, x.block < W.heap.size) → ∀ sp : Nat → Bool, (∀ x ∈ ps, sp x.block = true) → DataW.TrodAll enc P W' 0 sp true ts vs ds ps
  | [], [], [], _, _, _, _, h, _, _, _, _ => h
  | t :: ts, v :: vs, d :: ds, ps, W, W', hr, h, hb, hlt, sp, hsp => by
    obtain ⟨p, q, h1, h2, rfl⟩ := h
    have hrt := hr t (by simp)
    refine ⟨p, q, ?_, args_addsU hl ts vs ds q (fun t ht => hr t (by simp [ht])) h2 hb (fun x hx => hlt x (by simp [hx])) sp (fun x hx => hsp x (by simp [hx])), rfl⟩
    exact WideElems.Trod_stays hl hrt.1 hrt.2 h1 (fun x hx => hb.same (hlt x (by simp [hx]))) (fun x hx => hsp x (by simp [hx]))
  | [], _ :: _, _, _, _, _, _, h, _, _, _, _ => h.elim
  | [], [], _ :: _, _, _, _, _, h, _, _, _, _ => h.elim
  | _ :: _, [], _, _, _, _, _, h, _, _, _, _ => h.elim
  | _ :: _, _ :: _, [], _, _, _, _, h, _, _, _, _ => h.elim

set_option maxRecDepth 100000 in
/-- A law's end: true, and only memory was made: what the row asks. -/
theorem law_postU {f : Func} {s : ChangeSpec} {W W' : World} {args : Array Value} {v : Value} {ds gs : List (DataW H)} {before : List MemPlace}
    (hW : DataW.Whole enc Try.prog f.params.toList s.vars false W args.toList ds gs before) (hv : v = .bool true) (hb : Adds W W')
    (hs : s.vars = []) (hsp : s.fn H (ds ++ gs) = { results := [.lit (.bool true)], args := ds }) (hres : f.resultTypes = #[4])
    (hr : ∀ t ∈ f.params.toList, Try.prog.readableRec t = true ∧ t < Try.prog.types.size) :
    s.post enc Try.prog f false true false false W args v W' := by
  subst hv
  have hlt : ∀ p ∈ before, p.block < W.heap.size := fun p hp => hW.lt p hp
  have hW0 := hW
  obtain ⟨p, q, hA, hV, hpq, hz, hn⟩ := hW
  rw [hs] at hV
  obtain ⟨rfl, rfl⟩ := trodVars_none hV
  simp only [List.append_nil] at hpq
  subst hpq
  refine ⟨ds, [], before, [], before, [], hW0, ?_, ?_, ?_, World.keptBut_mono (fun p hp => ⟨hp, ?_⟩) (Below.frame hb (· ∈ before)), fun h => by cases h⟩
  · rw [hsp, hres]
    exact trodAll_mk1 (shut_bool Try.underlying4 _)
  · rw [hsp]
    exact args_addsU laidOutU _ _ _ _ hr hA hb hlt _ (fun x hx => by simpa using hlt x hx)
  · rw [hsp, hs]; rfl
  · simpa using hp
end
end Go.Proofs.Ytedllkahalfjgaa
