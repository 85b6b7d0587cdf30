/- Merged: GMem, GRow2, ZRow, APlain. -/
import Derived.Test.YthhegcngkpfcoaaGreatY10
import Derived.Test.YthhegcngkpfcoaaGreatRows
import Derived.WalkKit
import Derived.ProofKit
import Derived.OpenShut
import Derived.Deep.DeepHandedRow
import Derived.Deep.Slices
import Derived.Lib.LaidTab
import Derived.SizedLaws
namespace Go.Proofs.YthhegcngkpfcoaaGreat
open Go Go.RowKit Go.Shelf

/-- A function: its registers and its code. A program: functions, mutexes, locks, groups. -/
abbrev Fu := Int × List In
abbrev Pg := List Fu × Int × Int × Int
abbrev zI : In := (0, 0, 0, 0, 0)
abbrev zF : Fu := (0, [])
def At5 (w : World) (g o : Nat) (x : In) : Prop :=
  w.cell? ⟨g, o, none⟩ = some (.int .i64 x.1) ∧ w.cell? ⟨g, o + 1, none⟩ = some (.int .i64 x.2.1) ∧ w.cell? ⟨g, o + 2, none⟩ = some (.int .i64 x.2.2.1) ∧ w.cell? ⟨g, o + 3, none⟩ = some (.int .i64 x.2.2.2.1) ∧ w.cell? ⟨g, o + 4, none⟩ = some (.int .u32 x.2.2.2.2)
def CodeW (n : Nat) (w : World) (v : Value) (c : List In) : Prop :=
  ∃ ao cap, v = .slice ao c.length cap ∧ c.length ≤ cap ∧ cap ≤ maxLen ∧ (c ≠ [] → ∃ g off, ao = some ⟨g, off, none⟩ ∧ g < n ∧ ∀ i, i < c.length → At5 w g (off + i * 5) (c.getD i zI))
def FuncAt (n : Nat) (w : World) (g o : Nat) (f : Fu) : Prop :=
  w.cell? ⟨g, o, none⟩ = some (.int .i64 f.1) ∧ ∃ u, w.cell? ⟨g, o + 1, none⟩ = some u ∧ CodeW n w u f.2 ∧ (∀ x ∈ f.2, OkIn x)
def FuncsW (n : Nat) (w : World) (v : Value) (fs : List Fu) : Prop :=
  ∃ ao cap, v = .slice ao fs.length cap ∧ fs.length ≤ cap ∧ cap ≤ maxLen ∧ (fs ≠ [] → ∃ g off, ao = some ⟨g, off, none⟩ ∧ g < n ∧ ∀ i, i < fs.length → FuncAt n w g (off + i * 2) (fs.getD i zF))
abbrev pgV (v : Value) (p : Pg) : Value := .agg #[v, .int .i64 p.2.1, .int .i64 p.2.2.1, .int .i64 p.2.2.2]
theorem At5.below {n g o : Nat} {w w' : World} {x : In} (h : At5 w g o x) (hb : Below n w w') (hg : g < n) : At5 w' g o x := by
  obtain ⟨h0, h1, h2, h3, h4⟩ := h
  exact ⟨(hb.cell (p := ⟨g, o, none⟩) hg).trans h0, (hb.cell (p := ⟨g, o + 1, none⟩) hg).trans h1, (hb.cell (p := ⟨g, o + 2, none⟩) hg).trans h2, (hb.cell (p := ⟨g, o + 3, none⟩) hg).trans h3, (hb.cell (p := ⟨g, o + 4, none⟩) hg).trans h4⟩
theorem CodeW.below {n : Nat} {w w' : World} {v : Value} {c : List In} (h : CodeW n w v c) (hb : Below n w w') : CodeW n w' v c := by
  obtain ⟨ao, cap, rfl, h1, h2, h3⟩ := h
  exact ⟨ao, cap, rfl, h1, h2, fun hl => by obtain ⟨g, off, e, hg, hc⟩ := h3 hl; exact ⟨g, off, e, hg, fun i hi => (hc i hi).below hb hg⟩⟩
theorem FuncAt.below {n g o : Nat} {w w' : World} {f : Fu} (h : FuncAt n w g o f) (hb : Below n w w') (hg : g < n) : FuncAt n w' g o f := by
  obtain ⟨h0, u, h1, h2, h3⟩ := h
  exact ⟨(hb.cell (p := ⟨g, o, none⟩) hg).trans h0, u, (hb.cell (p := ⟨g, o + 1, none⟩) hg).trans h1, h2.below hb, h3⟩
theorem FuncsW.below {n : Nat} {w w' : World} {v : Value} {fs : List Fu} (h : FuncsW n w v fs) (hb : Below n w w') : FuncsW n w' v fs := by
  obtain ⟨ao, cap, rfl, h1, h2, h3⟩ := h
  exact ⟨ao, cap, rfl, h1, h2, fun hl => by obtain ⟨g, off, e, hg, hc⟩ := h3 hl; exact ⟨g, off, e, hg, fun i hi => (hc i hi).below hb hg⟩⟩
theorem CodeW.up {n m : Nat} {w : World} {v : Value} {c : List In} (h : CodeW n w v c) (hm : n ≤ m) : CodeW m w v c := by
  obtain ⟨ao, cap, rfl, h1, h2, h3⟩ := h
  exact ⟨ao, cap, rfl, h1, h2, fun hl => by obtain ⟨g, off, e, hg, hc⟩ := h3 hl; exact ⟨g, off, e, Nat.lt_of_lt_of_le hg hm, hc⟩⟩
theorem FuncsW.up {n m : Nat} {w : World} {v : Value} {fs : List Fu} (h : FuncsW n w v fs) (hm : n ≤ m) : FuncsW m w v fs := by
  obtain ⟨ao, cap, rfl, h1, h2, h3⟩ := h
  exact ⟨ao, cap, rfl, h1, h2, fun hl => by obtain ⟨g, off, e, hg, hc⟩ := h3 hl; exact ⟨g, off, e, Nat.lt_of_lt_of_le hg hm, fun i hi => by obtain ⟨k0, u, k1, k2, k3⟩ := hc i hi; exact ⟨k0, u, k1, k2.up hm, k3⟩⟩⟩
/-- What lies in a world lies below its size. -/
theorem CodeW.here {n : Nat} {w : World} {v : Value} {c : List In} (h : CodeW n w v c) : CodeW w.heap.size w v c := by
  obtain ⟨ao, cap, rfl, h1, h2, h3⟩ := h
  refine ⟨ao, cap, rfl, h1, h2, fun hl => ?_⟩
  obtain ⟨g, off, e, hg, hc⟩ := h3 hl
  exact ⟨g, off, e, World.block_lt_of_cell? w _ (hc 0 (List.length_pos_iff.2 hl)).1, hc⟩
theorem FuncsW.here {n : Nat} {w : World} {v : Value} {fs : List Fu} (h : FuncsW n w v fs) : FuncsW w.heap.size w v fs := by
  obtain ⟨ao, cap, rfl, h1, h2, h3⟩ := h
  refine ⟨ao, cap, rfl, h1, h2, fun hl => ?_⟩
  obtain ⟨g, off, e, hg, hc⟩ := h3 hl
  exact ⟨g, off, e, World.block_lt_of_cell? w _ (hc 0 (List.length_pos_iff.2 hl)).1, fun i hi => by obtain ⟨k0, u, k1, k2, k3⟩ := hc i hi; exact ⟨k0, u, k1, k2.here, k3⟩⟩
theorem CodeW.adds {n : Nat} {w w' : World} {v : Value} {c : List In} (h : CodeW n w v c) (ha : Adds w w') : CodeW w.heap.size w' v c := h.here.below ha
theorem FuncsW.adds {n : Nat} {w w' : World} {v : Value} {fs : List Fu} (h : FuncsW n w v fs) (ha : Adds w w') : FuncsW w.heap.size w' v fs := h.here.below ha
/-- A function of a program's, where there is one. -/
theorem FuncsW.at {n : Nat} {w : World} {ao : Option Addr} {cap : Nat} {fs : List Fu} (h : FuncsW n w (.slice ao fs.length cap) fs) {i : Nat} (hi : i < fs.length) : ∃ g off, ao = some ⟨g, off, none⟩ ∧ g < n ∧ FuncAt n w g (off + i * 2) (fs.getD i zF) := by
  obtain ⟨ao', cap', e, _, _, h3⟩ := h
  simp only [Value.slice.injEq, true_and] at e
  obtain ⟨rfl, rfl⟩ := e
  obtain ⟨g, off, e, hg, hc⟩ := h3 (by rintro rfl; simp at hi)
  exact ⟨g, off, e, hg, hc i hi⟩
theorem CodeW.at {n : Nat} {w : World} {ao : Option Addr} {cap : Nat} {c : List In} (h : CodeW n w (.slice ao c.length cap) c) {i : Nat} (hi : i < c.length) : ∃ g off, ao = some ⟨g, off, none⟩ ∧ g < n ∧ At5 w g (off + i * 5) (c.getD i zI) := by
  obtain ⟨ao', cap', e, _, _, h3⟩ := h
  simp only [Value.slice.injEq, true_and] at e
  obtain ⟨rfl, rfl⟩ := e
  obtain ⟨g, off, e, hg, hc⟩ := h3 (by rintro rfl; simp at hi)
  exact ⟨g, off, e, hg, hc i hi⟩
theorem CodeW.form {n : Nat} {w : World} {v : Value} {c : List In} (h : CodeW n w v c) : ∃ ao cap, v = .slice ao c.length cap ∧ c.length ≤ cap ∧ cap ≤ maxLen := by
  obtain ⟨ao, cap, e, h1, h2, _⟩ := h
  exact ⟨ao, cap, e, h1, h2⟩
end Go.Proofs.YthhegcngkpfcoaaGreat
namespace Go.Proofs.YthhegcngkpfcoaaGreat
open Go Go.ChangeShapes Go.WideShapes Go.ChangeAt Go.RowKit

/-- What was read is of a size that a machine bears. -/
def Wok {H : Type} (t : TypeId) (d : DataW H) : Prop := ∀ n ∈ d.weights Tryz.prog t, n ≤ reachBytes
theorem bI40 : Tryz.prog.bytesOf 37 = 40 := by kernel_rfl
theorem weights_all {H : Type} {P : Program} {e : TypeId} {d : DataW H} {l : List (DataW H)} (h : d ∈ l) {n : Nat} (hn : n ∈ d.weights P e) : n ∈ DataW.weightsAll P e l := by
  induction l with
  | nil => cases h
  | cons x r ih =>
    rw [DataW.weightsAll]
    rcases List.mem_cons.1 h with rfl | h
    · exact List.mem_append_left _ hn
    · exact List.mem_append_right _ (ih h)
theorem Wok.code {H : Type} {len : Nat} {D : Nat → DataW H} {sp : List (DataW H)} (h : Wok 70 (.slice ((List.range len).map D) sp)) : len ≤ 4398046511104 := by
  have h1 := h ((((List.range len).map D).length + sp.length) * Tryz.prog.bytesOf 37) (by rw [DataW.weights, Tryz.underlying70]; exact List.mem_cons_self ..)
  rw [bI40, List.length_map, List.length_range] at h1
  unfold reachBytes at h1
  omega
theorem Wok.func {H : Type} {len : Nat} {D : Nat → DataW H} {sp : List (DataW H)} (h : Wok 26 (.slice ((List.range len).map D) sp)) {k : Nat} (hk : k < len) : Wok 72 (D k) := fun n hn => h n (by
  rw [DataW.weights, Tryz.underlying26]
  exact List.mem_cons_of_mem _ (List.mem_append_left _ (weights_all (List.mem_map_of_mem (f := D) (List.mem_range.2 hk)) hn)))
theorem Wok.funcs {H : Type} {d0 d1 d2 d3 : DataW H} (h : Wok 28 (.agg [d0, d1, d2, d3])) : Wok 26 d0 := fun n hn => h n (by
  rw [DataW.weights, Tryz.underlying28]
  simp only [List.map_cons, List.map_nil, DataW.weightsEach]
  simp [hn])
theorem laidOutP9 : laidOutB Tryz.prog = true := by kernel_rfl
section
variable {H : Type} {enc : TypeId × Value → H}
theorem cN1 : Tryz.prog.cellsOf 3 = 1 := by kernel_rfl
theorem cW1 : Tryz.prog.cellsOf 22 = 1 := by kernel_rfl
/-- Arguments of types that read as data read as they did, where only memory was made. -/
theorem args_adds9 {P : Program} (hl : laidOutB P = true) : ∀ (ts : List TypeId) (vs : List Value) (ds : List (DataW H)) (ps : List MemPlace) {W W' : World}, (∀ t ∈ ts, P.readableRec t = true ∧ t < P.types.size) →
    DataW.TrodAll enc P W 0 (fun _ => true) true ts vs ds ps → Below W.heap.size W W' → (∀ x ∈ ps, x.block < W.heap.size) → ∀ sp : Nat → Bool, (∀ x ∈ ps, sp x.block = true) → DataW.TrodAll enc P W' 0 sp true ts vs ds ps
  | [], [], [], _, _, _, _, h, _, _, _, _ => h
  | t :: ts, v :: vs, d :: ds, ps, W, W', hr, h, hb, hlt, sp, hsp => by
    obtain ⟨p, q, h1, h2, rfl⟩ := h
    have hrt := hr t (by simp)
    refine ⟨p, q, ?_, args_adds9 hl ts vs ds q (fun t ht => hr t (by simp [ht])) h2 hb (fun x hx => hlt x (by simp [hx])) sp (fun x hx => hsp x (by simp [hx])), rfl⟩
    exact WideElems.Trod_stays hl hrt.1 hrt.2 h1 (fun x hx => hb.same (hlt x (by simp [hx]))) (fun x hx => hsp x (by simp [hx]))
  | [], _ :: _, _, _, _, _, _, h, _, _, _, _ => h.elim
  | [], [], _ :: _, _, _, _, _, h, _, _, _, _ => h.elim
  | _ :: _, [], _, _, _, _, _, h, _, _, _, _ => h.elim
  | _ :: _, _ :: _, [], _, _, _, _, h, _, _, _, _ => h.elim
set_option maxRecDepth 100000 in
/-- A law's end: true, and only memory was made: what the row asks. -/
theorem law_post9 {f : Func} {s : ChangeSpec} {W W' : World} {args : Array Value} {v : Value} {ds gs : List (DataW H)} {before : List MemPlace}
    (hW : DataW.Whole enc Tryz.prog f.params.toList s.vars false W args.toList ds gs before) (hv : v = .bool true) (hb : Adds W W')
    (hs : s.vars = []) (hsp : s.fn H (ds ++ gs) = { results := [.lit (.bool true)], args := ds }) (hres : f.resultTypes = #[4])
    (hr : ∀ t ∈ f.params.toList, Tryz.prog.readableRec t = true ∧ t < Tryz.prog.types.size) :
    s.post enc Tryz.prog f false true false false W args v W' := by
  subst hv
  have hlt : ∀ p ∈ before, p.block < W.heap.size := fun p hp => hW.lt p hp
  have hW0 := hW
  obtain ⟨p, q, hA, hV, hpq, hz, hn⟩ := hW
  rw [hs] at hV
  obtain ⟨rfl, rfl⟩ := trodVars_none hV
  simp only [List.append_nil] at hpq
  subst hpq
  refine ⟨ds, [], before, [], before, [], hW0, ?_, ?_, ?_, World.keptBut_mono (fun p hp => ⟨hp, ?_⟩) (Below.frame hb (· ∈ before)), fun h => by cases h⟩
  · rw [hsp, hres]
    exact trodAll_mk1 (shut_bool Tryz.underlying4 _)
  · rw [hsp]
    exact args_adds9 laidOutP9 _ _ _ _ hr hA hb hlt _ (fun x hx => by simpa using hlt x hx)
  · rw [hsp, hs]; rfl
  · simpa using hp
end
end Go.Proofs.YthhegcngkpfcoaaGreat
namespace Go.Proofs.YthhegcngkpfcoaaGreat
open Go Go.ChangeShapes Go.WideShapes Go.ChangeAt Go.RowKit
section
variable {H : Type} {enc : TypeId × Value → H}
theorem cA4 : Tryz.prog.cellsOf 24 = 4 := by kernel_rfl
set_option maxRecDepth 100000 in
theorem arg_bool12 {r : Reach} {b0 : Nat} {W : World} {v : Value} {d : DataW H} {ps : List MemPlace} (hval : Value.okWide Tryz.prog W r b0 4 v)
    (hd : DataW.Trod enc Tryz.prog W 0 (fun _ => true) true 4 v d ps) : ∃ z : Bool, v = .bool z := by
  obtain ⟨z, rfl, _⟩ := open_bool Tryz.underlying4 hval hd
  exact ⟨z, rfl⟩
set_option maxRecDepth 100000 in
theorem arg_act {r : Reach} {b0 : Nat} {W : World} {v : Value} {d : DataW H} {ps : List MemPlace} (hval : Value.okWide Tryz.prog W r b0 24 v)
    (hd : DataW.Trod enc Tryz.prog W 0 (fun _ => true) true 24 v d ps) : ∃ a m g u : Int, v = .agg #[.int .i64 a, .int .i64 m, .int .i64 g, .int .u32 u] := by
  obtain ⟨cs, rfl, hsz, _⟩ : ∃ cs, v = .agg cs ∧ cs.size = Tryz.prog.cellsOf 24 ∧ Row.okWide Tryz.prog W r b0 24 cs := by
    simpa [Value.okWide, Tryz.underlying24] using hval
  rw [cA4] at hsz
  obtain ⟨l⟩ := cs
  obtain ⟨z0, z1, z2, z3, rfl⟩ : ∃ z0 z1 z2 z3, l = [z0, z1, z2, z3] := by
    match l, hsz with
    | [z0, z1, z2, z3], _ => exact ⟨z0, z1, z2, z3, rfl⟩
  obtain ⟨fuel, hf⟩ := hd
  obtain ⟨xs, n', _, _, _, hxl, hfld⟩ := DataW.trod_struct Tryz.underlying24 hf
  have f0 := hfld 0 _ rfl
  have f1 := hfld 1 _ rfl
  have f2 := hfld 2 _ rfl
  have f3 := hfld 3 _ rfl
  obtain ⟨x0, x1, x2, x3, rfl⟩ : ∃ x0 x1 x2 x3, xs = [x0, x1, x2, x3] := by
    match xs, hxl with
    | [x0, x1, x2, x3], _ => exact ⟨x0, x1, x2, x3, rfl⟩
  simp [cN1, cW1, Value.cells] at f0 f1 f2 f3
  obtain ⟨v0, e0, _, _⟩ := DataW.trod_int Tryz.underlying3 f0
  obtain ⟨v1, e1, _, _⟩ := DataW.trod_int Tryz.underlying3 f1
  obtain ⟨v2, e2, _, _⟩ := DataW.trod_int Tryz.underlying3 f2
  obtain ⟨v3, e3, _, _⟩ := DataW.trod_int Tryz.underlying22 f3
  simp only [List.cons.injEq, and_true] at e0 e1 e2 e3
  subst e0 e1 e2 e3
  exact ⟨v0, v1, v2, v3, rfl⟩
end
end Go.Proofs.YthhegcngkpfcoaaGreat
namespace Go.Proofs.YthhegcngkpfcoaaGreat

/-- What a kind makes of two words. -/
def doN : Nat → Nat → Nat → Nat
  | 1, a, b => (a + b) % 4294967296
  | 2, a, b => (a + (4294967296 - b)) % 4294967296
  | 3, a, b => a * b % 4294967296
  | 4, a, b => a / b
  | 5, a, b => a % b
  | 6, a, b => a &&& b
  | 7, a, b => a ||| b
  | 8, a, b => a ^^^ b
  | 9, a, b => a * 2 ^ (b % 32) % 4294967296
  | 10, a, b => a / 2 ^ (b % 32)
  | 11, a, b => if a < b then 1 else 0
  | 12, a, b => if a = b then 1 else 0
  | _, _, _ => 0
/-- A kind that divides, by nothing. -/
def byNone (k b : Nat) : Bool := b == 0 && (k == 4 || k == 5)
theorem doN_lt {k a b : Nat} (ha : a < 4294967296) (hb : b < 4294967296) (hz : byNone k b = false) : doN k a b < 4294967296 := by
  unfold doN
  split
  · omega
  · omega
  · omega
  · exact Nat.lt_of_le_of_lt (Nat.div_le_self _ _) ha
  · exact Nat.lt_of_le_of_lt (Nat.mod_le _ _) ha
  · exact Nat.lt_of_le_of_lt Nat.and_le_left ha
  · exact Nat.or_lt_two_pow (n := 32) ha hb
  · exact Nat.xor_lt_two_pow (n := 32) ha hb
  · omega
  · exact Nat.lt_of_le_of_lt (Nat.div_le_self _ _) ha
  · split <;> omega
  · split <;> omega
  · omega
end Go.Proofs.YthhegcngkpfcoaaGreat
