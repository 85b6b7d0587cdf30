/- Merged: G8. -/
import Derived.Test.YthhegcngkpfcoaaGreatY29
namespace Go.Proofs.YthhegcngkpfcoaaGreat
open Go Go.RowKit Go.Shelf
attribute [local go_sem] Oper.semAt_some

/-- All places: functions, then places in their code. -/
def rowP (fs : List Fu) (i : Nat) : List (Nat × Nat) := (List.range (fs.getD i zF).2.length).map fun k => (i, k)
def plL (fs : List Fu) (i : Nat) : List (Nat × Nat) := (List.range i).flatMap (rowP fs)
theorem plL_succ (fs : List Fu) (i : Nat) : plL fs (i + 1) = plL fs i ++ rowP fs i := by simp [plL, List.range_succ]
/-- The rounds that are ahead of place k of function i. -/
def preL (fs : List Fu) (i k : Nat) : List (Nat × Nat) := plL fs i ++ (List.range k).map fun k => (i, k)
theorem preL_succ (fs : List Fu) (i k : Nat) : preL fs i (k + 1) = preL fs i k ++ [(i, k)] := by simp [preL, List.range_succ]
theorem preL_end (fs : List Fu) (i : Nat) : preL fs i (fs.getD i zF).2.length = plL fs (i + 1) := by rw [plL_succ]; rfl
/-- It is the round that comes next. -/
def AtP (fs : List Fu) (pre : List (Nat × Nat)) (x : Nat × Nat) : Prop := x.1 < fs.length ∧ x.2 < (fs.getD x.1 zF).2.length ∧ pre = preL fs x.1 x.2
/-- Some of the first rounds. -/
def BegP (fs : List Fu) (pre : List (Nat × Nat)) : Prop := ∃ x, AtP fs (pre.dropLast) x ∧ pre = pre.dropLast ++ [x]
/-- A site and its place, as the range hands them on. -/
abbrev plE (fs : List Fu) (cv : Nat → Value) (fv : Value) (x : Nat × Nat) : Array Value := #[.agg #[.int .i64 (x.1 : Int), .int .i64 (x.2 : Int)], plV (fs.getD x.1 zF).1 (cv x.1) (x.2 : Int) fv]
/-- The functions of a program, with their codes' slices, where M does not turn. -/
def FunK (M : Nat → Prop) (w : World) (ao : Option Addr) (fs : List Fu) (cv : Nat → Value) : Prop :=
  ∀ i, i < fs.length → ∃ g off, ao = some ⟨g, off, none⟩ ∧ ¬ M g ∧ w.cell? ⟨g, off + i * 2, none⟩ = some (.int .i64 (fs.getD i zF).1) ∧ w.cell? ⟨g, off + i * 2 + 1, none⟩ = some (cv i) ∧ ∃ ac cc, cv i = .slice ac (fs.getD i zF).2.length cc ∧ (fs.getD i zF).2.length ≤ 9223372036854775807
theorem FunK.keep {M : Nat → Prop} {w w' : World} {ao : Option Addr} {fs : List Fu} {cv : Nat → Value} (h : FunK M w ao fs cv) (hk : KeepC M w w') : FunK M w' ao fs cv := fun i hi => by
  obtain ⟨g, off, e, hg, h0, h1, h2⟩ := h i hi
  exact ⟨g, off, e, hg, hk.cell hg h0, hk.cell hg h1, h2⟩
set_option maxRecDepth 100000 in
theorem places_any (ao : Option Addr) (len cap : Nat) (m r g : Int) (w : World) : Calls Tryz.prog 89 #[.agg #[.slice ao len cap, .int .i64 m, .int .i64 r, .int .i64 g]] w fun x w' =>
    x = .returned (.func (.func 97) #[] #[.pointer (some ⟨w.heap.size, 0, none⟩)]) ∧ w.alloc (.cells #[.slice ao len cap, .int .i64 m, .int .i64 r, .int .i64 g] 28) = w' := by
  go_enter Tryz.func89, Tryz.ntmps89
  go_wp2
  go_ret
  exact ⟨rfl, rfl⟩
set_option maxRecDepth 100000 in
set_option maxHeartbeats 8000000 in
theorem places1_in (B n : Nat) (hn : 1 ≤ n) (l Bw : Nat) (M : Nat → Prop) (ao : Option Addr) (cap : Nat) (fs : List Fu) (cv : Nat → Value) (hl : fs.length ≤ 9223372036854775807) (J Jx : List (Nat × Nat) → World → Prop) (W : World)
    (hJ : Stable W.heap.size J)
    (hY : ∀ pre x W1, J pre W1 → AtP fs pre x → YieldAt Fence.wide (n - 1) Tryz.prog l (plE fs cv (.slice ao fs.length cap) x) W1 fun z W' =>
      (z = .returned (.bool true) ∧ J (pre ++ [x]) W' ∧ KeepC M W1 W' ∧ KeepsFrom B W1 W') ∨ (z = .returned (.bool false) ∧ Jx (pre ++ [x]) W' ∧ KeepsFrom B W1 W'))
    (_hB : B ≤ W.heap.size) (hM : ∀ b, M b → b < W.heap.size) (hMB : ¬ M Bw) (c1 : W.cell? ⟨Bw, 0, none⟩ = some (.slice ao fs.length cap)) (hP : FunK M W ao fs cv) (h0 : J [] W) :
    CallsIn Fence.wide n Tryz.prog 97 #[.func (.yield l) #[] #[], .pointer (some ⟨Bw, 0, none⟩)] W fun z W' => (∃ v, z = .returned v) ∧
      ((∃ ys, ys = plL fs fs.length ∧ J ys W') ∨ (∃ pre, BegP fs pre ∧ Jx pre W')) := by
  have HY := Lib.hid hY; have HJ := Lib.hid hJ; have HP := Lib.hid hP; have HL := Lib.hid hl
  have HMs := Lib.hid (And.intro hM hMB)
  clear hY hJ hl hP hM hMB
  refine callsIn_of_wp Tryz.func97 rfl trivial ?_ rfl
  simp only [Tryz.ntmps97, List.size_toArray, List.length_cons, List.length_nil, Nat.reduceAdd, Nat.reduceSub, Array.replicate_succ, Array.replicate_zero, List.push_toArray, List.append_toArray, List.nil_append, List.cons_append]
  gi_wp2
  gi_loopw [9] (fun i wr => ∃ k : Nat, i = .int .i64 k ∧ k ≤ fs.length ∧ J (plL fs k) wr ∧ KeepC M W wr ∧ W.heap.size ≤ wr.heap.size) (fun i _ => fs.length + 1 - (intOf i).toNat)
  case atStart => exact ⟨0, rfl, Nat.zero_le _, h0, KeepC.refl _ _, Nat.le_refl _⟩
  case round =>
    obtain ⟨k, rfl, hk, hJs, hnx, hsz⟩ := hrel
    have HX := Lib.hid hnx; have HJs := Lib.hid hJs; have HSz := Lib.hid hsz
    have hlI : (fs.length : Int) ≤ 9223372036854775807 := by have := HL.out; omega
    clear hnx hJs hsz
    by_cases hlt : k < fs.length
    · obtain ⟨g, off, rfl, hg, k0, k1, ac, cc, hcv, hcl⟩ := (HP.out.keep HX.out) k hlt
      obtain ⟨rg, hrg⟩ : ∃ x, (fs.getD k zF).1 = x := ⟨_, rfl⟩
      obtain ⟨cl, hcle⟩ : ∃ x, (fs.getD k zF).2.length = x := ⟨_, rfl⟩
      rw [hrg] at k0
      rw [hcle] at hcv hcl
      rw [hcv] at k1
      have hltI : (k : Int) < (fs.length : Int) := by omega
      have hclI : (cl : Int) ≤ 9223372036854775807 := by omega
      have HLt := Lib.hid (And.intro hlt (And.intro hrg (And.intro hcle hcv)))
      obtain ⟨wa, hwa⟩ : ∃ wa, wr.alloc (.cells #[.int .i64 rg, .slice ac cl cc] 72) = wa := ⟨_, rfl⟩
      have HA := Lib.hid (show Adds wr wa by rw [← hwa]; exact (Gr.new _ _).adds)
      have bk : BkS 72 wa wr.heap.size [.int .i64 rg, .slice ac cl cc] := by rw [← hwa]; exact BkS.new _ _ _
      have HBk := Lib.hid bk
      have b1 : wa.cell? ⟨wr.heap.size, 1, none⟩ = some (.slice ac cl cc) := bk.cell 1
      clear hlt hrg hcle hcv hcl hk bk hg
      have HNb := Lib.hid (show W.heap.size ≤ wr.heap.size from HSz.out)
      gi_wp2
      obtain ⟨n8, hn8⟩ : ∃ n8, wr.heap.size = n8 := ⟨_, rfl⟩
      rw [hn8] at HBk HNb b1 ⊢
      clear hn8
      gi_loopw [17] (fun i wr2 => ∃ q : Nat, i = .int .i64 q ∧ q ≤ cl ∧ J (preL fs k q) wr2 ∧ KeepC M wa wr2 ∧ wa.heap.size ≤ wr2.heap.size ∧ BkS 72 wr2 n8 [.int .i64 rg, .slice ac cl cc]) (fun i _ => cl + 1 - (intOf i).toNat)
      case atStart =>
        refine ⟨0, rfl, Nat.zero_le _, ?_, KeepC.refl _ _, Nat.le_refl _, HBk.out⟩
        have h := HJ.out _ _ _ HJs.out (Below.mono HA.out HSz.out)
        simpa [preL] using h
      case round =>
        obtain ⟨q, rfl, hq, hJq, hkq, hsq, hbq⟩ := hrel
        have HXq := Lib.hid hkq; have HJq := Lib.hid hJq; have HSq := Lib.hid hsq; have HBq := Lib.hid hbq
        have d0 : wr.cell? ⟨n8, 0, none⟩ = some (.int .i64 rg) := hbq.cell 0
        have d1 : wr.cell? ⟨n8, 1, none⟩ = some (.slice ac cl cc) := hbq.cell 1
        have dp : wr.cell? ⟨Bw, 0, none⟩ = some (.slice (some ⟨g, off, none⟩) fs.length cap) := HXq.out.cell HMs.out.2 ((KeepC.of_below (M := M) HA.out).cell HMs.out.2 (HX.out.cell HMs.out.2 c1))
        clear hkq hJq hsq hbq
        by_cases hqt : q < cl
        · obtain ⟨fn, tmps, assign, body, hy, hR⟩ := HY.out _ (k, q) wr HJq.out ⟨HLt.out.1, by rw [HLt.out.2.2.1]; exact hqt, rfl⟩
          dsimp only [plE, plV] at hy
          rw [HLt.out.2.1, HLt.out.2.2.2] at hy
          have hqI : (q : Int) < (cl : Int) := by omega
          have HQt := Lib.hid hqt
          clear hqt hq
          gi_wp2
          refine hR.mono ?_
          rintro e W3 (⟨rfl, hJ3, hk3, hf3⟩ | ⟨rfl, hJx3, _⟩)
          · have HJ3 := Lib.hid hJ3; have HX3 := Lib.hid (HXq.out.trans hk3); have HS3 := Lib.hid (Nat.le_trans HSq.out hf3.size)
            have HB3 := Lib.hid (hk3 _ _ _ _ (fun hm => by have := HMs.out.1 _ hm; have := HNb.out; omega) HBq.out)
            clear hJ3 hk3 hf3 hR hy
            gi_wp2
            go_roundw
            case rel => exact ⟨q + 1, by go_num, HQt.out, by rw [preL_succ]; exact HJ3.out, HX3.out, HS3.out, HB3.out⟩
            case measure => simp [intOf]; have := HQt.out; omega
          · have HJ3 := Lib.hid hJx3
            clear hJx3 hR hy
            gi_wp2
            refine bodyPost_ret (results_none rfl _ _ _) rfl ?_
            refine ⟨⟨_, rfl⟩, .inr ⟨_, ⟨(k, q), ?_, ?_⟩, HJ3.out⟩⟩
            · rw [List.dropLast_concat]; exact ⟨HLt.out.1, by rw [HLt.out.2.2.1]; exact HQt.out, rfl⟩
            · rw [List.dropLast_concat]
        · obtain rfl : q = cl := by omega
          have HJe := Lib.hid (show J (plL fs (k + 1)) wr by have := HJq.out; rw [← HLt.out.2.2.1, preL_end] at this; exact this)
          have HXe := Lib.hid (HX.out.trans ((KeepC.of_below (M := M) HA.out).trans HXq.out))
          have HSe := Lib.hid (show W.heap.size ≤ wr.heap.size from Nat.le_trans HSz.out (Nat.le_trans HA.out.size HSq.out))
          clear hqt hq
          gi_wp2
          go_roundw
          case rel => exact ⟨k + 1, by go_num, HLt.out.1, HJe.out, HXe.out, HSe.out⟩
          case measure => simp [intOf]; have := HLt.out.1; omega
    · obtain rfl : k = fs.length := by omega
      clear hlt hk
      gi_wp2
      go_end0
      exact ⟨⟨_, rfl⟩, .inl ⟨_, rfl, HJs.out⟩⟩
end Go.Proofs.YthhegcngkpfcoaaGreat
