/- Merged: G7, G8, GB, BD. -/
import Derived.Test.YtdkgehhlikaocaaGreatY16
import Derived.Test.YtdkgehhlikaocaaGreatY6
import Derived.Lib.LaidTab
import Derived.Test.YtdkgehhlikaocaaGreatY0
namespace Go.Proofs.YtdkgehhlikaocaaGreat
open Go Go.RowKit Go.Shelf

/-- May an instruction be at a place? -/
def fineB (fs : List Fu) (f : Fu) (pc : Nat) (x : In) : Bool := mayI x && (decide (regsI x ≤ f.1) && (jumpsB f.2 x && (handsB fs x && leavesB f.2 pc x)))
/-- The ask that is the k-th method of a place. -/
def askF : Nat → FuncId | 0 => 98 | 1 => 99 | 2 => 100 | _ => 101
abbrev askV (p : Value) (k : Nat) : Value := .func (.func (askF k)) #[p] #[]
theorem enter_ask (k : Nat) (p v : Value) (w : World) : (callFunc (askF k) #[p, v]).run Tryz.prog w = .ok (.enter (askF k) #[p, v]) w := by
  match k with
  | 0 => exact enters_of Tryz.func98 (by kernel_rfl) rfl _ _
  | 1 => exact enters_of Tryz.func99 (by kernel_rfl) rfl _ _
  | 2 => exact enters_of Tryz.func100 (by kernel_rfl) rfl _ _
  | k + 3 => exact enters_of Tryz.func101 (by kernel_rfl) rfl _ _
set_option maxRecDepth 100000 in
set_option maxHeartbeats 2000000 in
theorem holds1_any (k : Nat) (p : Value) (ib : Nat) (x : In) (r : Bool) (w : World) (hi : BkS 56 w ib (insC x)) (h : Calls Tryz.prog (askF k) #[p, insV x] w fun e w' => e = .returned (.bool r) ∧ Adds w w') :
    Calls Tryz.prog 103 #[askV p k, .pointer (some ⟨ib, 0, none⟩)] w fun e w' => e = .returned (.bool r) ∧ Adds w w' := by
  have H := Lib.hid h
  have ea := enter_ask k p
  obtain ⟨x0, x1, x2, x3, x4⟩ := x
  have j0 : w.cell? ⟨ib, 0, none⟩ = some (.int .i64 x0) := hi.cell 0
  have j1 : w.cell? ⟨ib, 1, none⟩ = some (.int .i64 x1) := hi.cell 1
  have j2 : w.cell? ⟨ib, 2, none⟩ = some (.int .i64 x2) := hi.cell 2
  have j3 : w.cell? ⟨ib, 3, none⟩ = some (.int .i64 x3) := hi.cell 3
  have j4 : w.cell? ⟨ib, 4, none⟩ = some (.int .u32 x4) := hi.cell 4
  unfold askV
  generalize askF k = fk at H ea ⊢
  clear h hi
  go_enter Tryz.func103, Tryz.ntmps103
  go_wp2_with (go_at_fn fk; refine H.out.mono ?_; rintro e w2 ⟨rfl, q⟩; have HA := Lib.hid q; clear q)
  go_ret
  exact ⟨rfl, HA.out⟩
theorem rowA_cell (w : World) (p : Value) (t : TypeId) (k : Nat) (hk : k < 4) : (w.alloc (.cells #[.func (.func 98) #[p] #[], .func (.func 99) #[p] #[], .func (.func 100) #[p] #[], .func (.func 101) #[p] #[]] t)).cell? ⟨w.heap.size, k, none⟩ = some (askV p k) := by
  rw [cell_of_row _ w.heap.size k _ _ _ (heap_new w _)]
  match k, hk with
  | 0, _ | 1, _ | 2, _ | 3, _ => rfl
set_option maxRecDepth 100000 in
set_option maxHeartbeats 2000000 in
theorem everyA (p : Value) (ib gb : Nat) (b : Nat → Bool) (w : World) (hg : ∀ k, k < 4 → w.cell? ⟨gb, k, none⟩ = some (askV p k))
    (hh : ∀ k W, k < 4 → Adds w W → Calls Tryz.prog 103 #[askV p k, .pointer (some ⟨ib, 0, none⟩)] W fun e w' => e = .returned (.bool (b k)) ∧ Adds W w') :
    Calls Tryz.prog 102 #[.func (.func 103) #[] #[.pointer (some ⟨ib, 0, none⟩)], .slice (some ⟨gb, 0, none⟩) 4 4] w fun e w' => e = .returned (.bool ((List.range 4).all b)) ∧ Adds w w' := by
  have HG := Lib.hid hg
  have HH := Lib.hid hh
  clear hg hh
  go_enter Tryz.func102, Tryz.ntmps102
  go_wp2
  go_loopw [9] (fun i wr => ∃ k : Nat, i = .int .i64 k ∧ k ≤ 4 ∧ Hid ((List.range k).all b = true) ∧ Adds w wr) (fun i _ => 5 - (intOf i).toNat)
  case atStart => exact ⟨0, rfl, Nat.zero_le _, Lib.hid rfl, Adds.refl _⟩
  case round =>
    obtain ⟨k, rfl, hk, HT, hA⟩ := hrel
    have HA := Lib.hid hA
    clear hA
    by_cases hlt : k < 4
    · have ck : wr.cell? ⟨gb, k, none⟩ = some (askV p k) := HA.out.cellAt (HG.out k hlt)
      have HX := Lib.hid (HH.out k wr hlt HA.out)
      have hltI : (k : Int) < 4 := by omega
      have HK := Lib.hid (And.intro hlt hk)
      obtain ⟨r, hr⟩ : ∃ r, b k = r := ⟨_, rfl⟩
      rw [hr] at HX
      have HR := Lib.hid hr
      unfold askV at ck HX
      generalize askF k = fk at ck HX
      clear hlt hk hr
      cases r
      · go_wp2_with (go_at_call 103; refine HX.out.mono ?_; rintro e w1 ⟨rfl, q⟩; have HA2 := Lib.hid (Adds.trans HA.out q); clear q)
        go_ret
        refine ⟨?_, HA2.out⟩
        have e : (List.range 4).all b = false := by
          rw [List.all_eq_false]
          exact ⟨k, List.mem_range.2 HK.out.1, by rw [HR.out]; simp⟩
        rw [e]
        rfl
      · go_wp2_with (go_at_call 103; refine HX.out.mono ?_; rintro e w1 ⟨rfl, q⟩; have HA2 := Lib.hid (Adds.trans HA.out q); clear q)
        go_roundw
        case rel => exact ⟨k + 1, by go_num, HK.out.1, Lib.hid (by rw [List.range_succ, List.all_append, HT.out]; simp [HR.out]), HA2.out⟩
        case measure => simp [intOf]; have := HK.out; omega
    · obtain rfl : k = 4 := by omega
      have HE := Lib.hid HT.out
      clear hlt hk
      go_wp2
      go_ret
      rw [HE.out]
      exact ⟨rfl, HA.out⟩
set_option maxRecDepth 100000 in
set_option maxHeartbeats 4000000 in
theorem holdsPl_any {n : Nat} (r : Int) (ac : Option Addr) (cc : Nat) (c : List In) (pc : Nat) (hpc : pc < 9223372036854775807) (fo : Option Addr) (fc : Nat) (fs : List Fu) (x : In) (hx : OkIn x) (w : World) (hf : FuncsW n w (.slice fo fs.length fc) fs) :
    Calls Tryz.prog 89 #[plV r (.slice ac c.length cc) pc (.slice fo fs.length fc), insV x] w fun e w' => e = .returned (.bool (fineB fs (r, c) pc x)) ∧ Adds w w' := by
  have htb := two_boxes w r (.slice ac c.length cc) pc (.slice fo fs.length fc) x
  have hc0 := fun W => check8 x hx W
  have HAsk : Hid (∀ (k : Nat) (W : World), k < 4 → Adds w W → Calls Tryz.prog (askF k) #[plV r (.slice ac c.length cc) pc (.slice fo fs.length fc), insV x] W fun e w' => e = .returned (.bool ((fun k => match k with | 0 => decide (regsI x ≤ r) | 1 => jumpsB c x | 2 => handsB fs x | _ => leavesB c pc x) k)) ∧ Adds W w') := Lib.hid fun k W hk ha => by
    match k, hk with
    | 0, _ => exact names_any r ac c.length cc pc fo fs.length fc x hx W
    | 1, _ => exact jumps_any r ac cc c pc fo fs.length fc x hx W
    | 2, _ => exact hands_any r (.slice ac c.length cc) pc fo fc fs x hx W (hf.adds ha)
    | 3, _ => exact plleaves_any r ac cc c pc hpc fo fs.length fc x hx W
  have hfb : fineB fs (r, c) pc x = (mayI x && (List.range 4).all (fun k => match k with | 0 => decide (regsI x ≤ r) | 1 => jumpsB c x | 2 => handsB fs x | _ => leavesB c pc x)) := by
    unfold fineB
    simp [List.range_succ]
  rw [hfb]
  generalize (fun k => match k with | 0 => decide (regsI x ≤ r) | 1 => jumpsB c x | 2 => handsB fs x | _ => leavesB c pc x) = b at HAsk ⊢
  unfold errI at hc0
  have HP : Hid (∀ (ib : Nat) (k : Nat) (W : World), k < 4 → Adds w W → BkS 56 W ib (insC x) → Calls Tryz.prog 103 #[askV (plV r (.slice ac c.length cc) pc (.slice fo fs.length fc)) k, .pointer (some ⟨ib, 0, none⟩)] W fun e w' => e = .returned (.bool (b k)) ∧ Adds W w') :=
    Lib.hid fun ib k W hk ha hi => holds1_any k _ ib x (b k) W hi (HAsk.out k W hk ha)
  obtain ⟨x0, x1, x2, x3, x4⟩ := x
  obtain ⟨w1, hw1⟩ : ∃ w1, (w.alloc (.cells #[.int .i64 r, .slice ac c.length cc, .int .i64 pc, .slice fo fs.length fc] 131)).alloc (.cells #[.int .i64 x0, .int .i64 x1, .int .i64 x2, .int .i64 x3, .int .u32 x4] 56) = w1 := ⟨_, rfl⟩
  have e1 : (w.alloc (.cells #[.int .i64 r, .slice ac c.length cc, .int .i64 pc, .slice fo fs.length fc] 131)).alloc (.cells (insC (x0, x1, x2, x3, x4)).toArray 56) = w1 := hw1
  rw [e1] at htb
  have HA1 := Lib.hid htb.1
  have HB1 := Lib.hid htb.2.1
  have HB2 := Lib.hid htb.2.2
  have j0 : w1.cell? ⟨w.heap.size + 1, 0, none⟩ = some (.int .i64 x0) := htb.2.2.cell 0
  have j1 : w1.cell? ⟨w.heap.size + 1, 1, none⟩ = some (.int .i64 x1) := htb.2.2.cell 1
  have j2 : w1.cell? ⟨w.heap.size + 1, 2, none⟩ = some (.int .i64 x2) := htb.2.2.cell 2
  have j3 : w1.cell? ⟨w.heap.size + 1, 3, none⟩ = some (.int .i64 x3) := htb.2.2.cell 3
  have j4 : w1.cell? ⟨w.heap.size + 1, 4, none⟩ = some (.int .u32 x4) := htb.2.2.cell 4
  generalize c.length = cl at HP HB1 hw1 e1 ⊢
  generalize fs.length = fl at HP HB1 hw1 e1 ⊢
  cases hm : mayI (x0, x1, x2, x3, x4)
  · rw [hm] at hc0
    have HC := Lib.hid hc0
    clear htb e1 hx hf hm hc0 HAsk HP hfb
    go_enter Tryz.func89, Tryz.ntmps89
    go_wp2_with (go_at_call 97; refine (HC.out _).mono ?_; rintro e w2 ⟨rfl, q⟩; have HA2 := Lib.hid q; clear q)
    go_ret
    exact ⟨rfl, Adds.trans HA1.out HA2.out⟩
  · rw [hm] at hc0
    have HC := Lib.hid hc0
    clear htb e1 hx hf hm hc0 HAsk hfb
    go_enter Tryz.func89, Tryz.ntmps89
    go_wp2_with (first
      | (go_at_call 97; refine (HC.out _).mono ?_; rintro e w2 ⟨rfl, q⟩; have HA2 := Lib.hid (Adds.trans HA1.out q); have b1 := HB1.out.adds q; have b2 := HB2.out.adds q; have HB4 := Lib.hid b2; have p0 : w2.cell? ⟨w.heap.size, 0, none⟩ = some (.int .i64 r) := b1.cell 0; have p1 : w2.cell? ⟨w.heap.size, 1, none⟩ = some (.slice ac cl cc) := b1.cell 1; have p2 : w2.cell? ⟨w.heap.size, 2, none⟩ = some (.int .i64 pc) := b1.cell 2; have p3 : w2.cell? ⟨w.heap.size, 3, none⟩ = some (.slice fo fl fc) := b1.cell 3; clear q b1 b2)
      | (go_at_call 102; refine (everyA (plV r (.slice ac cl cc) pc (.slice fo fl fc)) (w.heap.size + 1) w2.heap.size b _ (fun k hk => rowA_cell w2 _ _ k hk) (fun k W hk ha => HP.out (w.heap.size + 1) k W hk (Adds.trans HA2.out (Adds.trans (Gr.new w2 _).adds ha)) (HB4.out.adds (Adds.trans (Gr.new w2 _).adds ha)))).mono ?_; rintro e w3 ⟨rfl, q⟩; have HA3 := Lib.hid (Adds.trans HA2.out (Adds.trans (Gr.new w2 _).adds q)); clear q))
    go_ret
    exact ⟨by rw [show (true && (List.range 4).all b) = (b 0 && (b 1 && (b 2 && b 3))) by simp [List.range_succ]]; rfl, HA3.out⟩
end Go.Proofs.YtdkgehhlikaocaaGreat
namespace Go.Proofs.YtdkgehhlikaocaaGreat
open Go Go.RowKit Go.Shelf
attribute [local go_sem] Oper.semAt_some

/-- All places: functions, then places in their code. -/
def rowP (fs : List Fu) (i : Nat) : List (Nat × Nat) := (List.range (fs.getD i zF).2.length).map fun k => (i, k)
def plL (fs : List Fu) (i : Nat) : List (Nat × Nat) := (List.range i).flatMap (rowP fs)
theorem plL_succ (fs : List Fu) (i : Nat) : plL fs (i + 1) = plL fs i ++ rowP fs i := by simp [plL, List.range_succ]
/-- The rounds that are ahead of place k of function i. -/
def preL (fs : List Fu) (i k : Nat) : List (Nat × Nat) := plL fs i ++ (List.range k).map fun k => (i, k)
theorem preL_succ (fs : List Fu) (i k : Nat) : preL fs i (k + 1) = preL fs i k ++ [(i, k)] := by simp [preL, List.range_succ]
theorem preL_end (fs : List Fu) (i : Nat) : preL fs i (fs.getD i zF).2.length = plL fs (i + 1) := by rw [plL_succ]; rfl
/-- It is the round that comes next. -/
def AtP (fs : List Fu) (pre : List (Nat × Nat)) (x : Nat × Nat) : Prop := x.1 < fs.length ∧ x.2 < (fs.getD x.1 zF).2.length ∧ pre = preL fs x.1 x.2
/-- Some of the first rounds. -/
def BegP (fs : List Fu) (pre : List (Nat × Nat)) : Prop := ∃ x, AtP fs (pre.dropLast) x ∧ pre = pre.dropLast ++ [x]
/-- A site and its place, as the range hands them on. -/
abbrev plE (fs : List Fu) (cv : Nat → Value) (fv : Value) (x : Nat × Nat) : Array Value := #[.agg #[.int .i64 (x.1 : Int), .int .i64 (x.2 : Int)], plV (fs.getD x.1 zF).1 (cv x.1) (x.2 : Int) fv]
/-- The functions of a program, with their codes' slices, where M does not turn. -/
def FunK (M : Nat → Prop) (w : World) (ao : Option Addr) (fs : List Fu) (cv : Nat → Value) : Prop :=
  ∀ i, i < fs.length → ∃ g off, ao = some ⟨g, off, none⟩ ∧ ¬ M g ∧ w.cell? ⟨g, off + i * 2, none⟩ = some (.int .i64 (fs.getD i zF).1) ∧ w.cell? ⟨g, off + i * 2 + 1, none⟩ = some (cv i) ∧ ∃ ac cc, cv i = .slice ac (fs.getD i zF).2.length cc ∧ (fs.getD i zF).2.length ≤ 9223372036854775807
theorem FunK.keep {M : Nat → Prop} {w w' : World} {ao : Option Addr} {fs : List Fu} {cv : Nat → Value} (h : FunK M w ao fs cv) (hk : KeepC M w w') : FunK M w' ao fs cv := fun i hi => by
  obtain ⟨g, off, e, hg, h0, h1, h2⟩ := h i hi
  exact ⟨g, off, e, hg, hk.cell hg h0, hk.cell hg h1, h2⟩
set_option maxRecDepth 100000 in
theorem places_any (ao : Option Addr) (len cap : Nat) (m r g : Int) (w : World) : Calls Tryz.prog 88 #[.agg #[.slice ao len cap, .int .i64 m, .int .i64 r, .int .i64 g]] w fun x w' =>
    x = .returned (.func (.func 96) #[] #[.pointer (some ⟨w.heap.size, 0, none⟩)]) ∧ w.alloc (.cells #[.slice ao len cap, .int .i64 m, .int .i64 r, .int .i64 g] 24) = w' := by
  go_enter Tryz.func88, Tryz.ntmps88
  go_wp2
  go_ret
  exact ⟨rfl, rfl⟩
set_option maxRecDepth 100000 in
set_option maxHeartbeats 8000000 in
theorem places1_in (B n : Nat) (hn : 1 ≤ n) (l Bw : Nat) (M : Nat → Prop) (ao : Option Addr) (cap : Nat) (fs : List Fu) (cv : Nat → Value) (hl : fs.length ≤ 9223372036854775807) (J Jx : List (Nat × Nat) → World → Prop) (W : World)
    (hJ : Stable W.heap.size J)
    (hY : ∀ pre x W1, J pre W1 → AtP fs pre x → YieldAt Fence.wide (n - 1) Tryz.prog l (plE fs cv (.slice ao fs.length cap) x) W1 fun z W' =>
      (z = .returned (.bool true) ∧ J (pre ++ [x]) W' ∧ KeepC M W1 W' ∧ KeepsFrom B W1 W') ∨ (z = .returned (.bool false) ∧ Jx (pre ++ [x]) W' ∧ KeepsFrom B W1 W'))
    (_hB : B ≤ W.heap.size) (hM : ∀ b, M b → b < W.heap.size) (hMB : ¬ M Bw) (c1 : W.cell? ⟨Bw, 0, none⟩ = some (.slice ao fs.length cap)) (hP : FunK M W ao fs cv) (h0 : J [] W) :
    CallsIn Fence.wide n Tryz.prog 96 #[.func (.yield l) #[] #[], .pointer (some ⟨Bw, 0, none⟩)] W fun z W' => (∃ v, z = .returned v) ∧
      ((∃ ys, ys = plL fs fs.length ∧ J ys W') ∨ (∃ pre, BegP fs pre ∧ Jx pre W')) := by
  have HY := Lib.hid hY; have HJ := Lib.hid hJ; have HP := Lib.hid hP; have HL := Lib.hid hl
  have HMs := Lib.hid (And.intro hM hMB)
  clear hY hJ hl hP hM hMB
  refine callsIn_of_wp Tryz.func96 rfl trivial ?_ rfl
  simp only [Tryz.ntmps96, List.size_toArray, List.length_cons, List.length_nil, Nat.reduceAdd, Nat.reduceSub, Array.replicate_succ, Array.replicate_zero, List.push_toArray, List.append_toArray, List.nil_append, List.cons_append]
  gi_wp2
  gi_loopw [9] (fun i wr => ∃ k : Nat, i = .int .i64 k ∧ k ≤ fs.length ∧ J (plL fs k) wr ∧ KeepC M W wr ∧ W.heap.size ≤ wr.heap.size) (fun i _ => fs.length + 1 - (intOf i).toNat)
  case atStart => exact ⟨0, rfl, Nat.zero_le _, h0, KeepC.refl _ _, Nat.le_refl _⟩
  case round =>
    obtain ⟨k, rfl, hk, hJs, hnx, hsz⟩ := hrel
    have HX := Lib.hid hnx; have HJs := Lib.hid hJs; have HSz := Lib.hid hsz
    have hlI : (fs.length : Int) ≤ 9223372036854775807 := by have := HL.out; omega
    clear hnx hJs hsz
    by_cases hlt : k < fs.length
    · obtain ⟨g, off, rfl, hg, k0, k1, ac, cc, hcv, hcl⟩ := (HP.out.keep HX.out) k hlt
      obtain ⟨rg, hrg⟩ : ∃ x, (fs.getD k zF).1 = x := ⟨_, rfl⟩
      obtain ⟨cl, hcle⟩ : ∃ x, (fs.getD k zF).2.length = x := ⟨_, rfl⟩
      rw [hrg] at k0
      rw [hcle] at hcv hcl
      rw [hcv] at k1
      have hltI : (k : Int) < (fs.length : Int) := by omega
      have hclI : (cl : Int) ≤ 9223372036854775807 := by omega
      have HLt := Lib.hid (And.intro hlt (And.intro hrg (And.intro hcle hcv)))
      obtain ⟨wa, hwa⟩ : ∃ wa, wr.alloc (.cells #[.int .i64 rg, .slice ac cl cc] 46) = wa := ⟨_, rfl⟩
      have HA := Lib.hid (show Adds wr wa by rw [← hwa]; exact (Gr.new _ _).adds)
      have bk : BkS 46 wa wr.heap.size [.int .i64 rg, .slice ac cl cc] := by rw [← hwa]; exact BkS.new _ _ _
      have HBk := Lib.hid bk
      have b1 : wa.cell? ⟨wr.heap.size, 1, none⟩ = some (.slice ac cl cc) := bk.cell 1
      clear hlt hrg hcle hcv hcl hk bk hg
      have HNb := Lib.hid (show W.heap.size ≤ wr.heap.size from HSz.out)
      gi_wp2
      obtain ⟨n8, hn8⟩ : ∃ n8, wr.heap.size = n8 := ⟨_, rfl⟩
      rw [hn8] at HBk HNb b1 ⊢
      clear hn8
      gi_loopw [17] (fun i wr2 => ∃ q : Nat, i = .int .i64 q ∧ q ≤ cl ∧ J (preL fs k q) wr2 ∧ KeepC M wa wr2 ∧ wa.heap.size ≤ wr2.heap.size ∧ BkS 46 wr2 n8 [.int .i64 rg, .slice ac cl cc]) (fun i _ => cl + 1 - (intOf i).toNat)
      case atStart =>
        refine ⟨0, rfl, Nat.zero_le _, ?_, KeepC.refl _ _, Nat.le_refl _, HBk.out⟩
        have h := HJ.out _ _ _ HJs.out (Below.mono HA.out HSz.out)
        simpa [preL] using h
      case round =>
        obtain ⟨q, rfl, hq, hJq, hkq, hsq, hbq⟩ := hrel
        have HXq := Lib.hid hkq; have HJq := Lib.hid hJq; have HSq := Lib.hid hsq; have HBq := Lib.hid hbq
        have d0 : wr.cell? ⟨n8, 0, none⟩ = some (.int .i64 rg) := hbq.cell 0
        have d1 : wr.cell? ⟨n8, 1, none⟩ = some (.slice ac cl cc) := hbq.cell 1
        have dp : wr.cell? ⟨Bw, 0, none⟩ = some (.slice (some ⟨g, off, none⟩) fs.length cap) := HXq.out.cell HMs.out.2 ((KeepC.of_below (M := M) HA.out).cell HMs.out.2 (HX.out.cell HMs.out.2 c1))
        clear hkq hJq hsq hbq
        by_cases hqt : q < cl
        · obtain ⟨fn, tmps, assign, body, hy, hR⟩ := HY.out _ (k, q) wr HJq.out ⟨HLt.out.1, by rw [HLt.out.2.2.1]; exact hqt, rfl⟩
          dsimp only [plE, plV] at hy
          rw [HLt.out.2.1, HLt.out.2.2.2] at hy
          have hqI : (q : Int) < (cl : Int) := by omega
          have HQt := Lib.hid hqt
          clear hqt hq
          gi_wp2
          refine hR.mono ?_
          rintro e W3 (⟨rfl, hJ3, hk3, hf3⟩ | ⟨rfl, hJx3, _⟩)
          · have HJ3 := Lib.hid hJ3; have HX3 := Lib.hid (HXq.out.trans hk3); have HS3 := Lib.hid (Nat.le_trans HSq.out hf3.size)
            have HB3 := Lib.hid (hk3 _ _ _ _ (fun hm => by have := HMs.out.1 _ hm; have := HNb.out; omega) HBq.out)
            clear hJ3 hk3 hf3 hR hy
            gi_wp2
            go_roundw
            case rel => exact ⟨q + 1, by go_num, HQt.out, by rw [preL_succ]; exact HJ3.out, HX3.out, HS3.out, HB3.out⟩
            case measure => simp [intOf]; have := HQt.out; omega
          · have HJ3 := Lib.hid hJx3
            clear hJx3 hR hy
            gi_wp2
            refine bodyPost_ret (results_none rfl _ _ _) rfl ?_
            refine ⟨⟨_, rfl⟩, .inr ⟨_, ⟨(k, q), ?_, ?_⟩, HJ3.out⟩⟩
            · rw [List.dropLast_concat]; exact ⟨HLt.out.1, by rw [HLt.out.2.2.1]; exact HQt.out, rfl⟩
            · rw [List.dropLast_concat]
        · obtain rfl : q = cl := by omega
          have HJe := Lib.hid (show J (plL fs (k + 1)) wr by have := HJq.out; rw [← HLt.out.2.2.1, preL_end] at this; exact this)
          have HXe := Lib.hid (HX.out.trans ((KeepC.of_below (M := M) HA.out).trans HXq.out))
          have HSe := Lib.hid (show W.heap.size ≤ wr.heap.size from Nat.le_trans HSz.out (Nat.le_trans HA.out.size HSq.out))
          clear hqt hq
          gi_wp2
          go_roundw
          case rel => exact ⟨k + 1, by go_num, HLt.out.1, HJe.out, HXe.out, HSe.out⟩
          case measure => simp [intOf]; have := HLt.out.1; omega
    · obtain rfl : k = fs.length := by omega
      clear hlt hk
      gi_wp2
      go_end0
      exact ⟨⟨_, rfl⟩, .inl ⟨_, rfl, HJs.out⟩⟩
end Go.Proofs.YtdkgehhlikaocaaGreat
namespace Go.Proofs.YtdkgehhlikaocaaGreat
open Go Go.RowKit
section
variable {F : Fence} {n : Nat} {P : Program}

theorem rangeFunc_S2 {α : Type} {g : Operand} {ps : Array Tmp} {assign body : Code} {Q : Exit → Act → World → Prop} {a : Act} {w : World}
    (hro : F.round = none) (h1 : 1 ≤ n) {gf : Nat} {lb : Array Value} (hg : a.eval g = .func (.func gf) #[] lb) (hFg : F.fn gf) (eg : ∀ args w, (callFunc gf args).run P w = .ok (.enter gf args) w)
    {encs : α → Array Value} {Kp : World → World → Prop} {S Sp : List α → Prop} {G : List α → α → Prop} {w0 : World} (hseq : SeqS F (n - 1) P gf lb encs Kp S Sp G w0)
    (hKt : ∀ {A B C : World}, Kp A B → Kp B C → Kp A C) (hKb : ∀ (W : World) (l : Nat) (o o' : Obj), w.heap.size ≤ l → W.heap[l]? = some o → o.isCells = false → o.isWalk = false → Kp W (W.putObj l o')) (hb0 : Below w0.heap.size w0 w) (hps : ∀ x, (encs x).size = ps.size)
    (I : List α → World → Prop) (Ix : Code → List α → World → Prop) (hI : Stable w.heap.size I) (hIx : ∀ c, Stable w.heap.size (Ix c)) (h0 : I [] w) (a₁ : α → Nat → Act) (ob ob2 : α → Obj) (hKa : ∀ (W : World) (o : Obj), w.heap.size ≤ W.heap.size → Kp W (W.alloc o))
    (hassign : ∀ (l : Nat) (x : α) (W : World) (b : Nat) (K : Act → World → Prop), W.heap.size = b → K (a₁ x b) ((W.alloc (ob x)).alloc (ob2 x)) →
      assign.wpIn (F.inRound l) (n - 1 - 1) P (Exit.then K (fun _ _ _ => False)) { tmps := (ps.zip (encs x)).foldl (fun t (p, v) => t.setIfInBounds p v) a.tmps, defers := [] } W)
    (hbody : ∀ (l : Nat) (pre : List α) (x : α) (W : World) (b : Nat), I pre W → G pre x → w.heap.size ≤ b → W.heap[b]? = some (ob x) → W.heap[b + 1]? = some (ob2 x) → body.wpIn (F.inRound l) (n - 1 - 1) P (ownPostG w.heap.size Kp I Ix (pre ++ [x]) W) (a₁ x b) W)
    (hdone : ∀ (D : Nat) (xs : List α) (W : World), w.heap.size ≤ D → S xs → I xs W → W.heap[D]? = some (.deferred (some [])) → Q .normal { a with defers := { target := .collected D, args := #[] } :: a.defers } W)
    (hstop : ∀ (D : Nat) (c : Code) (pre : List α) (W : World), w.heap.size ≤ D → Sp pre → Ix c pre W → W.heap[D]? = some (.deferred (some [])) → c.wpIn F n P Q { a with defers := { target := .collected D, args := #[] } :: a.defers } W) :
    (Code.rangeFunc g ps assign body).wpIn F n P Q a w := by
  refine wpIn_rangeFunc ?_
  intro fn hfn
  rw [hro]
  obtain ⟨rec, hrec⟩ : ∃ rec : LoopState → Option Code → Loop, rec = fun st pe => { state := st, pending := pe, fn, tmps := a.tmps, params := ps, assign, body, defers := w.heap.size } := ⟨_, rfl⟩
  obtain ⟨W1, hW1⟩ : ∃ W1, (w.alloc (.deferred (some []))).alloc (.loop (rec .ready none)) = W1 := ⟨_, rfl⟩
  have hL1 : W1.heap[w.heap.size + 1]? = some (.loop (rec .ready none)) := by
    rw [← hW1]; have := World.alloc_heap_new (w.alloc (.deferred (some []))) (.loop (rec .ready none)); rwa [World.size_alloc] at this
  have hK1 : W1.heap[w.heap.size]? = some (.deferred (some [])) := by
    rw [← hW1]; exact (Below.heap_alloc _ _ _ (by simp)).trans (World.alloc_heap_new w _)
  have hs1 : W1.heap.size = w.heap.size + 2 := by rw [← hW1]; simp
  have hI1 : I [] W1 := by rw [← hW1]; exact hI.alloc (by simp) _ (hI.alloc (Nat.le_refl _) _ h0)
  have hb1 : Below w0.heap.size w0 W1 := by
    rw [← hW1]; exact hb0.trans ((((Below.refl _ w).alloc (Nat.le_refl _) _).alloc (by simp) _).mono hb0.size)
  refine ⟨w.heap.size + 1, [{ target := .collected w.heap.size, args := #[] }], W1, { target := .fn (.func gf) lb, args := #[.func (.yield (w.heap.size + 1)) #[] #[]] }, W1, gf,
    #[.func (.yield (w.heap.size + 1)) #[] #[]] ++ lb, W1, ?_, ?_, ?_, ?_, fun _ => h1, ?_⟩
  · rw [← hW1, hrec]; exact run_enterLoop_outer _ _ _ _ _
  · simp only [resolve, hg]
    simp [go_sem]
  · intro f' hf'; simp [Target.leads] at hf'; subst hf'; exact hFg
  · simp [invoke, go_sem, eg]
  · -- what the caller keeps beside its own word: the loop's record and the block of its deferred calls, both older than all that may turn
    refine (hseq (w.heap.size + 1)
      (fun pre W => I pre W ∧ W.heap[w.heap.size + 1]? = some (.loop (rec .ready none)) ∧ W.heap[w.heap.size]? = some (.deferred (some [])))
      (fun pre W => ∃ c, Ix c pre W ∧ W.heap[w.heap.size + 1]? = some (.loop (rec .done (some c))) ∧ W.heap[w.heap.size]? = some (.deferred (some [])))
      W1 hb1
      (fun s A B hs hb => ⟨hI s A B hs.1 (hb.mono (by omega)), (hb.block _ (by omega)).trans hs.2.1, (hb.block _ (by omega)).trans hs.2.2⟩)
      (fun s A B hs hb => by
        obtain ⟨c, hc, hl, hk⟩ := hs
        exact ⟨c, hIx c s A B hc (hb.mono (by omega)), (hb.block _ (by omega)).trans hl, (hb.block _ (by omega)).trans hk⟩)
      ?_ ⟨hI1, hL1, hK1⟩).mono ?_
    · rintro pre x Wo ⟨hio, hlo, hko⟩ hlen
      have hlto : w.heap.size + 1 < Wo.heap.size := (Array.getElem?_eq_some_iff.1 hlo).1
      have hy := run_yield (P := P) (args := encs x) hlo (by rw [hrec]; exact hps x)
      rw [hrec] at hy
      obtain ⟨W, hW⟩ : ∃ W, (Wo.alloc (ob x)).alloc (ob2 x) = W := ⟨_, rfl⟩
      have hi : I pre W := by rw [← hW]; exact hI.alloc (by simp; omega) _ (hI.alloc (by omega) _ hio)
      have hl : W.heap[w.heap.size + 1]? = some (.loop (rec .ready none)) := by rw [← hW]; exact (Below.heap_alloc _ _ _ (by simp; omega)).trans ((Below.heap_alloc _ _ _ hlto).trans hlo)
      have hk : W.heap[w.heap.size]? = some (.deferred (some [])) := by rw [← hW]; exact (Below.heap_alloc _ _ _ (by simp; omega)).trans ((Below.heap_alloc _ _ _ (by omega)).trans hko)
      have hnew : W.heap[Wo.heap.size]? = some (ob x) := by rw [← hW]; exact (Below.heap_alloc _ _ _ (by simp)).trans (World.alloc_heap_new _ _)
      have hnew2 : W.heap[Wo.heap.size + 1]? = some (ob2 x) := by rw [← hW]; have := World.alloc_heap_new (Wo.alloc (ob x)) (ob2 x); rwa [World.size_alloc] at this
      have hwo : Kp Wo W := by rw [← hW]; exact hKt (hKa Wo (ob x) (by omega)) (hKa _ (ob2 x) (by simp; omega))
      have hkw : ∀ (B : Nat) (W' : World), KeepsFrom B W W' → KeepsFrom B Wo W' := fun B W' h => ⟨Nat.le_trans (by rw [← hW]; simp only [World.size_alloc]; omega) h.size, fun k o hk ho hc => h.same k o hk (by rw [← hW]; exact (Below.heap_alloc _ _ k (by have := (Array.getElem?_eq_some_iff.1 ho).1; simp only [World.size_alloc]; omega)).trans ((Below.heap_alloc _ _ k (Array.getElem?_eq_some_iff.1 ho).1).trans ho)) hc⟩
      have hlt : w.heap.size + 1 < W.heap.size := (Array.getElem?_eq_some_iff.1 hl).1
      refine ⟨fn, _, assign, body, hy, roundIn_of_wpIn hfn (hassign _ x Wo _ _ rfl ?_)⟩
      rw [hW]
      refine ⟨_, run_beginRound hl (by rw [hrec]), ?_⟩
      have hl2 : (W.putObj (w.heap.size + 1) (.loop { rec .ready none with state := .busy })).heap[w.heap.size + 1]? = some (.loop { rec .ready none with state := .busy }) := World.putObj_heap_same hlt
      have hk2 : (W.putObj (w.heap.size + 1) (.loop { rec .ready none with state := .busy })).heap[w.heap.size]? = some (.deferred (some [])) := (World.putObj_heap_other (by omega)).trans hk
      have hw2 : Kp W (W.putObj (w.heap.size + 1) (.loop { rec .ready none with state := .busy })) := hKb _ _ _ _ (by omega) hl rfl rfl
      refine wpIn_mono (hbody _ pre x _ Wo.heap.size (hI.putObj _ hi (by omega) hl rfl) hlen (by omega) ((World.putObj_heap_other (by omega)).trans hnew) ((World.putObj_heap_other (by omega)).trans hnew2)) ?_
      have fin : ∀ (jump : Option Code) (W3 : World), KeepsFrom w.heap.size (W.putObj (w.heap.size + 1) (.loop { rec .ready none with state := .busy })) W3 →
          (Instr.endRound (w.heap.size + 1) jump).run P W3 = .ok (.bool jump.isNone) (W3.putObj (w.heap.size + 1) (.loop (rec (if jump.isNone then .ready else .done) jump))) ∧
          W3.heap[w.heap.size + 1]? = some (.loop { rec .ready none with state := .busy }) ∧
          (W3.putObj (w.heap.size + 1) (.loop (rec (if jump.isNone then .ready else .done) jump))).heap[w.heap.size + 1]? = some (.loop (rec (if jump.isNone then .ready else .done) jump)) ∧
          (W3.putObj (w.heap.size + 1) (.loop (rec (if jump.isNone then .ready else .done) jump))).heap[w.heap.size]? = some (.deferred (some [])) := fun jump W3 hk3 => by
        have hl3 := hk3.same _ _ (by omega) hl2 rfl
        have := run_endRound (P := P) jump hl3
        rw [hrec] at this ⊢
        exact ⟨this, by rw [hrec] at hl3; exact hl3, World.putObj_heap_same (Array.getElem?_eq_some_iff.1 hl3).1, (World.putObj_heap_other (by omega)).trans (hk3.same _ _ (Nat.le_refl _) hk2 rfl)⟩
      have kf : ∀ (o : Obj) (W3 : World), KeepsFrom w.heap.size (W.putObj (w.heap.size + 1) (.loop { rec .ready none with state := .busy })) W3 → KeepsFrom W1.heap.size Wo (W3.putObj (w.heap.size + 1) o) := fun o W3 hk3 => by
        refine hkw _ _ ⟨?_, fun k x hk hx hc => ?_⟩
        · exact Nat.le_trans (grownBy_putObj' W _ _).size (Nat.le_trans hk3.size (grownBy_putObj' W3 _ o).size)
        · rw [World.putObj_heap_other (by omega)]
          exact hk3.same _ _ (by omega) ((World.putObj_heap_other (by omega)).trans hx) hc
      have out : ∀ (c : Code) (W3 : World), KeepsFrom w.heap.size (W.putObj (w.heap.size + 1) (.loop { rec .ready none with state := .busy })) W3 → Ix c (pre ++ [x]) W3 →
          (Instr.endRound (w.heap.size + 1) (some c)).run P W3 = .ok (.bool false) (W3.putObj (w.heap.size + 1) (.loop (rec .done (some c)))) ∧
          (∃ c', Ix c' (pre ++ [x]) (W3.putObj (w.heap.size + 1) (.loop (rec .done (some c)))) ∧ (W3.putObj (w.heap.size + 1) (.loop (rec .done (some c)))).heap[w.heap.size + 1]? = some (.loop (rec .done (some c'))) ∧
            (W3.putObj (w.heap.size + 1) (.loop (rec .done (some c)))).heap[w.heap.size]? = some (.deferred (some []))) := fun c W3 hk3 hi3 => by
        obtain ⟨hr, hl3, hl4, hk4⟩ := fin (some c) W3 hk3
        exact ⟨hr, c, (hIx _).putObj _ hi3 (by omega) hl3 rfl, hl4, hk4⟩
      rintro e a3 W3 hp
      cases e with
      | normal =>
        obtain ⟨hk3, hkp3, hi3⟩ := hp
        obtain ⟨hr, hl3, hl4, hk4⟩ := fin none W3 hk3
        exact ⟨_, _, hr, .inl ⟨rfl, ⟨hI.putObj _ hi3 (by omega) hl3 rfl, hl4, hk4⟩, hKt hwo (hKt (hKt hw2 hkp3) (hKb _ _ _ _ (by omega) hl3 rfl rfl)), kf _ _ hk3⟩⟩
      | ret => obtain ⟨hr, h⟩ := out .ret W3 hp.1 hp.2; exact ⟨_, _, hr, .inr ⟨rfl, h, kf _ _ hp.1⟩⟩
      | exit id => obtain ⟨hr, h⟩ := out (.exit id) W3 hp.1 hp.2; exact ⟨_, _, hr, .inr ⟨rfl, h, kf _ _ hp.1⟩⟩
      | goto t => obtain ⟨hr, h⟩ := out (.goto t) W3 hp.1 hp.2; exact ⟨_, _, hr, .inr ⟨rfl, h, kf _ _ hp.1⟩⟩
      | panic ch => exact hp.elim
      | outgrown => exact hp.elim
    · rintro e W2 ⟨⟨v, rfl⟩, (⟨xs, hS, hi, hl, hk⟩ | ⟨pre, hSp, c, hi, hl, hk⟩)⟩
      · exact ⟨none, _, by have := run_endLoop (P := P) hl (by rw [hrec]; simp); rw [hrec] at this; exact this, hdone _ xs _ (Nat.le_refl _) hS (hI.putObj _ hi (by omega) hl rfl) ((World.putObj_heap_other (by omega)).trans hk)⟩
      · exact ⟨some c, _, by have := run_endLoop (P := P) hl (by rw [hrec]; simp); rw [hrec] at this; exact this, hstop _ c pre _ (Nat.le_refl _) hSp ((hIx c).putObj _ hi (by omega) hl rfl) ((World.putObj_heap_other (by omega)).trans hk)⟩
end
end Go.Proofs.YtdkgehhlikaocaaGreat
namespace Go.Proofs.YtdkgehhlikaocaaGreat
open Go Go.RowKit Go.Shelf
attribute [local go_sem] Oper.semAt_some

def nmB : List (List UInt8) := [[97, 100, 100], [115, 117, 98], [109, 117, 108], [100, 105, 118], [109, 111, 100], [97, 110, 100], [111, 114], [120, 111, 114], [115, 104, 108], [115, 104, 114], [108, 101, 115, 115], [101, 113, 117, 97, 108]]
def nm (i : Nat) : ByteArray := str (nmB.getD i [])
def nmV (i : Nat) : Value := .string (nm i)
end Go.Proofs.YtdkgehhlikaocaaGreat
namespace Go.Proofs.YtdkgehhlikaocaaGreat
open Go Go.RowKit Go.Shelf
attribute [local go_sem] Oper.semAt_some

/-- The document's list of names, in a world. -/
def NamesAt (n : Nat) (w : World) (v : Value) : Prop := ∃ b, v = .slice (some ⟨b, 0, none⟩) 12 12 ∧ n ≤ b ∧ ∀ i, i < 12 → w.cell? ⟨b, i, none⟩ = some (nmV i)
theorem NamesAt.adds {n : Nat} {w w' : World} {v : Value} (h : NamesAt n w v) (ha : Adds w w') : NamesAt n w' v := by
  obtain ⟨b, rfl, hb, hc⟩ := h
  exact ⟨b, rfl, hb, fun i hi => ha.cellAt (hc i hi)⟩
end Go.Proofs.YtdkgehhlikaocaaGreat
