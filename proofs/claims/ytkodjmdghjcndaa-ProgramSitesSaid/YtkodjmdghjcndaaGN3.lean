/- The iterator over a program's sites: its contract, at the wide fence. -/
import Derived.Test.YtkodjmdghjcndaaGN2
import Derived.Test.YtkodjmdghjcndaaGB
import Derived.Test.YtkodjmdghjcndaaG9
namespace Go.Proofs.Ytkodjmdghjcndaa
open Go Go.RowKit Go.Shelf
attribute [local go_sem] Oper.semAt_some

def siX (fs : List Fu) (x : Nat) : Nat × Nat := (sitesL fs).getD x (0, 0)
/-- Round x: its number, and its site. -/
abbrev ixS (fs : List Fu) (x : Nat) : Array Value := #[.int .i64 (x : Int), .agg #[.int .i64 ((siX fs x).1 : Int), .int .i64 ((siX fs x).2 : Int)]]
def AtJ9 (N : Nat) (pre : List Nat) (x : Nat) : Prop := x < N ∧ pre = List.range x
def cntS (fs : List Fu) (pre : List (Nat × Nat)) : Nat := (pre.filter (isLS fs)).length
/-- A place with a load or a store is the next site. -/
theorem site_at {fs : List Fu} {pre : List (Nat × Nat)} {x : Nat × Nat} (h : AtP fs pre x) (hx : isLS fs x = true) : cntS fs pre < (sitesL fs).length ∧ siX fs (cntS fs pre) = x ∧ cntS fs (pre ++ [x]) = cntS fs pre + 1 := by
  obtain ⟨t, ht⟩ := plL_at h
  have hs : sitesL fs = pre.filter (isLS fs) ++ x :: t.filter (isLS fs) := by unfold sitesL; rw [ht, List.filter_append, List.filter_cons_of_pos hx]
  refine ⟨by rw [hs]; simp [cntS], ?_, by simp [cntS, hx]⟩
  unfold siX cntS
  rw [hs, List.getD_eq_getElem?_getD, List.getElem?_append_right (Nat.le_refl _)]
  simp
theorem cnt_no {fs : List Fu} {pre : List (Nat × Nat)} {x : Nat × Nat} (hx : isLS fs x = false) : cntS fs (pre ++ [x]) = cntS fs pre := by simp [cntS, hx]
theorem cnt_all (fs : List Fu) : cntS fs (plL fs fs.length) = (sitesL fs).length := rfl
theorem keepC_stable9 (M : Nat → Prop) {B : Nat} {W : World} (hB : W.heap.size ≤ B) {β : Type} : Stable B (fun (_ : β) W' => KeepC M W W') := fun _ A C h hb k c e f hk hc => by
  have hlt := (Array.getElem?_eq_some_iff.1 hc).1
  rw [hb.block k (by omega)]
  exact h k c e f hk hc
theorem keepsFrom_up9 {B B' : Nat} {W W' : World} (h : KeepsFrom B W W') (hB : B ≤ B') : KeepsFrom B' W W' := ⟨h.size, fun k o hk ho hc => h.same k o (Nat.le_trans hB hk) ho hc⟩
theorem CodeW.keep {M : Nat → Prop} {n : Nat} {w w' : World} {ac : Option Addr} {cc : Nat} {c : List In} (h : CodeW n w (.slice ac c.length cc) c) (hk : KeepC M w w') (hM : c ≠ [] → ∀ b o, ac = some ⟨b, o, none⟩ → ¬ M b) : CodeW n w' (.slice ac c.length cc) c := by
  obtain ⟨ac', cc', e, h1, h2, h3⟩ := h
  simp only [Value.slice.injEq, true_and] at e
  obtain ⟨rfl, rfl⟩ := e
  refine ⟨ac, cc, rfl, h1, h2, fun hl => ?_⟩
  obtain ⟨g, off, e, hg, hc⟩ := h3 hl
  have hn := hM hl g off e
  exact ⟨g, off, e, hg, fun i hi => by obtain ⟨k0, k1, k2, k3, k4⟩ := hc i hi; exact ⟨hk.cell hn k0, hk.cell hn k1, hk.cell hn k2, hk.cell hn k3, hk.cell hn k4⟩⟩
/-- The functions and their codes, where M does not turn. -/
structure KeptP (M : Nat → Prop) (w : World) (ao : Option Addr) (fs : List Fu) (q : Nat → Option Addr × Nat) : Prop where
  funcs : FunK M w ao fs (fun i => .slice (q i).1 (fs.getD i zF).2.length (q i).2)
  codes : ∀ i, i < fs.length → (∃ n, CodeW n w (.slice (q i).1 (fs.getD i zF).2.length (q i).2) (fs.getD i zF).2) ∧ ((fs.getD i zF).2 ≠ [] → ∀ b o, (q i).1 = some ⟨b, o, none⟩ → ¬ M b)
theorem KeptP.keep {M : Nat → Prop} {w w' : World} {ao : Option Addr} {fs : List Fu} {q : Nat → Option Addr × Nat} (h : KeptP M w ao fs q) (hk : KeepC M w w') : KeptP M w' ao fs q :=
  ⟨h.funcs.keep hk, fun i hi => by obtain ⟨⟨n, hc⟩, hm⟩ := h.codes i hi; exact ⟨⟨n, hc.keep hk hm⟩, hm⟩⟩
theorem KeptP.more {M M' : Nat → Prop} {w : World} {ao : Option Addr} {fs : List Fu} {q : Nat → Option Addr × Nat} (h : KeptP M w ao fs q) (hm : ∀ b, b < w.heap.size → ¬ M b → ¬ M' b) : KeptP M' w ao fs q := by
  refine ⟨fun i hi => ?_, fun i hi => ?_⟩
  · obtain ⟨g, off, e, hg, k0, k1, h2⟩ := h.funcs i hi
    exact ⟨g, off, e, hm g (World.block_lt_of_cell? w _ k0) hg, k0, k1, h2⟩
  · obtain ⟨⟨n, hc⟩, hb⟩ := h.codes i hi
    refine ⟨⟨n, hc⟩, fun hne b o e => ?_⟩
    obtain ⟨g, off, e', _, hat⟩ := hc.at (i := 0) (List.length_pos_iff.2 hne)
    have e2 := e'.symm.trans e
    simp only [Option.some.injEq, Addr.mk.injEq, and_true] at e2
    exact hm b (by rw [← e2.1]; exact World.block_lt_of_cell? w _ hat.1) (hb hne b o e)

theorem keepC_sub {M M' : Nat → Prop} {W W' : World} (h : KeepC M W W') (hm : ∀ b, M b → M' b) : KeepC M' W W' := fun k c e f hk hc => h k c e f (fun h' => hk (hm _ h')) hc
theorem keepC_or (M : Nat → Prop) (W : World) (B : Nat) (u : Value) : KeepC (fun b => M b ∨ b = B) W (W.setCell ⟨B, 0, none⟩ u) := fun _ _ _ _ hk hc => (Below.heap_setCell W _ _ _ (fun e => hk (Or.inr e))).trans hc
theorem sitesL_len (fs : List Fu) (hl : fs.length ≤ 40) (hc : ∀ f ∈ fs, f.2.length ≤ 1600) : (sitesL fs).length ≤ 64000 := by
  refine Nat.le_trans (List.length_filter_le _ _) ?_
  rw [plL_len fs _ (Nat.le_refl _)]
  exact sum_small (rfl : fs.length = fs.length) hl hc
set_option maxRecDepth 100000 in
set_option maxHeartbeats 4000000 in
theorem sites1_in (n : Nat) (hn : 4 ≤ n) (l Bk : Nat) (M : Nat → Prop) (ao : Option Addr) (cap : Nat) (fs : List Fu) (x1 x2 x3 : Int) (q : Nat → Option Addr × Nat) (hl : fs.length ≤ 40) (hc : ∀ f ∈ fs, f.2.length ≤ 1600) (J Jx : List Nat → World → Prop)
    (W : World) (hJ : Stable W.heap.size J) (hJx : Stable W.heap.size Jx)
    (hY : ∀ pre x W1, J pre W1 → AtJ9 (sitesL fs).length pre x → YieldAt Fence.wide (n - 1) Try.prog l (ixS fs x) W1 fun z W' =>
      (z = .returned (.bool true) ∧ J (pre ++ [x]) W' ∧ KeepC M W1 W' ∧ KeepsFrom W.heap.size W1 W') ∨ (z = .returned (.bool false) ∧ Jx (pre ++ [x]) W' ∧ KeepsFrom W.heap.size W1 W'))
    (hM : ∀ b, M b → b < W.heap.size) (hMk : ¬ M Bk) (hB : BkS 24 W Bk [.slice ao fs.length cap, .int .i64 x1, .int .i64 x2, .int .i64 x3]) (hP : KeptP M W ao fs q) (h0 : J [] W) :
    CallsIn Fence.wide n Try.prog 18 #[.func (.yield l) #[] #[], .pointer (some ⟨Bk, 0, none⟩)] W fun z W' => (∃ v, z = .returned v) ∧
      ((∃ ys, ys = List.range (sitesL fs).length ∧ J ys W') ∨ (∃ pre, (∃ j, j ≤ (sitesL fs).length ∧ pre = List.range j) ∧ Jx pre W')) := by
  have HY := Lib.hid hY; have HJ := Lib.hid hJ; have HJX := Lib.hid hJx; have HM := Lib.hid hM; have HP := Lib.hid hP; have HL := Lib.hid hl; have HC := Lib.hid hc; have HMk := Lib.hid hMk; have HBk := Lib.hid hB
  clear hY hJ hJx hM hl hc hMk hP hB
  refine callsIn_of_wp_marks Try.func18 rfl trivial ?_ rfl
  simp only [Try.ntmps18, List.size_toArray, List.length_cons, List.length_nil, Nat.reduceAdd, Nat.reduceSub, Array.replicate_succ, Array.replicate_zero, List.push_toArray, List.append_toArray, List.nil_append, List.cons_append]
  gi_wp2
  refine wpIn_scope_straight ?_
  gi_wp2
  refine wpIn_label ?_
  obtain ⟨Wa, hWa⟩ : ∃ Wa, (W.alloc (Obj.cells #[Value.func (Fn.yield l) #[] #[]] 51)).alloc (Obj.cells #[Value.int IntKind.i64 0] 3) = Wa := ⟨_, rfl⟩
  have HA := Lib.hid (hWa ▸ ((Gr.new W _).alloc _).adds : Adds W Wa)
  have hy0 : BkS 51 Wa W.heap.size [.func (.yield l) #[] #[]] := by rw [← hWa]; exact (BkS.new _ _ _).adds (Gr.new _ _).adds
  have hm0 : BkS 3 Wa (W.heap.size + 1) [.int .i64 ((0 : Nat) : Int)] := by
    rw [← hWa]
    have h := BkS.new 3 (W.alloc (Obj.cells #[Value.func (Fn.yield l) #[] #[]] 51)) [.int .i64 ((0 : Nat) : Int)]
    simpa using h
  have hsa : Wa.heap.size = W.heap.size + 2 := by rw [← hWa]; simp
  have HSa := Lib.hid hsa
  have HY0 := Lib.hid hy0
  have HM0 := Lib.hid hm0
  have HBa := Lib.hid (HBk.out.adds HA.out)
  have ca0 : Wa.cell? ⟨Bk, 0, none⟩ = some (.slice ao fs.length cap) := HBa.out.cell 0
  have ca1 : Wa.cell? ⟨Bk, 1, none⟩ = some (.int .i64 x1) := HBa.out.cell 1
  have ca2 : Wa.cell? ⟨Bk, 2, none⟩ = some (.int .i64 x2) := HBa.out.cell 2
  have ca3 : Wa.cell? ⟨Bk, 3, none⟩ = some (.int .i64 x3) := HBa.out.cell 3
  rw [hWa]
  clear hWa hsa hy0 hm0
  have h1n : 1 ≤ n := by omega
  gi_wp2_with (refine ⟨trivial, ?_⟩; gi_at_call 19; refine (callsIn_wide.2 (places_any _ _ _ _ _ _ _)).mono ?_; rintro e Wb ⟨rfl, hWb⟩)
  have HB := Lib.hid (show Adds Wa Wb by rw [← hWb]; exact (Gr.new _ _).adds)
  have HSb := Lib.hid (show Wb.heap.size = Wa.heap.size + 1 by rw [← hWb]; simp)
  have cb0 : Wb.cell? ⟨Wa.heap.size, 0, none⟩ = some (.slice ao fs.length cap) := by rw [← hWb]; simp
  have HAB := Lib.hid (Adds.trans HA.out HB.out)
  have HYb := Lib.hid (HY0.out.adds HB.out)
  have HMb := Lib.hid (HM0.out.adds HB.out)
  have HPb := Lib.hid (show KeptP (fun b => M b ∨ b = W.heap.size + 1) Wb ao fs q from (HP.out.more (M' := fun b => M b ∨ b = W.heap.size + 1) (fun b hb hm h => h.elim hm (fun e => by omega))).keep (KeepC.of_below HAB.out))
  clear hWb ca0 ca1 ca2 ca3
  have hz := HAB.out.size
  have hza := HSa.out
  have hzb := HSb.out
  refine' rangeFunc_S2 rfl (by omega) (gf := 28) (lb := #[.pointer (some ⟨Wa.heap.size, 0, none⟩)]) rfl trivial (enters_of Try.func28 (by kernel_rfl) rfl)
    (w0 := Wb) (G := AtP fs) (encs := plE fs (fun i => .slice (q i).1 (fs.getD i zF).2.length (q i).2) (.slice ao fs.length cap)) (Kp := KeepC (fun b => M b ∨ b = W.heap.size + 1)) (S := fun xs => xs = plL fs fs.length) (Sp := BegP fs)
    ?seq KeepC.trans (fun W l o o' _ h hc _ => KeepC.put W l o o' h hc) (Below.refl _ _) (fun _ => rfl)
    (fun pre V => J (List.range (cntS fs pre)) V ∧ KeepC (fun b => M b ∨ b = W.heap.size + 1) Wb V ∧ BkS 3 V (W.heap.size + 1) [.int .i64 ((cntS fs pre : Nat) : Int)])
    (fun c _ V => c = .exit 0 ∧ ∃ j, j ≤ (sitesL fs).length ∧ Jx (List.range j) V)
    ?own ?ownx ?h0 _ (fun x => .cells (siC (x.1 : Int) (x.2 : Int)).toArray 34 (0, 0)) (fun x => .cells (plC (fs.getD x.1 zF).1 (.slice (q x.1).1 (fs.getD x.1 zF).2.length (q x.1).2) x.2 (.slice ao fs.length cap)).toArray 56 (0, 0)) (fun W o _ => KeepC.of_below (Gr.new W o).adds) ?assign ?body ?done ?stop
  case assign =>
    intro l2 x W2 bb K hbb hK
    have HK := Lib.hid hK; clear hK
    gi_wp2
    exact HK.out
  case own => exact fun s A B hs hb => ⟨HJ.out _ _ _ hs.1 (hb.mono (by omega)), keepC_stable9 _ (Nat.le_refl _) s _ _ hs.2.1 hb, (hb.block _ (by omega)).trans hs.2.2⟩
  case ownx => exact fun c s A B hs hb => ⟨hs.1, by obtain ⟨_, j, hj, h⟩ := hs; exact ⟨j, hj, HJX.out _ _ _ h (hb.mono (by omega))⟩⟩
  case seq =>
    intro l' J' Jx' W2 hb hJ' hJx' hY' h0'
    have hs2 := hb.size
    exact places1_in W2.heap.size (n - 1) (by omega) l' _ _ ao cap fs _ (by have := HL.out; omega) J' Jx' W2 hJ' hY' (Nat.le_refl _) (fun b h => by rcases h with h | h; (· have := HM.out _ h; omega); omega) (fun h => by rcases h with h | h; (· have := HM.out _ h; omega); omega) (Adds.cellAt hb cb0) (HPb.out.keep (KeepC.of_below hb)).funcs h0'
  case h0 => exact ⟨HJ.out _ _ _ h0 HAB.out, KeepC.refl _ _, HMb.out⟩
  case body =>
    rintro l2 pre ⟨xf, xp⟩ W2 bb ⟨hJ2, hk2, hm2⟩ hg hbb hbo hbo2
    obtain ⟨hx1, hx2, hpre⟩ := id hg
    simp only at hx1 hx2 hbo hbo2
    have hP2 := HPb.out.keep hk2
    obtain ⟨⟨nn, hcd⟩, hcm⟩ := hP2.codes xf hx1
    obtain ⟨⟨ac, cc⟩, hq⟩ : ∃ y, q xf = y := ⟨_, rfl⟩
    rw [hq] at hcd hbo2
    simp only [hq]
    have HIn := Lib.hid (fun (V : World) (h : Adds W2 V) => ins_any (fs.getD xf zF).1 ac cc (fs.getD xf zF).2 xp (.slice ao fs.length cap) V (hcd.adds h) hx2)
    obtain ⟨⟨op, y1, y2, y3, y4⟩, hop⟩ : ∃ y, (fs.getD xf zF).2.getD xp zI = y := ⟨_, rfl⟩
    have hls : isLS fs (xf, xp) = lsB op := by unfold isLS; rw [hop]
    rw [hop] at HIn
    generalize (fs.getD xf zF).1 = rg at HIn hbo2
    generalize (fs.getD xf zF).2.length = cl at HIn hbo2 hx2
    have HSi := Lib.hid (show BkS 34 W2 bb (siC xf xp) from hbo)
    have HPl := Lib.hid (show BkS 56 W2 (bb + 1) (plC rg (.slice ac cl cc) xp (.slice ao fs.length cap)) from hbo2)
    have HY2 : Hid (BkS 51 W2 W.heap.size [.func (.yield l) #[] #[]]) := Lib.hid (hk2 _ _ _ _ (fun h => by rcases h with h | h; (· have := HM.out _ h; omega); omega) HYb.out)
    have HD := Lib.hid (And.intro hJ2 (And.intro hk2 hm2))
    have HG := Lib.hid hg
    have p0 : W2.cell? ⟨bb + 1, 0, none⟩ = some (.int .i64 rg) := HPl.out.cell 0
    have p1 : W2.cell? ⟨bb + 1, 1, none⟩ = some (.slice ac cl cc) := HPl.out.cell 1
    have p2 : W2.cell? ⟨bb + 1, 2, none⟩ = some (.int .i64 (xp : Int)) := HPl.out.cell 2
    have p3 : W2.cell? ⟨bb + 1, 3, none⟩ = some (.slice ao fs.length cap) := HPl.out.cell 3
    have hd : 1 ≤ n - 1 - 1 := by omega
    have HIx := Lib.hid (fun (V : World) (h : Adds W2 V) => show Calls Try.prog 20 #[plV rg (.slice ac cl cc) xp (.slice ao fs.length cap)] V fun e w' => e = .returned (.agg #[.int .i64 op, .int .i64 y1, .int .i64 y2, .int .i64 y3, .int .u32 y4]) ∧ Adds V w' from HIn.out V h)
    clear HIn
    have hfld : ∀ V : World, (Instr.field 44 (.agg #[.int .i64 op, .int .i64 y1, .int .i64 y2, .int .i64 y3, .int .u32 y4]) 0).run Try.prog V = .ok (.int .i64 op) V := fun V => by kernel_rfl
    by_cases hl6 : lsB op = true
    · obtain ⟨s1, s2, s3⟩ := site_at hg (hls.trans hl6)
      have HS := Lib.hid (And.intro s1 (And.intro s2 s3))
      clear hg hpre hbo hbo2 hcd hcm hx1 hx2 hJ2 hk2 hm2 hop hls s1 s2 s3 hP2 hbb
      have hop67 : op = 6 ∨ op = 7 := by simpa [lsB] using hl6
      clear hl6
      rcases hop67 with rfl | rfl
      all_goals
        gi_wp2_with (refine ⟨trivial, ?_⟩; gi_at_call 20; refine (CallsIn.inRound l2 (callsIn_wide.2 (HIx.out _ (Adds.refl _)))).mono ?_; rintro e W3 ⟨rfl, q3⟩; have A3 := Lib.hid q3; obtain ⟨fn, tmps, assign, body, hy, hR⟩ := HY.out (List.range (cntS fs pre)) (cntS fs pre) W3 (HJ.out _ _ _ HD.out.1 (Below.mono q3 (by have := HD.out.2.2.lt; omega))) ⟨HS.out.1, rfl⟩; dsimp only [ixS] at hy; rw [HS.out.2.1] at hy; have e0 : W3.cell? ⟨W.heap.size, 0, none⟩ = some (.func (.yield l) #[] #[]) := (HY2.out.adds q3).cell 0; have e1 : W3.cell? ⟨W.heap.size + 1, 0, none⟩ = some (.int .i64 ((cntS fs pre : Nat) : Int)) := (HD.out.2.2.adds q3).cell 0; have e2 : W3.cell? ⟨bb, 0, none⟩ = some (.int .i64 (xf : Int)) := (HSi.out.adds q3).cell 0; have e3 : W3.cell? ⟨bb, 1, none⟩ = some (.int .i64 (xp : Int)) := (HSi.out.adds q3).cell 1; clear q3 p0 p1 p2 p3)
        refine (RoundIn.wider hR l2 _).mono ?_
        rintro e W4 (⟨rfl, hJ4, hk4, hf4⟩ | ⟨rfl, hJx4, hf4⟩)
        · have HF := Lib.hid (And.intro hJ4 (And.intro hk4 hf4))
          have hm4 : BkS 3 W4 (W.heap.size + 1) [.int .i64 ((cntS fs pre : Nat) : Int)] := hk4 _ _ _ _ (fun h => by have := HM.out _ h; omega) (HD.out.2.2.adds A3.out)
          have m0 := hm4.cell 0
          have mf := hm4.free 0
          have hcnt : ((cntS fs pre : Nat) : Int) ≤ 64000 := by have := HS.out.1; have := sitesL_len fs HL.out HC.out; omega
          have HM4 := Lib.hid hm4
          clear hJ4 hk4 hf4 hm4 e0 e1 e2 e3
          gi_wp2
          obtain ⟨hJ4, hk4, hf4⟩ := HF.out
          refine ⟨?_, ?_, ?_, ?_, ?_⟩
          · exact (keepsFrom_adds _ A3.out).trans ((keepsFrom_up9 hf4 (by omega)).trans ((KeepsOthers.setCell _ _ _).from _))
          · exact (KeepC.of_below A3.out).trans ((keepC_sub hk4 fun b h => Or.inl h).trans (keepC_or _ _ _ _))
          · rw [HS.out.2.2, List.range_succ]
            exact HJ.out _ _ _ hJ4 ((Below.refl _ _).setCell (p := ⟨W.heap.size + 1, 0, none⟩) (by show W.heap.size ≤ W.heap.size + 1; omega) _)
          · exact HD.out.2.1.trans ((KeepC.of_below A3.out).trans ((keepC_sub hk4 fun b h => Or.inl h).trans (keepC_or _ _ _ _)))
          · rw [HS.out.2.2]
            exact HM4.out.set 0 _
        · have HF := Lib.hid (And.intro hJx4 hf4)
          clear hJx4 hf4 e0 e1 e2 e3
          gi_wp2
          exact ⟨(keepsFrom_adds _ A3.out).trans (keepsFrom_up9 HF.out.2 (by omega)), rfl, cntS fs pre + 1, HS.out.1, by rw [List.range_succ]; exact HF.out.1⟩
    · have h6 : ¬ op = 6 := fun h => hl6 (by rw [h]; rfl)
      have h7 : ¬ op = 7 := fun h => hl6 (by rw [h]; rfl)
      have e6 : (op == 6) = false := by simp [h6]
      have e7 : (op == 7) = false := by simp [h7]
      have HN := Lib.hid (cnt_no (pre := pre) (show isLS fs (xf, xp) = false by rw [hls]; simpa using hl6))
      clear hg hpre hbo hbo2 hcd hcm hx1 hx2 hJ2 hk2 hm2 hop hls hP2 hbb hl6
      gi_wp2_with (refine ⟨trivial, ?_⟩; gi_at_call 20; refine (CallsIn.inRound l2 (callsIn_wide.2 (HIx.out _ (Adds.refl _)))).mono ?_; rintro e W3 ⟨rfl, q3⟩; have A3 := Lib.hid q3; clear q3 p0 p1 p2 p3)
      refine ⟨keepsFrom_adds _ A3.out, KeepC.of_below A3.out, ?_, HD.out.2.1.trans (KeepC.of_below A3.out), ?_⟩
      · rw [HN.out]
        exact HJ.out _ _ _ HD.out.1 (Below.mono A3.out (by have := HD.out.2.2.lt; omega))
      · rw [HN.out]
        exact HD.out.2.2.adds A3.out
  case done =>
    rintro D xs W2 hD rfl ⟨hJ2, hk2, hm2⟩ hK
    gi_wp2
    show LeavesInM _ _ _ _ _ _ _ _ _
    refine ⟨by simp, .inl ⟨_, _, rfl, run_takeDeferred hK, ?_⟩⟩
    exact ⟨_, results_none rfl _ _ _, ⟨_, rfl⟩, .inl ⟨_, rfl, HJ.out.putObj _ hJ2 (by omega) hK rfl⟩⟩
  case stop =>
    rintro D c pre W2 hD hpre ⟨rfl, j, hj, hx⟩ hK
    gi_wp2
    show LeavesInM _ _ _ _ _ _ _ _ _
    refine ⟨by simp, .inl ⟨_, _, rfl, run_takeDeferred hK, ?_⟩⟩
    exact ⟨_, results_none rfl _ _ _, ⟨_, rfl⟩, .inr ⟨_, ⟨j, hj, rfl⟩, HJX.out.putObj _ hx (by omega) hK rfl⟩⟩
end Go.Proofs.Ytkodjmdghjcndaa
