/- The iterator over all words: its contract, at the wide fence. -/
import Derived.Sort.LoopGhostIn
import Derived.Test.YtleihmmkonakhaaDoorMI1
import Derived.Test.YtleihmmkonakhaaDoorMK4
import Derived.Test.YtleihmmkonakhaaDoorLoose
import Derived.Test.YtleihmmkonakhaaDoorScopeIn
import Derived.Test.YtleihmmkonakhaaDoorMarks
import Derived.Test.YtleihmmkonakhaaDoorTurn
import Derived.OwnWalkIn
namespace Go.Proofs.YtleihmmkonakhaaDoor
open Go Go.RowKit Go.Shelf
attribute [local go_sem] Oper.semAt_some

theorem keepC_stableM (M : Nat → Prop) {B : Nat} {W : World} (hB : W.heap.size ≤ B) {β : Type} : Stable B (fun (_ : β) W' => KeepC M W W') := fun _ A C h hb k c e f hk hc => by
  have hlt := (Array.getElem?_eq_some_iff.1 hc).1
  rw [hb.block k (by omega)]
  exact h k c e f hk hc
theorem keepsFrom_addsM (B : Nat) {W W' : World} (h : Adds W W') : KeepsFrom B W W' := ⟨h.size, fun k o _ hk _ => by rw [h.block k (Array.getElem?_eq_some_iff.1 hk).1]; exact hk⟩
theorem marks_keeps {B : Nat} {W W' : World} (hk : KeepsFrom B W W') : ∀ {ds : List Deferred} {C : Nat}, Marks B C W ds → Marks B C W' ds
  | [], _, _ => trivial
  | _ :: _, _, ⟨D, h1, h2, h3, h4, h5⟩ => ⟨D, h1, h2, h3, hk.same D _ h2 h4 rfl, marks_keeps hk h5⟩

/-- What keeps all cells but those of M, and the map's block. -/
def KeepF (M : Nat → Prop) (b : Nat) (W W' : World) : Prop := KeepC M W W' ∧ W'.heap[b]? = W.heap[b]?
theorem KeepF.trans {M : Nat → Prop} {b : Nat} {A B C : World} (h : KeepF M b A B) (k : KeepF M b B C) : KeepF M b A C := ⟨h.1.trans k.1, k.2.trans h.2⟩
theorem KeepF.of_adds {M : Nat → Prop} {b : Nat} {W W' : World} (h : Adds W W') (hb : b < W.heap.size) : KeepF M b W W' := ⟨KeepC.of_below h, h.block b hb⟩
theorem KeepF.put {M : Nat → Prop} {b : Nat} (W : World) (l : Nat) (o o' : Obj) (h : W.heap[l]? = some o) (hc : o.isCells = false) (hb : b ≠ l) : KeepF M b W (W.putObj l o') := ⟨KeepC.put W l o o' h hc, World.putObj_heap_other hb⟩
theorem MemL.keep {M : Nat → Prop} {W W' : World} {b : Nat} {S : Nat → Nat} {L : List (Nat × Nat)} (h : MemL W b S L) (hk : KeepF M b W W') (hm : ∀ x ∈ L, ¬ M x.2) : MemL W' b S L :=
  ⟨h.map.same hk.2, h.apart, fun x hx => ⟨(h.page x hx).1, (h.page x hx).2.1.keep hk.1 (hm x hx), (h.page x hx).2.2⟩, h.all, h.word⟩

theorem rowU_cells {base : Nat} {w : World} {v : Value} {xs : List Nat} (h : RowU base w v xs) : ∃ ao cap, v = .slice ao xs.length cap ∧ xs.length ≤ cap ∧ cap ≤ maxLen ∧
    (xs ≠ [] → ∃ g, ao = some ⟨g, 0, none⟩ ∧ base ≤ g ∧ ∀ i, i < xs.length → w.cell? ⟨g, i, none⟩ = some (u32V (xs.getD i 0))) := by
  by_cases hne : xs = []
  · subst hne
    exact ⟨none, 0, h.2.2 rfl, by simp, by simp, fun e => absurd rfl e⟩
  · obtain ⟨g, cap, cur, h1, h2, h3, h4, h5, h6, h7⟩ := rowU_some h hne
    refine ⟨_, cap, h1, h4, h5, fun _ => ⟨g, rfl, h2, fun i hi => ?_⟩⟩
    rw [cell_of_row w g i _ _ _ h3, ← Array.getElem?_toList]
    rw [Nat.mul_one] at h7
    have h8 := congrArg (fun l => l[i]?) h7
    simp only [List.getElem?_take_of_lt hi, List.getElem?_map, List.getElem?_eq_getElem hi, Option.map_some] at h8
    rw [h8]
    simp [List.getD_eq_getElem?_getD, hi]

/-- The words of a page from an address on, each with its address; of several pages. -/
def pgL (S : Nat → Nat) (a p : Nat) : List (Nat × Nat) := (nzP (pgW S p) (min (a - p * 4096) 4096)).map fun x => (p * 4096 + x.1, x.2)
def psL (S : Nat → Nat) (a : Nat) (ps : List Nat) : List (Nat × Nat) := ps.flatMap (pgL S a)
theorem psL_take (S : Nat → Nat) (a : Nat) (ps : List Nat) (k : Nat) (h : k < ps.length) : psL S a (ps.take (k + 1)) = psL S a (ps.take k) ++ pgL S a (ps.getD k 0) := by
  have e : ps.take (k + 1) = ps.take k ++ [ps[k]] := by rw [List.take_add_one, List.getElem?_eq_getElem h]; rfl
  unfold psL
  rw [e, List.flatMap_append]
  simp [List.getD_eq_getElem?_getD, h]
theorem psL_split (S : Nat → Nat) (a : Nat) (ps : List Nat) (k : Nat) (h : k < ps.length) : ∃ r, psL S a ps = psL S a (ps.take k) ++ (pgL S a (ps.getD k 0) ++ r) := by
  refine ⟨psL S a (ps.drop (k + 1)), ?_⟩
  rw [← List.append_assoc, ← psL_take S a ps k h]
  unfold psL
  rw [← List.flatMap_append, List.take_append_drop]

theorem nz_mem {f : Nat → Nat} {lo : Nat} {x : Nat × Nat} : ∀ {n : Nat}, x ∈ nz f lo n → lo ≤ x.1 ∧ x.1 < lo + n ∧ x.2 = f x.1 ∧ x.2 ≠ 0
  | n + 1, h => by
    rcases List.mem_append.1 h with h | h
    · have := nz_mem h; omega
    · by_cases h0 : f (lo + n) = 0
      · simp [h0] at h
      · simp [h0] at h
        subst h
        exact ⟨by omega, by omega, rfl, h0⟩
theorem nzP_mem {f : Nat → Nat} {lo : Nat} {x : Nat × Nat} (h : x ∈ nzP f lo) : x.1 < 4096 ∧ lo ≤ x.1 ∧ x.2 = f x.1 ∧ x.2 ≠ 0 := by
  have := nz_mem h
  exact ⟨by omega, by omega, this.2.2.1, this.2.2.2⟩
def FromHead (l B1 B2 Y b : Nat) (v : Value) (n : Nat) (S : Nat → Nat) (a : Nat) (ps : List Nat) (J : List (Nat × Nat) → World → Prop) (M : Nat → Prop) (n0 : Nat) (w1 : World) (g : Nat) (aa : Act) (V : World) : Prop :=
  ∃ (k : Nat) (ds : List Deferred) (f : Nat → Value), k + g = ps.length ∧ aa = { tmps := #[Value.func (Fn.yield l) #[] #[], Value.pointer (some { block := B1, off := 0 }), Value.pointer (some { block := B2, off := 0 }), Value.pointer (some { block := Y, off := 0 }), f 4, f 5, f 6, f 7, f 8, f 9, v, Value.int IntKind.i64 ((n : Nat) : Int), Value.int IntKind.i64 ((k : Nat) : Int), f 13, f 14, f 15, f 16, f 17, f 18, f 19, f 20, f 21, f 22, f 23, f 24, f 25, f 26, f 27, f 28, f 29, f 30, f 31, f 32, f 33, f 34], defers := ds } ∧ J (psL S a (ps.take k)) V ∧ KeepF M b w1 V ∧ Marks n0 V.heap.size V ds ∧ w1.heap.size ≤ V.heap.size
set_option maxRecDepth 100000 in
theorem FromHead.mk {l B1 B2 Y b : Nat} {v : Value} {n : Nat} {S : Nat → Nat} {a : Nat} {ps : List Nat} {J : List (Nat × Nat) → World → Prop} {M : Nat → Prop} {n0 : Nat} {w1 : World} {g : Nat} {aa : Act} {V : World} (k : Nat) (hg : k + g = ps.length) (hs : aa.tmps.size = 35) (h0 : aa.tmps[0]? = some (Value.func (Fn.yield l) #[] #[])) (h1 : aa.tmps[1]? = some (Value.pointer (some { block := B1, off := 0 }))) (h2 : aa.tmps[2]? = some (Value.pointer (some { block := B2, off := 0 }))) (h3 : aa.tmps[3]? = some (Value.pointer (some { block := Y, off := 0 }))) (h10 : aa.tmps[10]? = some (v)) (h11 : aa.tmps[11]? = some (Value.int IntKind.i64 ((n : Nat) : Int))) (h12 : aa.tmps[12]? = some (Value.int IntKind.i64 ((k : Nat) : Int)))
    (hj : J (psL S a (ps.take k)) V) (hk : KeepF M b w1 V) (hm : Marks n0 V.heap.size V aa.defers) (hz : w1.heap.size ≤ V.heap.size) : FromHead l B1 B2 Y b v n S a ps J M n0 w1 g aa V := by
  rcases aa with ⟨tmps, ds⟩
  obtain ⟨f, rfl⟩ := arr_fun tmps 35 hs
  have e0 : f 0 = Value.func (Fn.yield l) #[] #[] := Option.some.inj h0; have e1 : f 1 = Value.pointer (some { block := B1, off := 0 }) := Option.some.inj h1; have e2 : f 2 = Value.pointer (some { block := B2, off := 0 }) := Option.some.inj h2; have e3 : f 3 = Value.pointer (some { block := Y, off := 0 }) := Option.some.inj h3; have e10 : f 10 = v := Option.some.inj h10; have e11 : f 11 = Value.int IntKind.i64 ((n : Nat) : Int) := Option.some.inj h11; have e12 : f 12 = Value.int IntKind.i64 ((k : Nat) : Int) := Option.some.inj h12
  refine ⟨k, ds, f, hg, ?_, hj, hk, hm, hz⟩
  show ({ tmps := #[f 0, f 1, f 2, f 3, f 4, f 5, f 6, f 7, f 8, f 9, f 10, f 11, f 12, f 13, f 14, f 15, f 16, f 17, f 18, f 19, f 20, f 21, f 22, f 23, f 24, f 25, f 26, f 27, f 28, f 29, f 30, f 31, f 32, f 33, f 34], defers := ds } : Act) = _
  simp only [e0, e1, e2, e3, e10, e11, e12]

set_option maxRecDepth 100000 in
set_option maxHeartbeats 8000000 in
theorem from1_in (n : Nat) (hn : 6 ≤ n) (l B1 B2 b : Nat) (M : Nat → Prop) (S : Nat → Nat) (L : List (Nat × Nat)) (a : Nat) (ha : a < 4294967296) (J Jx : List (Nat × Nat) → World → Prop)
    (W : World) (hJ : Stable W.heap.size J) (hJx : Stable W.heap.size Jx)
    (hY : ∀ pre x W1, J pre W1 → NextOf (psL S a (sortU (L.map (·.1)))) pre x → YieldAt Fence.wide (n - 1) Tryd.prog l (cellV x) W1 fun e W' =>
      (e = .returned (.bool true) ∧ J (pre ++ [x]) W' ∧ KeepF M b W1 W' ∧ KeepsFrom W.heap.size W1 W') ∨ (e = .returned (.bool false) ∧ Jx (pre ++ [x]) W' ∧ KeepsFrom W.heap.size W1 W'))
    (hMb : ∀ k, M k → k < W.heap.size) (hB1 : ¬ M B1) (hB2 : ¬ M B2) (hfoot : ∀ x ∈ L, ¬ M x.2)
    (c1 : W.cell? ⟨B1, 0, none⟩ = some (.map (some b))) (c2 : W.cell? ⟨B2, 0, none⟩ = some (.int .u32 ((a : Nat) : Int))) (hM : MemL W b S L) (h0 : J [] W) :
    CallsIn Fence.wide n Tryd.prog 49 #[.func (.yield l) #[] #[], .pointer (some ⟨B1, 0, none⟩), .pointer (some ⟨B2, 0, none⟩)] W fun e W' => (∃ v, e = .returned v) ∧
      ((∃ xs, xs = psL S a (sortU (L.map (·.1))) ∧ J xs W') ∨ (∃ pre, PreOf (psL S a (sortU (L.map (·.1)))) pre ∧ Jx pre W')) := by
  obtain ⟨ps, hps⟩ : ∃ ps, sortU (L.map (·.1)) = ps := ⟨_, rfl⟩
  have HPS := Lib.hid hps
  rw [hps] at hY ⊢
  clear hps
  have HY := Lib.hid hY; have HJ := Lib.hid hJ; have HJX := Lib.hid hJx; have HMb := Lib.hid hMb; have HM1 := Lib.hid hB1; have HM2 := Lib.hid hB2; have HFt := Lib.hid hfoot
  have HM := Lib.hid hM; have HAa := Lib.hid ha
  clear hY hJ hJx hMb hB1 hB2 hfoot hM ha
  refine callsIn_of_wp_marks Tryd.func49 rfl trivial ?_ rfl
  simp only [Tryd.ntmps49, List.size_toArray, List.length_cons, List.length_nil, Nat.reduceAdd, Nat.reduceSub, Array.replicate_succ, Array.replicate_zero, List.push_toArray, List.append_toArray, List.nil_append, List.cons_append]
  gi_wp2
  refine wpIn_scope_straight ?_
  generalize hWa : W.alloc (Obj.cells #[Value.func (Fn.yield l) #[] #[]] _) = Wa
  have HA := Lib.hid (hWa ▸ Adds.new W _ : Adds W Wa)
  have HSA := Lib.hid (show Wa.heap.size = W.heap.size + 1 by rw [← hWa]; simp)
  have ca1 : Wa.cell? ⟨B1, 0, none⟩ = some (.map (some b)) := HA.out.cellAt c1
  have HC2 := Lib.hid (HA.out.cellAt c2)
  have HC3 := Lib.hid (show Wa.cell? ⟨W.heap.size, 0, none⟩ = some (.func (.yield l) #[] #[]) by rw [← hWa]; simp)
  have HC1 := Lib.hid ca1
  clear hWa c1 c2
  have HMa := Lib.hid (HM.out.adds HA.out)
  have HN := Lib.hid (numbers_any b L Wa HMa.out.map HMa.out.many)
  have h1n : 1 ≤ n := by omega
  apply wpIn_seq_k; intro K1 hK1
  refine wpIn_label ?_
  refine hK1 _ _ ?_
  clear hK1 K1
  have hps := HPS.out
  have HNN : Hid (Calls Tryd.prog 41 #[.map (some b)] Wa fun e w' => ∃ ao cap, e = .returned (.slice ao ps.length cap) ∧ ps.length ≤ cap ∧ cap ≤ maxLen ∧ (ps ≠ [] → ∃ g, ao = some ⟨g, 0, none⟩ ∧ Wa.heap.size ≤ g ∧ ∀ i, i < ps.length → w'.cell? ⟨g, i, none⟩ = some (u32V (ps.getD i 0))) ∧ Adds Wa w') :=
    Lib.hid (HN.out.mono fun e w' ⟨v, he, hr, hA⟩ => by
      rw [hps] at hr
      obtain ⟨ao, cap, rfl, h1, h2, h3⟩ := rowU_cells hr
      exact ⟨ao, cap, he, h1, h2, h3, hA⟩)
  clear HN hps
  gi_wp2_with (refine ⟨trivial, ?_⟩; gi_at_call 41; refine (callsIn_wide.2 HNN.out).mono ?_; rintro e w1 ⟨ao, cap, rfl, h1, h2, h3, h4⟩; have HCap := Lib.hid (And.intro h1 h2); have HCell := Lib.hid h3; have HA1 := Lib.hid h4; clear h1 h2 h3 h4)
  obtain ⟨Y, hy⟩ : ∃ Y, W.heap.size = Y := ⟨_, rfl⟩
  have HYE := Lib.hid hy
  rw [hy] at HC3 HSA HJ HJX HY HMb ⊢
  clear hy
  have HC31 := Lib.hid (HA1.out.cellAt HC3.out)
  have HC21 := Lib.hid (HA1.out.cellAt HC2.out)
  have HC11 := Lib.hid (HA1.out.cellAt HC1.out)
  have HM1L := Lib.hid (HMa.out.adds HA1.out)
  have HJ1 := Lib.hid (show J [] w1 from HJ.out _ _ _ h0 (Below.trans (HYE.out ▸ HA.out : Below Y W Wa) (Below.mono HA1.out (by rw [HSA.out]; omega))))
  have HZ1 := Lib.hid (show Y < w1.heap.size by have := HA1.out.size; have := HSA.out; omega)
  have HP20 := Lib.hid (fun p (hp : p ∈ ps) => show p < 1048576 ∧ p ∈ L.map (·.1) from by
    have h1 : p ∈ L.map (·.1) := (sortU_perm (L.map (·.1))).mem_iff.1 (by rw [HPS.out]; exact hp)
    obtain ⟨x, hx, rfl⟩ := List.mem_map.1 h1
    exact ⟨(HM.out.page x hx).1, h1⟩)
  clear h0
  refine wpIn_loop_ghost (FromHead l B1 B2 Y b (.slice ao ps.length cap) ps.length S a ps J M Y w1) ps.length ?start ?round
  case start => exact FromHead.mk 0 (by omega) rfl rfl rfl rfl rfl rfl rfl rfl (by simpa [psL] using HJ1.out) ⟨KeepC.refl _ _, rfl⟩ trivial (Nat.le_refl _)
  case round =>
    rintro g aa V ⟨k, ds, f, hg, rfl, hj, hk, hm, hz⟩
    have HG := Lib.hid hg; have HJv := Lib.hid hj; have HK := Lib.hid hk; have HMk := Lib.hid hm; have HZv := Lib.hid hz
    clear hg hj hk hm hz
    have d1 : V.cell? ⟨B1, 0, none⟩ = some (.map (some b)) := HK.out.1.cell HM1.out HC11.out
    have d2 : V.cell? ⟨B2, 0, none⟩ = some (.int .u32 ((a : Nat) : Int)) := HK.out.1.cell HM2.out HC21.out
    have d3 : V.cell? ⟨Y, 0, none⟩ = some (.func (.yield l) #[] #[]) := HK.out.1.cell (fun h => by have := HMb.out _ h; omega) HC31.out
    by_cases hlt : k < ps.length
    · obtain ⟨gg, rfl, hgg, hcs⟩ := HCell.out (by rintro rfl; simp at hlt)
      have d4 := HK.out.1.cell (M := M) (fun h => by have := HMb.out _ h; have := HSA.out; omega) (hcs k hlt)
      have hp := HP20.out (ps.getD k 0) (by rw [List.getD_eq_getElem?_getD, List.getElem?_eq_getElem hlt]; exact List.getElem_mem hlt)
      have HTk := Lib.hid (psL_take S a ps k hlt)
      have HSp := Lib.hid (psL_split S a ps k hlt)
      obtain ⟨p, hpe⟩ : ∃ p, ps.getD k 0 = p := ⟨_, rfl⟩
      rw [hpe] at d4 hp HTk HSp
      have HLt := Lib.hid hlt
      have HPp := Lib.hid hp
      clear hpe hcs hgg hlt hp
      unfold u32V at d4
      obtain ⟨bg, hbg⟩ : ∃ bg, p * 4096 = bg := ⟨_, rfl⟩
      have HBg := Lib.hid hbg
      have e1 : IntKind.u32.wrap ((p : Int) * 4096) = ((bg : Nat) : Int) := by have := HPp.out.1; rw [IntKind.wrap_u32]; omega
      have hltI : ((k : Nat) : Int) < ((ps.length : Nat) : Int) := by have := HLt.out; omega
      have hcapI : ((ps.length : Nat) : Int) ≤ 9223372036854775807 := by have := HCap.out; unfold maxLen at this; omega
      obtain ⟨⟨p0, c⟩, hpc, hp0⟩ := List.mem_map.1 HPp.out.2
      simp only at hp0
      subst hp0
      have HPC := Lib.hid hpc
      obtain ⟨q, hq⟩ : ∃ q, min (a - bg) 4096 = q := ⟨_, rfl⟩
      have HQ := Lib.hid hq
      have HQL := Lib.hid (show q ≤ 4096 by omega)
      clear hpc hbg hq
      gi_wp2
      obtain ⟨Vb, hVb⟩ : ∃ Vb, V.alloc (.cells #[.int .u32 ((bg : Nat) : Int)] 29) = Vb := ⟨_, rfl⟩
      have HAb := Lib.hid (show Adds V Vb by rw [← hVb]; exact Adds.new _ _)
      have HSb := Lib.hid (show Vb.heap.size = V.heap.size + 1 by rw [← hVb]; simp)
      have HD6 := Lib.hid (show Vb.cell? ⟨V.heap.size, 0, none⟩ = some (.int .u32 ((bg : Nat) : Int)) by rw [← hVb]; simp)
      have HD1 := Lib.hid (HAb.out.cellAt d1); have HD2 := Lib.hid (HAb.out.cellAt d2); have HD3 := Lib.hid (HAb.out.cellAt d3)
      rw [hVb]
      clear hVb d1 d2 d3 d4 hltI hcapI
      have HMv := Lib.hid ((HM1L.out.keep HK.out HFt.out).adds HAb.out)
      have HPs := Lib.hid (fun (W : World) => (HQ.out ▸ passed_any bg a (by have := HPp.out.1; have := HBg.out; omega) HAa.out W : Calls Tryd.prog 51 #[.int .u32 ((bg : Nat) : Int), .int .u32 ((a : Nat) : Int)] W fun e w' => e = .returned (.int .u32 ((q : Nat) : Int)) ∧ W = w'))
      obtain ⟨Z, hZ⟩ : ∃ Z, V.heap.size = Z := ⟨_, rfl⟩
      have HZ := Lib.hid hZ
      rw [hZ] at HSb HD6 ⊢
      clear hZ
      refine wpIn_wide.2 ?_
      refine wp_region_loose [24] (fun _ u w' => ∃ s, Z < s ∧ u = .func (.func 63) #[] #[.pointer (some ⟨s + 1, 0, none⟩), .pointer (some ⟨s, 0, none⟩)] ∧ w'.cell? ⟨s, 0, none⟩ = some (.pointer (some ⟨c, 0, none⟩)) ∧ w'.cell? ⟨s + 1, 0, none⟩ = some (.int .u32 ((q : Nat) : Int)))
        Adds (by kernel_rfl) (by kernel_rfl) (by simp) Adds.refl (fun _ _ _ h k => Adds.trans h k) (fun _ _ _ _ h ⟨s, h1, h2, h3, h4⟩ => ⟨s, h1, h2, h.cellAt h3, h.cellAt h4⟩) ?_
      repeat (refine wpL_step (fun K hK => ?_); first
        | (refine stepL_ex rfl rfl rfl Adds.refl (fun w' hw' => rfl) ?_; go_simp; refine hK _ ?_; clear hK K)
        | (refine stepL_ex (v := .map (some b)) rfl rfl rfl Adds.refl ?_ ?_; (· (intro w' hw'; clear hK; have hc := (Adds.trans (Adds.drew Vb) hw').cellAt HD1.out; go_simp)); go_simp; refine hK _ ?_; clear hK K)
        | (refine stepL_ex (v := .pointer (some ⟨c, 0, none⟩)) rfl rfl rfl Adds.refl ?_ ?_; (· (intro w' hw'; clear hK; have hc := (HMv.out.adds (Adds.trans (Adds.drew Vb) hw')).map.look_yes HPC.out; unfold ptrV at hc; go_simp)); go_simp; refine hK _ ?_; clear hK K)
        | (refine stepL_ex (v := .int .u32 ((bg : Nat) : Int)) rfl rfl rfl Adds.refl ?_ ?_; (· (intro w' hw'; clear hK; have hc := (Adds.trans (Adds.drew Vb) hw').cellAt HD6.out; go_simp)); go_simp; refine hK _ ?_; clear hK K)
        | (refine stepL_ex (v := .int .u32 ((a : Nat) : Int)) rfl rfl rfl Adds.refl ?_ ?_; (· (intro w' hw'; clear hK; have hc := (Adds.trans (Adds.drew Vb) hw').cellAt HD2.out; go_simp)); go_simp; refine hK _ ?_; clear hK K)
        | (refine stepL_call (v := .int .u32 ((q : Nat) : Int)) (f := 51) (args := #[.int .u32 ((bg : Nat) : Int), .int .u32 ((a : Nat) : Int)]) rfl rfl rfl ?_ (fun w' hw' => (HPs.out w').mono fun e w2 ⟨he, hw2⟩ => ⟨he, hw2 ▸ Adds.refl _⟩) ?_; (· (intro w'; clear hK; go_simp)); go_simp; refine hK _ ?_; clear hK K)
        | (refine stepL_key (f := 50) (args := #[.pointer (some ⟨c, 0, none⟩), .int .u32 ((q : Nat) : Int)]) 24 rfl rfl rfl rfl ?_ (fun w' hw' => (pageFrom_any c q w').mono fun e w2 ⟨he, hw2⟩ => ⟨_, he, ⟨w'.heap.size, by have := (show Adds Vb.drew w' from hw').size; have := HSb.out; simp at *; omega, rfl, by rw [← hw2]; simp, by rw [← hw2]; simp⟩, by rw [← hw2]; exact (Adds.new _ _).trans (Adds.new _ _)⟩) ?_; (· (intro w'; clear hK; go_simp)); refine hK _ ?_; clear hK K))
      refine wpL_nil ?_
      intro wI aI
      simp only [forL]
      rintro u ⟨s, hs1, rfl, hs3, hs4⟩
      have HAI := Lib.hid (Adds.trans (Adds.drew Vb) aI); have HS3 := Lib.hid hs3; have HS4 := Lib.hid hs4; have HS1 := Lib.hid hs1
      clear aI hs3 hs4 hs1
      gi_wp2
      simp only [Act.put, List.setIfInBounds_toArray, List.set_cons_succ, List.set_cons_zero]
      have HIM := Lib.hid (HMv.out.adds HAI.out)
      have HBc := Lib.hid ((HIM.out.page _ HPC.out).2.1)
      simp only at HBc
      have HFw := Lib.hid (show ∀ i, pgW S p0 i < 4294967296 from fun i => HM.out.word _)
      have HFull := Lib.hid (show pgL S a p0 = (nzP (pgW S p0) q).map fun x => (bg + x.1, x.2) by unfold pgL; rw [HBg.out, HQ.out])
      have HsZ := Lib.hid (show s + 1 < wI.heap.size from World.block_lt_of_cell? wI _ HS4.out)
      have HZI := Lib.hid (show Y < Z ∧ Z < wI.heap.size by have h1 := HZv.out; have h2 := HZ1.out; have h3 := HZ.out; have h4 := HsZ.out; have h5 := HS1.out; omega)
      have HI3 := Lib.hid (HAI.out.cellAt HD3.out)
      have HI6 := Lib.hid (HAI.out.cellAt HD6.out)
      have HKI := Lib.hid (show KeepF M b w1 wI from HK.out.trans (KeepF.of_adds (Adds.trans HAb.out HAI.out) (Nat.lt_of_lt_of_le HM1L.out.map.lt HZv.out)))
      have HBI := Lib.hid (show b < wI.heap.size from HIM.out.map.lt)
      have HMI := Lib.hid ((HMk.out.below (Adds.trans HAb.out HAI.out) (Nat.le_refl _)).up (Adds.trans HAb.out HAI.out).size)
      have HJI := Lib.hid (HJ.out _ _ _ HJv.out (Below.mono (Adds.trans HAb.out HAI.out) (by have := HZv.out; have := HZ1.out; omega)))
      have HSQ : Hid (SeqS Fence.wide (n - 1) Tryd.prog 63 #[.pointer (some ⟨s + 1, 0, none⟩), .pointer (some ⟨s, 0, none⟩)] cellV (KeepC M) (fun xs => xs = nzP (pgW S p0) q) (PreOf (nzP (pgW S p0) q)) (NextOf (nzP (pgW S p0) q)) wI) :=
        Lib.hid fun l' J' Jx' W2 hb hJ' hJx' hY' h0' => page1_in W2.heap.size (n - 1) (by omega) l' (s + 1) s M c _ q (pgW S p0) HQL.out HFw.out J' Jx' hY' W2 (fun h => by have := HMb.out _ h; have := HS1.out; have := HZI.out; omega) (fun h => by have := HMb.out _ h; have := HS1.out; have := HZI.out; omega)
          (HFt.out _ HPC.out) (Adds.cellAt hb HS4.out) (Adds.cellAt hb HS3.out) (HBc.out.same (hb.block c HBc.out.lt)) h0'
      refine' rangeFunc_S rfl (by omega) (gf := 63) (lb := #[.pointer (some ⟨s + 1, 0, none⟩), .pointer (some ⟨s, 0, none⟩)]) rfl trivial (enters_of Tryd.func63 (by kernel_rfl) rfl) HSQ.out
        KeepC.trans (fun W l o o' _ h hc _ => KeepC.put W l o o' h hc) (Below.refl _ _) (fun _ => rfl)
        (fun pre V2 => J (psL S a (ps.take k) ++ pre.map fun x => (bg + x.1, x.2)) V2 ∧ KeepF M b wI V2 ∧ Marks Y wI.heap.size V2 ds)
        (fun cc pre V2 => cc = .exit 0 ∧ Jx (psL S a (ps.take k) ++ pre.map fun x => (bg + x.1, x.2)) V2 ∧ Marks Y wI.heap.size V2 ds)
        ?own ?ownx ?h0 _ ?assign ?body ?done ?stop
      case assign =>
        intro l2 x W2 K hK
        have HK := Lib.hid hK; clear hK
        gi_wp2
        exact HK.out
      case own => exact fun z A C hs hb => ⟨HJ.out _ A C hs.1 (hb.mono (by have := HZI.out; omega)), ⟨keepC_stableM M (Nat.le_refl _) z A C hs.2.1.1 hb, (hb.block b HBI.out).trans hs.2.1.2⟩, hs.2.2.below hb (Nat.le_refl _)⟩
      case ownx => exact fun cc z A C hs hb => ⟨hs.1, HJX.out _ A C hs.2.1 (hb.mono (by have := HZI.out; omega)), hs.2.2.below hb (Nat.le_refl _)⟩
      case h0 => exact ⟨by simpa using HJI.out, ⟨KeepC.refl _ _, rfl⟩, HMI.out⟩
      case body =>
        rintro l2 pre ⟨x1, x2⟩ W2 ⟨hj2, hk2, hm2⟩ ⟨r, hr⟩
        have HX := Lib.hid (nzP_mem (show (x1, x2) ∈ nzP (pgW S p0) q by rw [hr]; simp))
        have HNx := Lib.hid (show NextOf (psL S a ps) (psL S a (ps.take k) ++ pre.map fun x => (bg + x.1, x.2)) (bg + x1, x2) by
          obtain ⟨r2, hr2⟩ := HSp.out
          refine ⟨(r.map fun x => (bg + x.1, x.2)) ++ r2, ?_⟩
          rw [hr2, HFull.out, hr]
          simp)
        have b3 := hk2.1.cell (M := M) (fun h => by have := HMb.out _ h; omega) HI3.out
        have b6 := hk2.1.cell (M := M) (fun h => by have := HMb.out _ h; have := HZI.out; omega) HI6.out
        have HK2 := Lib.hid hk2; have HM2' := Lib.hid hm2
        obtain ⟨fn, tmps, assign, body, hyd, hR⟩ := HY.out _ (bg + x1, x2) W2 hj2 HNx.out
        have HRR := Lib.hid hR
        have e2 : IntKind.u32.wrap ((bg : Int) + (x1 : Int)) = ((bg + x1 : Nat) : Int) := by have := HPp.out.1; have := HBg.out; have := HX.out.1; rw [IntKind.wrap_u32]; omega
        obtain ⟨yy, hyy⟩ : ∃ yy, bg + x1 = yy := ⟨_, rfl⟩
        dsimp only [cellV] at hyd
        rw [hyy] at hyd e2
        clear hr hk2 hm2 hj2 hR hyy
        gi_wp2
        refine ⟨fun _ => by omega, (RoundIn.wider HRR.out l2 _).mono ?_⟩
        rintro e W3 (⟨rfl, hJ3, hk3, hf3⟩ | ⟨rfl, hJx3, hf3⟩)
        · have HJ3 := Lib.hid hJ3; have HK3 := Lib.hid hk3; have HF3 := Lib.hid hf3
          clear hJ3 hk3 hf3
          gi_wp2
          exact ⟨KeepsFrom.higher HF3.out (by have := HZI.out; omega), HK3.out.1, by simpa using HJ3.out, HK2.out.trans HK3.out, marks_keeps HF3.out HM2'.out⟩
        · have HJ3 := Lib.hid hJx3; have HF3 := Lib.hid hf3
          clear hJx3 hf3
          gi_wp2
          exact ⟨KeepsFrom.higher HF3.out (by have := HZI.out; omega), rfl, by simpa using HJ3.out, marks_keeps HF3.out HM2'.out⟩
      case done =>
        rintro D xs W2 hD rfl ⟨hj2, hk2, hm2⟩ hKD
        have HJ2 := Lib.hid hj2; have HK2 := Lib.hid hk2; have HM2' := Lib.hid hm2; have HKD := Lib.hid hKD; have HDd := Lib.hid hD
        clear hj2 hk2 hm2 hKD hD
        have hltI : ((k : Nat) : Int) < ((ps.length : Nat) : Int) := by have := HLt.out; omega
        have hcapI : ((ps.length : Nat) : Int) ≤ 9223372036854775807 := by have := HCap.out; unfold maxLen at this; omega
        gi_wp2
        have hDlt := (Array.getElem?_eq_some_iff.1 HKD.out).1
        refine ⟨g - 1, by have := HG.out; have := HLt.out; omega, FromHead.mk (k + 1) (by have := HG.out; have := HLt.out; omega) rfl rfl rfl rfl rfl rfl rfl ?_ ?_ (HKI.out.trans HK2.out) ⟨D, rfl, by have := HZI.out; have := HDd.out; omega, hDlt, HKD.out, HM2'.out.up HDd.out⟩ (by have h1 := HDd.out; have h2 := HAI.out.size; have h3 := HAb.out.size; have h4 := HZv.out; omega)⟩
        · simp
        · rw [HTk.out, HFull.out]; exact HJ2.out
      case stop =>
        rintro D cc pre W2 hD ⟨r, hr⟩ ⟨rfl, hx, hm2⟩ hKD
        have HJ2 := Lib.hid hx; have HM2' := Lib.hid hm2; have HKD := Lib.hid hKD; have HDd := Lib.hid hD
        have HPr := Lib.hid (show PreOf (psL S a ps) (psL S a (ps.take k) ++ pre.map fun x => (bg + x.1, x.2)) by
          obtain ⟨r2, hr2⟩ := HSp.out
          refine ⟨(r.map fun x => (bg + x.1, x.2)) ++ r2, ?_⟩
          rw [hr2, HFull.out, hr]
          simp)
        clear hx hm2 hKD hD hr
        gi_wp2
        show LeavesInM _ _ _ _ _ _ _ _ _
        refine marks_leave (B := Y) (C := W2.heap.size) _ _ ⟨D, rfl, by have := HZI.out; have := HDd.out; omega, (Array.getElem?_eq_some_iff.1 HKD.out).1, HKD.out, HM2'.out.up HDd.out⟩ fun W' hW' => ⟨_, results_none rfl _ _ _, ⟨_, rfl⟩, .inr ⟨_, HPr.out, HJX.out _ _ _ HJ2.out hW'⟩⟩
    · have hke : k = ps.length := by have := HG.out; omega
      subst hke
      clear hlt
      gi_wp2
      show LeavesInM _ _ _ _ _ _ _ _ _
      have hfin := HJv.out
      rw [List.take_length] at hfin
      exact marks_leave ds _ V HMk.out fun W' hW' => ⟨_, results_none rfl _ _ _, ⟨_, rfl⟩, .inl ⟨_, rfl, HJ.out _ _ _ hfin hW'⟩⟩
end Go.Proofs.YtleihmmkonakhaaDoor
