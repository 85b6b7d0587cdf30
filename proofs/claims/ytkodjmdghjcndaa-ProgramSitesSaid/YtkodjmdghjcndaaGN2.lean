/- The sites of a program: the document's Sites. -/
import Derived.Test.YtkodjmdghjcndaaG8
import Derived.Test.YtkodjmdghjcndaaGC3
import Derived.Test.YtkodjmdghjcndaaGN1
namespace Go.Proofs.Ytkodjmdghjcndaa
open Go Go.RowKit Go.Shelf

/-- A load or a store. -/
def lsB (op : Int) : Bool := decide (op = 6) || decide (op = 7)
def isLS (fs : List Fu) (x : Nat × Nat) : Bool := lsB ((fs.getD x.1 zF).2.getD x.2 zI).1
/-- The sites ahead of place k of function i; all. -/
def sitesTo (fs : List Fu) (i k : Nat) : List (Nat × Nat) := (preL fs i k).filter (isLS fs)
def sitesL (fs : List Fu) : List (Nat × Nat) := (plL fs fs.length).filter (isLS fs)
theorem sitesTo_zero (fs : List Fu) (i : Nat) : sitesTo fs i 0 = (plL fs i).filter (isLS fs) := by simp [sitesTo, preL]
theorem sitesTo_yes (fs : List Fu) (i k : Nat) (h : isLS fs (i, k) = true) : sitesTo fs i (k + 1) = sitesTo fs i k ++ [(i, k)] := by unfold sitesTo; rw [preL_succ, List.filter_append]; simp [h]
theorem sitesTo_no (fs : List Fu) (i k : Nat) (h : isLS fs (i, k) = false) : sitesTo fs i (k + 1) = sitesTo fs i k := by unfold sitesTo; rw [preL_succ, List.filter_append]; simp [h]
theorem sitesTo_end (fs : List Fu) (i : Nat) : sitesTo fs i (fs.getD i zF).2.length = sitesTo fs (i + 1) 0 := by rw [sitesTo_zero]; unfold sitesTo; rw [preL_end]
theorem sitesTo_all (fs : List Fu) : sitesTo fs fs.length 0 = sitesL fs := sitesTo_zero fs _
theorem plL_len (fs : List Fu) (k : Nat) (h : k ≤ fs.length) : (plL fs k).length = sumL (fs.take k) := by
  induction k with
  | zero => simp [plL, sumL]
  | succ k ih => rw [plL_succ, List.length_append, ih (by omega), sumL_take fs k (by omega)]; simp [rowP]
theorem sitesTo_len (fs : List Fu) (i k : Nat) (hi : i < fs.length) (hk : k ≤ (fs.getD i zF).2.length) (hl : fs.length ≤ 40) (hc : ∀ f ∈ fs, f.2.length ≤ 1600) : (sitesTo fs i k).length ≤ 64000 := by
  refine Nat.le_trans (List.length_filter_le _ _) ?_
  have h1 := plL_len fs (i + 1) (by omega)
  have h2 := sum_small (k := i + 1) (rfl : fs.length = fs.length) hl hc
  have h3 : (preL fs i k).length ≤ (plL fs (i + 1)).length := by
    rw [plL_succ]
    simp only [preL, List.length_append, List.length_map, List.length_range, rowP]
    omega
  omega

abbrev siP (x : Nat × Nat) : List Value := [.int .i64 (x.1 : Int), .int .i64 (x.2 : Int)]
theorem siP_len (x : Nat × Nat) : (siP x).length = 2 := rfl
def SiteO (n : Nat) (w : World) (v : Value) (l : List (Nat × Nat)) : Prop := w.ownsRow n 34 2 v l.length (l.flatMap siP)
theorem SiteO.adds {n : Nat} {w w' : World} {v : Value} {l : List (Nat × Nat)} (h : SiteO n w v l) (ha : Adds w w') : SiteO n w' v l := ownsRow_adds h ha
theorem infoS2 : (Try.prog.info? 34).map (fun i => (i.zero, i.size, i.bytes)) = some (some (.agg #[.int .i64 0, .int .i64 0]), 2, 16) := by kernel_rfl
theorem cell_new2 (w : World) (a b : Value) (t : TypeId) : ∀ j u, [a, b][j]? = some u → (w.alloc (.cells #[a, b] t)).cell? ((⟨w.heap.size, 0, none⟩ : Addr).add j) = some u := by
  intro j u h
  have hadd : (⟨w.heap.size, 0, none⟩ : Addr).add j = ⟨w.heap.size, j, none⟩ := by unfold Addr.add; split <;> simp_all
  rw [hadd, (BkS.new t w [a, b]).cell j]
  exact h
theorem wpS_append1 {w : World} {ops : Array Oper} {rest : List Oper} {o : Oper} {a : Act} {Q : Exit → Act → World → Prop} (hgd : o.guard = none) (s x : Operand)
    (ho : o.op = .call { callee := .builtin .append, args := #[s, x], argTypes := #[27, 27] }) (base : Nat) (v : Value) (pre : List (Nat × Nat)) (c : Nat × Nat) (hs : a.eval s = v) (hown : SiteO base w v pre)
    (k : Nat) (hx : a.eval x = .slice (some ⟨k, 0, none⟩) 1 1) (hk : k = w.heap.size)
    (hlen : pre.length ≤ 64000) (hbase : base ≤ w.heap.size)
    (h : ∀ v' w', SiteO base w' v' (pre ++ [c]) → Below base w w' → wpList Try.prog ops Q rest (a.put o.dst v') w') : wpList Try.prog ops Q (o :: rest) a (w.alloc (.cells #[.int .i64 (c.1 : Int), .int .i64 (c.2 : Int)] 34)) := by
  subst hk
  obtain ⟨i0, hi, hz0, hz1, hz2⟩ := info_parts infoS2
  refine wpList_append_own _ hgd s x 27 ho base 34 i0 (.agg #[.int .i64 0, .int .i64 0]) 2 16 Try.underlying27 hi hz0 hz1 hz2 rfl (by decide) v pre.length (pre.flatMap siP) hs (World.ownsRow.alloc hown _) ⟨w.heap.size, 0, none⟩ 1 1 (siP c) hx rfl (cell_new2 _ _ _ _)
    (fun u hu => by simp at hu; rcases hu with rfl | rfl <;> rfl) (by unfold maxLen; omega) (by omega) (by simp; omega) fun v' w' h1 h2 _ => h v' w' ?_ ?_
  · unfold SiteO; rw [List.length_append, List.flatMap_append]; simpa using h1
  · refine (((Below.refl base w).alloc hbase _).grown h2 (by simp; omega) fun k hk => ?_)
    exact (World.ownsRow.lt hown k hk.symm.symm).1
set_option maxRecDepth 100000 in
set_option maxHeartbeats 8000000 in
theorem refSites_any {m : Nat} (u : Value) (p : Pg) (w : World) (hf : FuncsW m w u p.1) (hl : p.1.length ≤ 40) (hc : ∀ f ∈ p.1, f.2.length ≤ 1600) : Calls Try.prog 7 #[pgV u p] w fun e w' => ∃ v, e = .returned v ∧ SiteO w.heap.size w' v (sitesL p.1) ∧ Adds w w' := by
  obtain ⟨fs, x1, x2, x3⟩ := p
  simp only at hl hc ⊢
  have HF := Lib.hid hf.here
  have HS := Lib.hid hc
  obtain ⟨ao, cap, rfl, h1, h2, _⟩ := hf
  obtain ⟨fl, hfl⟩ : ∃ fl, fs.length = fl := ⟨_, rfl⟩
  have HFl := Lib.hid hfl
  simp only [hfl] at HF h1 hl ⊢
  have HL := Lib.hid hl
  have hfI : (fl : Int) ≤ 40 := by omega
  clear hfl h1 h2 hc hl
  obtain ⟨w1, hw1⟩ : ∃ w1, w.alloc (.cells #[.slice ao fl cap, .int .i64 x1, .int .i64 x2, .int .i64 x3] 24) = w1 := ⟨_, rfl⟩
  have A1 := Lib.hid (show Adds w w1 by rw [← hw1]; exact (Gr.new _ _).adds)
  have B1 := Lib.hid (show BkS 24 w1 w.heap.size [.slice ao fl cap, .int .i64 x1, .int .i64 x2, .int .i64 x3] by rw [← hw1]; exact BkS.new _ _ _)
  go_enter Try.func7, Try.ntmps7
  go_wp2
  go_loopw [3, 4] (fun n i wr => ∃ k : Nat, i = .int .i64 k ∧ k ≤ fl ∧ Hid (SiteO w1.heap.size wr n (sitesTo fs k 0)) ∧ Hid (Adds w1 wr)) (fun _ i _ => fl + 1 - (intOf i).toNat)
  case atStart => exact ⟨0, rfl, by omega, Lib.hid (by rw [sitesTo_zero]; exact World.ownsRow_nil _ _ _ _), Lib.hid (Adds.refl _)⟩
  case round =>
    obtain ⟨k, rfl, hkl, HO, HA⟩ := hrel
    have b0 : wr.cell? ⟨w.heap.size, 0, none⟩ = some (.slice ao fl cap) := (B1.out.adds HA.out).cell 0
    by_cases hlt : k < fl
    · have hltI : (k : Int) < (fl : Int) := by omega
      have HLt := Lib.hid hlt
      clear hlt hkl
      go_wp2
      clear b0
      go_loopw [3, 5] (fun n j wr => ∃ q : Nat, j = .int .i64 q ∧ q ≤ (fs.getD k zF).2.length ∧ Hid (SiteO w1.heap.size wr n (sitesTo fs k q)) ∧ Hid (Adds w1 wr)) (fun _ j _ => (fs.getD k zF).2.length + 1 - (intOf j).toNat)
      case atStart => exact ⟨0, rfl, Nat.zero_le _, HO, HA⟩
      case round =>
        rename_i HO1 HA1 _
        obtain ⟨q, rfl, hq, HO, HA⟩ := hrel
        have b0 : wr.cell? ⟨w.heap.size, 0, none⟩ = some (.slice ao fl cap) := (B1.out.adds HA.out).cell 0
        obtain ⟨g, off, rfl, hg, hat⟩ := (show FuncsW w.heap.size wr (.slice ao fs.length cap) fs by have h := HF.out.adds (Adds.trans A1.out HA.out); rw [← HFl.out] at h; exact h).at (i := k) (by rw [HFl.out]; exact HLt.out)
        have hcl : (fs.getD k zF).2.length ≤ 1600 := by
          have hk : k < fs.length := by rw [HFl.out]; exact HLt.out
          rw [List.getD_eq_getElem?_getD, List.getElem?_eq_getElem hk]
          exact HS.out _ (List.getElem_mem hk)
        have HLn := Lib.hid (sitesTo_len fs k q (by rw [HFl.out]; exact HLt.out) hq (by rw [HFl.out]; exact HL.out) HS.out)
        obtain ⟨k0, c, k1, hc, _⟩ := hat
        obtain ⟨ac, cc, rfl, _, _⟩ := hc.form
        obtain ⟨cl, hcle⟩ : ∃ l, (fs.getD k zF).2.length = l := ⟨_, rfl⟩
        have HCl := Lib.hid hcle
        rw [hcle] at k1 hcl hq
        by_cases hqt : q < cl
        · have hqI : (q : Int) < (cl : Int) := by omega
          have HQt := Lib.hid hqt
          obtain ⟨g2, off2, rfl, _, hx, _⟩ := hc.at (i := q) (by rw [hcle]; exact hqt)
          obtain ⟨op, hop⟩ : ∃ x, ((fs.getD k zF).2.getD q zI).1 = x := ⟨_, rfl⟩
          have HOp := Lib.hid (show isLS fs (k, q) = lsB op by unfold isLS; rw [hop])
          rw [hop] at hx
          have hclI : (cl : Int) ≤ 1600 := by omega
          clear hc hcl hcle hqt hq hop k0 hg
          by_cases h6 : op = 6
          · have HY := Lib.hid (show isLS fs (k, q) = true by rw [HOp.out]; simp [lsB, h6])
            subst h6
            go_wp2_with (at_builtin; (fail_if_success (show wpList _ _ _ ({ dst := some 21, op := _, type := _, pos := _, after := _, guard := _ } :: _) _ _)); go_must (refine wpS_append1 rfl _ _ rfl w1.heap.size _ (sitesTo fs k q) (k, q) rfl (by exact HO.out) _ rfl (by simp) HLn.out (by exact HA.out.size) ?_; intro v5 w5 o5 b5; have O5 := Lib.hid o5; have A5 := Lib.hid (Below.trans HA.out b5); clear o5 b5))
            go_roundw
            case rel => exact ⟨q + 1, by go_num, by rw [HCl.out]; exact HQt.out, Lib.hid (by rw [sitesTo_yes fs k q HY.out]; exact O5.out), A5⟩
            case measure => rw [HCl.out]; simp [intOf]; have := HQt.out; omega
          · by_cases h7 : op = 7
            · have HY := Lib.hid (show isLS fs (k, q) = true by rw [HOp.out]; simp [lsB, h7])
              clear h6
              subst h7
              go_wp2_with (at_builtin; (fail_if_success (show wpList _ _ _ ({ dst := some 21, op := _, type := _, pos := _, after := _, guard := _ } :: _) _ _)); go_must (refine wpS_append1 rfl _ _ rfl w1.heap.size _ (sitesTo fs k q) (k, q) rfl (by exact HO.out) _ rfl (by simp) HLn.out (by exact HA.out.size) ?_; intro v5 w5 o5 b5; have O5 := Lib.hid o5; have A5 := Lib.hid (Below.trans HA.out b5); clear o5 b5))
              go_roundw
              case rel => exact ⟨q + 1, by go_num, by rw [HCl.out]; exact HQt.out, Lib.hid (by rw [sitesTo_yes fs k q HY.out]; exact O5.out), A5⟩
              case measure => rw [HCl.out]; simp [intOf]; have := HQt.out; omega
            · have HY := Lib.hid (show isLS fs (k, q) = false by rw [HOp.out]; simp [lsB, h6, h7])
              have e6 : (op == 6) = false := by simp [h6]
              have e7 : (op == 7) = false := by simp [h7]
              go_wp2
              go_roundw
              case rel => exact ⟨q + 1, by go_num, by rw [HCl.out]; exact HQt.out, Lib.hid (by rw [sitesTo_no fs k q HY.out]; exact HO.out), HA⟩
              case measure => rw [HCl.out]; simp [intOf]; have := HQt.out; omega
        · have hqe : q = cl := Nat.le_antisymm hq (Nat.le_of_not_lt hqt)
          have hqI : ¬ (q : Int) < (cl : Int) := by rw [hqe]; exact Int.lt_irrefl _
          have HE := Lib.hid (show sitesTo fs k q = sitesTo fs (k + 1) 0 by rw [← sitesTo_end, HCl.out, hqe])
          clear hqe
          clear hc hcl hcle hqt hq k0 hg
          go_wp2
          go_roundw
          case rel => exact ⟨k + 1, by go_num, HLt.out, Lib.hid (by rw [← HE.out]; exact HO.out), HA⟩
          case measure => simp [intOf]; have := HLt.out; omega
    · have hltI : ¬ (k : Int) < (fl : Int) := by omega
      have hke : k = fs.length := by rw [HFl.out]; exact Nat.le_antisymm hkl (Nat.le_of_not_lt hlt)
      have HE := Lib.hid (show sitesTo fs k 0 = sitesL fs by rw [hke]; exact sitesTo_all fs)
      clear hke
      clear hlt hkl
      go_wp2
      go_ret
      refine ⟨_, rfl, ?_, Adds.trans A1.out HA.out⟩
      have h := HO.out
      rw [HE.out] at h
      exact ownsRow_low h A1.out.size
end Go.Proofs.Ytkodjmdghjcndaa
