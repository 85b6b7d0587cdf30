/- Merged: Z27, Z2, Z15. -/
import Derived.Test.YtdkgehhlikaocaaGreatY23
import Derived.Test.YtdkgehhlikaocaaGreatY12
import Derived.Test.YtdkgehhlikaocaaGreatY5
namespace Go.Proofs.YtdkgehhlikaocaaGreat
open Go Go.RowKit Go.Shelf

theorem FrsO.open {n m cap k : Nat} {w : World} {R : List (Fr × Value)} {ao : Option Addr} (h : FrsO n w (.slice ao m cap) R) (hk : k < R.length) : ∃ g, ao = some ⟨g, 0, none⟩ := by
  rcases h.row.2 with ⟨_, h0⟩ | ⟨g, c, cur, e, _⟩
  · omega
  · simp only [Value.slice.injEq] at e
    exact ⟨g, e.1⟩
set_option maxRecDepth 100000 in
set_option maxHeartbeats 4000000 in
theorem copiedFr_any {n : Nat} {w : World} {v : Value} {R : List (Fr × Value)} (h : FrsO n w v R) (hr : ∀ x ∈ R, x.1.2.2.2 ≠ [] ∧ x.1.2.2.2.length ≤ 65536) (hl : R.length ≤ 1000000) :
    Calls Tryz.prog 66 #[v, .func (.func 67) #[] #[]] w fun e w' => ∃ v' C, e = .returned v' ∧ FrsO w.heap.size w' v' C ∧ C.map Prod.fst = R.map Prod.fst ∧ Adds w w' := by
  obtain ⟨ao, cap, rfl, _, _⟩ := h.form
  have HF := Lib.hid h
  have HR := Lib.hid hr
  have HL := Lib.hid hl
  have hmk := run_mkFr R.length hl w
  obtain ⟨w1, hw1⟩ : ∃ w1, w.alloc (.cells ((List.replicate R.length zF0).flatMap frC).toArray 76) = w1 := ⟨_, rfl⟩
  have A1 := Lib.hid (show Adds w w1 by rw [← hw1]; exact Adds.new _ _)
  have K0 := Lib.hid (show CpF w.heap.size w1 (.slice (some ⟨w.heap.size, 0, none⟩) (R.map Prod.fst).length R.length) (R.map Prod.fst) 0 [] from CpF.start (by
    have h := World.ownsRow_lit (size := 4) (e := 76) w ((List.replicate R.length zF0).flatMap frC).toArray R.length (Nat.le_refl _) (by unfold maxLen; omega) (by simp [flat_len frC 4 frC_len])
    rw [hw1] at h
    simpa using h))
  rw [hw1] at hmk
  obtain ⟨nl, hnl⟩ : ∃ nl, R.length = nl := ⟨_, rfl⟩
  have HNl := Lib.hid hnl
  have hnI : (nl : Int) ≤ 1000000 := by omega
  rw [hnl] at hmk ⊢
  clear hnl hw1 h hr hl
  go_enter Tryz.func66, Tryz.ntmps66
  go_wp2
  go_loopw [13] (fun i wr => ∃ k : Nat, i = .int .i64 k ∧ k ≤ nl ∧ Hid (∃ C, CpF w.heap.size wr (.slice (some ⟨w.heap.size, 0, none⟩) (R.map Prod.fst).length R.length) (R.map Prod.fst) k C) ∧ Hid (Adds w wr)) (fun i _ => nl + 1 - (intOf i).toNat)
  case atStart => exact ⟨0, rfl, Nat.zero_le _, Lib.hid ⟨_, K0.out⟩, A1⟩
  case round =>
    obtain ⟨k, rfl, hk, KH, HA⟩ := hrel
    by_cases hlt : k < nl
    · have hltI : (k : Int) < (nl : Int) := by omega
      obtain ⟨C, hC⟩ := KH.out
      have K := Lib.hid hC
      have hkR : k < R.length := by rw [HNl.out]; exact hlt
      obtain ⟨⟨⟨f, pc, d, rs⟩, rv⟩, hx⟩ : ∃ x, R[k]? = some x := ⟨_, List.getElem?_eq_getElem hkR⟩
      obtain ⟨g, rfl⟩ := HF.out.open hkR
      obtain ⟨j0, j1, j2, j3⟩ := (HF.out.adds HA.out).at hx
      obtain ⟨hr1, hr2⟩ := HR.out _ (List.mem_of_getElem? hx)
      have hrg := HF.out.reg _ (List.mem_of_getElem? hx)
      have HX := Lib.hid hx
      simp only at j0 j1 j2 j3 hr1 hr2 hrg
      obtain ⟨gr, cr, rfl, _, _, _, _, _⟩ := hrg.form hr1
      have HCk := Lib.hid (fun W (hW : Adds wr W) => copied1 (x := (f, pc, d, rs)) ((hrg.adds HA.out).adds hW) hr1 hr2)
      obtain ⟨lr, hlr⟩ : ∃ lr, rs.length = lr := ⟨_, rfl⟩
      have HLr := Lib.hid hlr
      rw [hlr] at j3
      simp only [hlr] at HCk
      clear hC hx hr1 hr2 hrg hlr KH hkR hk
      have HLt := Lib.hid hlt
      clear hlt
      obtain ⟨wz, hwz⟩ : ∃ wz, wr.alloc (.cells #[.int .i64 (f : Int), .int .i64 (pc : Int), .int .i64 d, .slice (some ⟨gr, 0, none⟩) lr cr] 76) = wz := ⟨_, rfl⟩
      have AZ := Lib.hid (show Adds wr wz by rw [← hwz]; exact (Gr.new _ _).adds)
      have BZ := Lib.hid (show BkS 76 wz wr.heap.size [.int .i64 (f : Int), .int .i64 (pc : Int), .int .i64 d, .slice (some ⟨gr, 0, none⟩) lr cr] by rw [← hwz]; exact BkS.new _ _ _)
      have m0 : wz.cell? ⟨wr.heap.size, 0, none⟩ = some (.int .i64 (f : Int)) := BZ.out.cell 0
      have m1 : wz.cell? ⟨wr.heap.size, 1, none⟩ = some (.int .i64 (pc : Int)) := BZ.out.cell 1
      have m2 : wz.cell? ⟨wr.heap.size, 2, none⟩ = some (.int .i64 d) := BZ.out.cell 2
      have m3 : wz.cell? ⟨wr.heap.size, 3, none⟩ = some (.slice (some ⟨gr, 0, none⟩) lr cr) := BZ.out.cell 3
      go_wp2_with (go_at_call 67; refine (HCk.out _ AZ.out).mono ?_; clear HCk; rintro e w3 ⟨v', rfl, ho, a3⟩; have A3 := Lib.hid (Adds.trans AZ.out a3); have HO := Lib.hid ho; obtain ⟨ap, cp, ev, _, _⟩ := ho.form0; (try simp only at ev); rw [HLr.out] at ev; subst ev; have K3 := Lib.hid (K.out.adds A3.out); obtain ⟨p0, p1, p2, p3, pf⟩ := K3.out.here (by simp [HNl.out]; exact HLt.out); have pf0 := pf (k * 4); have pf1 := pf (k * 4 + 1); have pf2 := pf (k * 4 + 2); have pf3 := pf (k * 4 + 3); clear pf ho a3 j0 j1 j2 j3 m0 m1 m2 m3 hwz; (try dsimp only [frC]))
      go_roundw
      case rel =>
        have hkL : k < (R.map Prod.fst).length := by simp [HNl.out]; exact HLt.out
        refine ⟨k + 1, by go_num, HLt.out, Lib.hid ⟨_, K3.out.step (x := (f, pc, d, rs)) (u := .slice ap lr cp) hkL ?_ ?_ ?_⟩, Lib.hid (Adds.set (Adds.set (Adds.set (Adds.set (Adds.trans HA.out A3.out) (Nat.le_refl _) _ _) (Nat.le_refl _) _ _) (Nat.le_refl _) _ _) (Nat.le_refl _) _ _)⟩
        · rw [List.getD_eq_getElem?_getD, List.getElem?_map, HX.out]
          rfl
        · exact ownsRow_low HO.out (Nat.le_trans HA.out.size AZ.out.size)
        · intro y hy q hq hq'
          have h1 := (World.ownsRow.lt (K.out.reg y hy) q hq).2
          have h2 := (World.ownsRow.lt HO.out q hq').1
          have h3 := AZ.out.size
          omega
      case measure => simp [intOf]; have := HLt.out; omega
    · have hge : ¬ (k : Int) < (nl : Int) := by omega
      have hkl : k = (R.map Prod.fst).length := by simp [HNl.out]; omega
      have HKl := Lib.hid hkl
      clear hk hlt hkl
      go_wp2
      go_ret
      obtain ⟨C, hC⟩ := KH.out
      rw [HKl.out] at hC
      obtain ⟨h1, h2⟩ := hC.done
      rw [show (R.map Prod.fst).length = nl by simp [HNl.out], HNl.out] at h1
      exact ⟨_, rfl, C, h1, h2, HA.out⟩
end Go.Proofs.YtdkgehhlikaocaaGreat
namespace Go.Proofs.YtdkgehhlikaocaaGreat
open Go Go.RowKit Go.Shelf Go.Lib

set_option maxRecDepth 100000 in
theorem idle_new (p : Value) (w : World) :
    CallsD Tryz.prog 23 #[p] .returning w fun e u' w' => e = .returned (.tuple #[]) ∧ u' = .returning ∧ w' = w := by
  have hn := iface_none
  refine callsD_of_wpS Tryz.func23 rfl fun c₀ cs hu => ?_
  apply wpS_seq
  apply wpS_region
  simp [wpOpsS, go_sem, recoverD, hu, Tryz.ntmps23, Exit.thenS]
  refine wpS_of_wp ?_
  simp only [Array.replicate_succ, Array.replicate_zero, List.push_toArray, List.append_toArray, List.nil_append, List.cons_append, List.setIfInBounds_toArray, List.set_cons_zero, List.set_cons_succ]
  go_wp2_with fail
  cases c₀
  simp_all [bodyPostS, results, Tryz.results23]
set_option maxRecDepth 100000 in
theorem catch_step (b : Nat) (x v : Int) (older : List PanicEntry) (w : World) (hB : BkS 32 w b [.int .i64 x]) :
    CallsD Tryz.prog 36 #[.pointer (some ⟨b, 0, none⟩)] (.panicking ({ v := refuV v, recovered := false } :: older)) w fun e u' w' =>
      e = .returned (.tuple #[]) ∧ u' = .panicking ({ v := refuV v, recovered := true } :: older) ∧ w' = w.setCell ⟨b, 0, none⟩ (.int .i64 v) := by
  have c0 : w.cell? ⟨b, 0, none⟩ = some (.int .i64 x) := hB.cell 0
  have f0 := hB.free 0
  have hn := iface_some 96 (.int .i64 v)
  have HT := Lib.hid (told12 v w)
  clear hB
  refine callsD_of_wpS Tryz.func36 rfl fun c₀ cs hu => ?_
  apply wpS_seq
  apply wpS_region
  simp [wpOpsS, go_sem, recoverD, hu, Tryz.ntmps36, Exit.thenS]
  refine wpS_of_wp ?_
  simp only [Array.replicate_succ, Array.replicate_zero, List.push_toArray, List.append_toArray, List.nil_append, List.cons_append, List.setIfInBounds_toArray, List.set_cons_zero, List.set_cons_succ]
  go_wp2_with (go_at_call 24; refine HT.out.mono ?_; rintro e w2 ⟨rfl, rfl⟩)
  simp [bodyPostS, results, Tryz.results36]
set_option maxRecDepth 100000 in
theorem idle_step (p : Value) (w : World) :
    CallsD Tryz.prog 36 #[p] .returning w fun e u' w' => e = .returned (.tuple #[]) ∧ u' = .returning ∧ w' = w := by
  have hn := iface_none
  refine callsD_of_wpS Tryz.func36 rfl fun c₀ cs hu => ?_
  apply wpS_seq
  apply wpS_region
  simp [wpOpsS, go_sem, recoverD, hu, Tryz.ntmps36, Exit.thenS]
  refine wpS_of_wp ?_
  simp only [Array.replicate_succ, Array.replicate_zero, List.push_toArray, List.append_toArray, List.nil_append, List.cons_append, List.setIfInBounds_toArray, List.set_cons_zero, List.set_cons_succ]
  go_wp2_with fail
  cases c₀
  simp_all [bodyPostS, results, Tryz.results36]
set_option maxRecDepth 100000 in
theorem catch_pass (b : Nat) (x v : Int) (older : List PanicEntry) (w : World) (hB : BkS 32 w b [.int .i64 x]) :
    CallsD Tryz.prog 39 #[.pointer (some ⟨b, 0, none⟩)] (.panicking ({ v := refuV v, recovered := false } :: older)) w fun e u' w' =>
      e = .returned (.tuple #[]) ∧ u' = .panicking ({ v := refuV v, recovered := true } :: older) ∧ w' = w.setCell ⟨b, 0, none⟩ (.int .i64 v) := by
  have c0 : w.cell? ⟨b, 0, none⟩ = some (.int .i64 x) := hB.cell 0
  have f0 := hB.free 0
  have hn := iface_some 96 (.int .i64 v)
  have HT := Lib.hid (told12 v w)
  clear hB
  refine callsD_of_wpS Tryz.func39 rfl fun c₀ cs hu => ?_
  apply wpS_seq
  apply wpS_region
  simp [wpOpsS, go_sem, recoverD, hu, Tryz.ntmps39, Exit.thenS]
  refine wpS_of_wp ?_
  simp only [Array.replicate_succ, Array.replicate_zero, List.push_toArray, List.append_toArray, List.nil_append, List.cons_append, List.setIfInBounds_toArray, List.set_cons_zero, List.set_cons_succ]
  go_wp2_with (go_at_call 24; refine HT.out.mono ?_; rintro e w2 ⟨rfl, rfl⟩)
  simp [bodyPostS, results, Tryz.results39]
set_option maxRecDepth 100000 in
theorem idle_pass (p : Value) (w : World) :
    CallsD Tryz.prog 39 #[p] .returning w fun e u' w' => e = .returned (.tuple #[]) ∧ u' = .returning ∧ w' = w := by
  have hn := iface_none
  refine callsD_of_wpS Tryz.func39 rfl fun c₀ cs hu => ?_
  apply wpS_seq
  apply wpS_region
  simp [wpOpsS, go_sem, recoverD, hu, Tryz.ntmps39, Exit.thenS]
  refine wpS_of_wp ?_
  simp only [Array.replicate_succ, Array.replicate_zero, List.push_toArray, List.append_toArray, List.nil_append, List.cons_append, List.setIfInBounds_toArray, List.set_cons_zero, List.set_cons_succ]
  go_wp2_with fail
  cases c₀
  simp_all [bodyPostS, results, Tryz.results39]
end Go.Proofs.YtdkgehhlikaocaaGreat
namespace Go.Proofs.YtdkgehhlikaocaaGreat
open Go Go.RowKit Go.Shelf

section
variable {n : Nat} {w : World} {v : Value} {p : Pg} {L : List Fr} {res : UInt32}
/-- What a step leaves. -/
def stepP (p : Pg) (L : List Fr) (res : UInt32) (most : Int) : List Fr × UInt32 × Int :=
  if 1 ≤ most ∧ most ≤ 9223372036854775807 then
    match L.getLast? with
    | none => (L, res, 220)
    | some x =>
      if localB (insT p x).1 then (if (insT p x).1 = 8 ∧ ¬ (L.length : Int) < most then (L, res, 222) else deedP p L.dropLast x (insT p x) res)
      else (L, res, 221)
  else (L, res, 2)
/-- A pile that stands: its frames are at places of its program. -/
structure Stands (p : Pg) (L : List Fr) : Prop where
  ok : ∀ f ∈ p.1, ∀ i ∈ f.2, OkIn i
  at' : ∀ x, L.getLast? = some x → x.1 < p.1.length ∧ x.2.1 < (p.1.getD x.1 zF).2.length ∧ (localB (insT p x).1 = true → DeedOk p L.dropLast x (insT p x))
set_option maxRecDepth 100000 in
theorem stepS_any {t : TypeId} {b : Nat} (h : PileP t n w b p L res) (hs : Stands p L) (most : Int) : Calls Tryz.prog 38 #[.pointer (some ⟨b, 0, none⟩), .int .i64 most] w (DeedE t n w b p (stepP p L res most)) := by
  obtain ⟨fv, lv, R, hp, rfl⟩ := h
  have ref : ∀ {er : Int}, er ≠ 0 → stepP p (R.map Prod.fst) res most = (R.map Prod.fst, res, er) → Calls Tryz.prog 38 #[.pointer (some ⟨b, 0, none⟩), .int .i64 most] w (RefE w er) → Calls Tryz.prog 38 #[.pointer (some ⟨b, 0, none⟩), .int .i64 most] w (DeedE t n w b p (stepP p (R.map Prod.fst) res most)) := by
    intro er h0 he hc
    rw [he]
    exact hc.mono fun e w' hr => ⟨fun h => absurd h h0, fun _ => hr⟩
  by_cases hm : 1 ≤ most ∧ most ≤ 9223372036854775807
  · rcases List.eq_nil_or_concat R with rfl | ⟨R', y, rfl⟩
    · exact ref (er := 220) (by decide) (by simp [stepP, hm]) (stepS_ended hp most hm)
    · rw [List.concat_eq_append] at hp hs ref ⊢
      obtain ⟨x, rv⟩ := y
      have hl : ((R' ++ [(x, rv)]).map Prod.fst).getLast? = some x := by simp
      have hd : ((R' ++ [(x, rv)]).map Prod.fst).dropLast = R'.map Prod.fst := by simp
      obtain ⟨h1, h2, h3⟩ := hs.at' x hl
      rw [hd] at h3
      obtain ⟨g, cap, rfl⟩ := hp.open
      have hT : TopO t n w b p fv g cap R' (x, rv) res := hp
      by_cases hloc : localB (insT p x).1 = true
      · have hD := h3 hloc
        by_cases h8 : (insT p x).1 = 8
        · by_cases hlt : (R'.length : Int) + 1 < most
          · have he : stepP p ((R' ++ [(x, rv)]).map Prod.fst) res most = deedP p (R'.map Prod.fst) x (insT p x) res := by
              unfold stepP
              rw [if_pos hm, hl, hd]
              simp only
              rw [if_pos hloc, if_neg (by rintro ⟨_, h⟩; exact h (by simp; omega))]
            rw [he]
            exact stepS_call hT hs.ok h1 h2 most hm (insT p x) rfl h8 hlt hD
          · exact ref (er := 222) (by decide) (by
              unfold stepP
              rw [if_pos hm, hl]
              simp only
              rw [if_pos hloc, if_pos ⟨h8, by simp; omega⟩]) (stepS_deep hT hs.ok h1 h2 most hm (insT p x) rfl hloc h8 hlt)
        · have he : stepP p ((R' ++ [(x, rv)]).map Prod.fst) res most = deedP p (R'.map Prod.fst) x (insT p x) res := by
            unfold stepP
            rw [if_pos hm, hl, hd]
            simp only
            rw [if_pos hloc, if_neg (by rintro ⟨h, _⟩; exact h8 h)]
          rw [he]
          exact stepS_op hT hs.ok h1 h2 most hm (insT p x) rfl h8 hD
      · have hlf : localB (insT p x).1 = false := by simpa using hloc
        have hmem : (p.1.getD x.1 zF) ∈ p.1 := by
          rw [List.getD_eq_getElem?_getD, List.getElem?_eq_getElem h1]
          exact List.getElem_mem h1
        have hin : insT p x ∈ (p.1.getD x.1 zF).2 := by
          unfold insT
          generalize (p.1.getD x.1 zF).2 = c at h2
          rw [List.getD_eq_getElem?_getD, List.getElem?_eq_getElem h2]
          exact List.getElem_mem h2
        exact ref (er := 221) (by decide) (by
          unfold stepP
          rw [if_pos hm, hl]
          simp only
          rw [if_neg hloc]) (stepS_shared hT hs.ok h1 h2 most hm (insT p x) rfl (hs.ok _ hmem _ hin).op hlf)
  · exact ref (er := 2) (by decide) (by unfold stepP; rw [if_neg hm]) (stepS_arg most hm _)
theorem PileP.other {t u : TypeId} {b k i : Nat} {l : List Value} (h : PileP t n w b p L res) (hb : BkS u w k l) (hu : ¬ pileT u) (h1 : 46 ≠ u) (h2 : 56 ≠ u) (x : Value) : PileP t n (w.setCell ⟨k, i, none⟩ x) b p L res := by
  obtain ⟨fv, lv, R, hp, rfl⟩ := h
  have ht := TnS.setCell k i w x
  have hne : ∀ {v : TypeId}, pileT v → v ≠ u := by rintro v hv rfl; exact hu hv
  exact ⟨fv, lv, R, ⟨hp.ht, hp.bx.tn ht (hp.bx.apart hb (hne hp.myT)), hp.fo.blk hb h1 h2 ht, hp.lo.blk hb (hne (.inr (.inr (.inl rfl)))) (hne (.inr (.inr (.inr rfl)))) ht, hp.hn⟩, rfl⟩
theorem noErr : ¬ pileT 32 := by unfold pileT; decide
set_option maxRecDepth 100000 in
set_option maxHeartbeats 4000000 in
theorem StepS_live {b : Nat} (h : PileP 73 n w b p L res) (hs : Stands p L) (h0 : p.1.length ≠ 0) (most : Int) (q : List Fr × UInt32 × Int) (hq : stepP p L res most = q) : Calls Tryz.prog 14 #[.pointer (some ⟨b, 0, none⟩), .int .i64 most] w fun e w' =>
    e = .returned (.int .i64 q.2.2) ∧ (q.2.2 = 0 → PileP 73 n w' b p q.1 q.2.1 ∧ Low n w w') ∧ (q.2.2 ≠ 0 → Adds w w') := by
  have hmf : ∀ (fn : Fn) (first cap : Array Value) (w : World), (Instr.makeFunc fn first cap).run Tryz.prog w = .ok (.func fn first cap) w := fun _ _ _ _ => rfl
  obtain ⟨w1, hw1⟩ : ∃ w1, w.alloc (.cells #[.int .i64 0] 32) = w1 := ⟨_, rfl⟩
  have A1 := Lib.hid (show Adds w w1 by rw [← hw1]; exact Adds.new _ _)
  have B1 := Lib.hid (show BkS 32 w1 w.heap.size [.int .i64 0] by rw [← hw1]; exact BkS.new _ _ _)
  have hnw : n ≤ w.heap.size := by obtain ⟨_, _, _, hp, _⟩ := h; exact hp.low
  have HNw := Lib.hid hnw
  have HI := Lib.hid (isNoneS_any (v := .pointer (some ⟨b, 0, none⟩)) (.inr ⟨b, rfl, h.adds A1.out⟩) (Nat.le_trans hnw A1.out.size))
  rw [decide_eq_false h0] at HI
  have HS := Lib.hid (fun (W : World) (ha : Adds w W) => stepS_any (h.adds ha) hs most)
  simp only [hq] at HS
  clear h hs h0 hq hnw
  by_cases hz : q.2.2 = 0
  · have HZ := Lib.hid hz
    clear hz
    go_enter_defers Tryz.func14, Tryz.ntmps14
    go_wp2_with (first
      | (go_at_call 33; refine HI.out.mono ?_; rintro e w2 ⟨rfl, a2⟩; have A2 := Lib.hid a2; clear a2)
      | (go_at_call 37; with_reducible refine (must_yes _ _).mono ?_; rintro e w4 ⟨rfl, rfl⟩)
      | (go_at_call 38; refine (HS.out _ (Adds.trans A1.out A2.out)).mono ?_; rintro e w3 hd; obtain ⟨rfl, hp, hb⟩ := hd.1 HZ.out; have HP := Lib.hid hp; have HB := Lib.hid hb; have B3 := Lib.hid (hb.k _ _ _ noErr (B1.out.adds A2.out)); have d0 := B3.out.cell 0; have f0 := B3.out.free 0; clear hd hp hb))
    refine leaves_cons (f := 36) (args := #[.pointer (some ⟨w.heap.size, 0, none⟩)]) (by simp) (by simp [go_sem]) ?_
    refine (idle_step _ _).mono ?_
    rintro e u' w'' ⟨rfl, rfl, rfl⟩
    have hP := HP.out.other (i := 0) B3.out noErr (by decide) (by decide) (.int .i64 0)
    have hL := Low.trans (Low.mono (Adds.trans A1.out A2.out) HNw.out) HB.out
    have hL2 : Low n w (w3.setCell ⟨w.heap.size, 0, none⟩ (.int .i64 0)) := ⟨hL.b.setCell (p := ⟨w.heap.size, 0, none⟩) HNw.out _, fun t i l ht hi => by
      have hi3 := hL.k t i l ht hi
      exact hi3.other (fun e => by have := hi.lt; omega) _⟩
    simp [Leaves, settle, results, Tryz.results14, go_sem, d0]
    exact ⟨HZ.out.symm, fun _ => ⟨hP, hL2⟩, fun h => absurd HZ.out h⟩
  · have HZ := Lib.hid hz
    clear hz
    go_enter_defers Tryz.func14, Tryz.ntmps14
    go_wp2_with (first
      | (go_at_call 33; refine HI.out.mono ?_; rintro e w2 ⟨rfl, a2⟩; have A2 := Lib.hid a2; clear a2)
      | (go_at_call 37; with_reducible refine (must_yes _ _).mono ?_; rintro e w4 ⟨rfl, rfl⟩)
      | (go_at_call 38; refine (HS.out _ (Adds.trans A1.out A2.out)).mono ?_; rintro e w3 hd; obtain ⟨rfl, ha⟩ := hd.2 HZ.out; have A3 := Lib.hid (Adds.trans A2.out ha); clear hd ha))
    have b2 := B1.out.adds A3.out
    have d0 := b2.cell 0
    refine leaves_cons (f := 36) (args := #[.pointer (some ⟨w.heap.size, 0, none⟩)]) (by simp) (by simp [go_sem]) ?_
    refine (catch_step w.heap.size 0 q.2.2 [] w3 b2).mono ?_
    rintro e u' w'' ⟨rfl, rfl, rfl⟩
    have hA := Adds.set (Adds.trans A1.out A3.out) (b := w.heap.size) (by omega) 0 (.int .i64 q.2.2)
    simp [Leaves, settle, results, Tryz.results14, go_sem, d0]
    exact ⟨fun h => absurd h HZ.out, fun _ => hA⟩
theorem res_bbt {P : Program} {fn : Func} {p q s : Tmp} {ty tz : TypeId} (h : fn.results = #[.cell p ty, .cell q tz, .tmp s]) (tmps : Array Value) (w : World) (g g' : Nat) (cs ds : Array Value) (t t' : TypeId) (fr fr' : Nat × Nat) (d d' : TypeDesc) (hp : tmps.getD p undef = .pointer (some ⟨g, 0, none⟩)) (hq : tmps.getD q undef = .pointer (some ⟨g', 0, none⟩))
    (hg : w.heap[g]? = some (.cells cs t fr)) (hg' : w.heap[g']? = some (.cells ds t' fr')) (hu : P.underlying ty = some d) (hd : (match d with | .struct _ | .array _ _ => true | _ => false) = true) (hi : (P.info? ty).map (·.size) = some cs.size)
    (hu' : P.underlying tz = some d') (hd' : (match d' with | .struct _ | .array _ _ => true | _ => false) = true) (hi' : (P.info? tz).map (·.size) = some ds.size) : (results fn tmps).run P w = .ok (.tuple #[.agg cs, .agg ds, tmps.getD s undef]) w := by
  have hp' : tmps[p]?.getD undef = .pointer (some ⟨g, 0, none⟩) := by simpa using hp
  have hq' : tmps[q]?.getD undef = .pointer (some ⟨g', 0, none⟩) := by simpa using hq
  simp [results, h, hp', hq', asAddr, run_loadVar_row (P := P) w g t ty cs fr d hg hu hd hi, run_loadVar_row (P := P) w g' t' tz ds fr' d' hg' hu' hd' hi']
set_option maxRecDepth 100000 in
set_option maxHeartbeats 2000000 in
theorem NextS_none (h : StkO n w v p [] res) (hn : n ≤ w.heap.size) : Calls Tryz.prog 17 #[v] w fun e w' => e = .returned (.tuple #[insV (0, 0, 0, 0, 0), .agg #[.int .i64 0, .int .i64 0], .bool false]) ∧ Adds w w' := by
  obtain ⟨w1, hw1⟩ : ∃ w1, (w.alloc (.cells #[.int .i64 0, .int .i64 0, .int .i64 0, .int .i64 0, .int .u32 0] 56)).alloc (.cells #[.int .i64 0, .int .i64 0] 58) = w1 := ⟨_, rfl⟩
  have A1 := Lib.hid (show Adds w w1 by rw [← hw1]; exact Adds.trans (Adds.new _ _) (Adds.new _ _))
  have B1 := Lib.hid (show BkS 56 w1 w.heap.size [.int .i64 0, .int .i64 0, .int .i64 0, .int .i64 0, .int .u32 0] by rw [← hw1]; exact (BkS.new _ _ _).adds (Adds.new _ _))
  have B2 := Lib.hid (show BkS 58 w1 (w.heap.size + 1) [.int .i64 0, .int .i64 0] by rw [← hw1]; have h := BkS.new 58 (w.alloc (.cells #[.int .i64 0, .int .i64 0, .int .i64 0, .int .i64 0, .int .u32 0] 56)) [.int .i64 0, .int .i64 0]; simpa using h)
  have HI := Lib.hid (inside_any (h.adds A1.out) (Nat.le_trans hn A1.out.size))
  clear h hn
  go_enter Tryz.func17, Tryz.ntmps17
  go_wp2_with (first
    | (go_at_call 35; refine HI.out.mono ?_; rintro e w2 ⟨t, b, rfl, ⟨fv, lv, R, hp, hR⟩, ha⟩; have A2 := Lib.hid ha; rw [List.map_eq_nil_iff] at hR; subst hR; have HP := Lib.hid hp; have C1 := Lib.hid (B1.out.adds ha); have C2 := Lib.hid (B2.out.adds ha); have x0 := C1.out.cell 0; have x1 := C1.out.cell 1; have x2 := C1.out.cell 2; have x3 := C1.out.cell 3; have x4 := C1.out.cell 4; have y0 := C1.out.free 0; have y1 := C1.out.free 1; have y2 := C1.out.free 2; have y3 := C1.out.free 3; have y4 := C1.out.free 4; have u0 := C2.out.cell 0; have u1 := C2.out.cell 1; have v0 := C2.out.free 0; have v1 := C2.out.free 1; clear hp ha)
    | (go_at_call 42; refine (endedS_any HP.out).mono ?_; rintro e w5 ⟨rfl, rfl⟩))
  have D1 := (((((((C1.out.set 0 (.int .i64 0)).set 1 (.int .i64 0)).set 2 (.int .i64 0)).set 3 (.int .i64 0)).set 4 (.int .u32 0)).other (c := w.heap.size + 1) (i := 0) (by omega) (.int .i64 0)).other (c := w.heap.size + 1) (i := 1) (by omega) (.int .i64 0))
  have D2 := ((((((C2.out.other (c := w.heap.size) (i := 0) (by omega) (.int .i64 0)).other (c := w.heap.size) (i := 1) (by omega) (.int .i64 0)).other (c := w.heap.size) (i := 2) (by omega) (.int .i64 0)).other (c := w.heap.size) (i := 3) (by omega) (.int .i64 0)).other (c := w.heap.size) (i := 4) (by omega) (.int .u32 0)).set 0 (.int .i64 0)).set 1 (.int .i64 0)
  have hA := Adds.trans A1.out A2.out
  have hA2 := Adds.set (Adds.set (Adds.set (Adds.set (Adds.set (Adds.set (Adds.set hA (b := w.heap.size) (by omega) 0 (.int .i64 0)) (b := w.heap.size) (by omega) 1 (.int .i64 0)) (b := w.heap.size) (by omega) 2 (.int .i64 0)) (b := w.heap.size) (by omega) 3 (.int .i64 0)) (b := w.heap.size) (by omega) 4 (.int .u32 0)) (b := w.heap.size + 1) (by omega) 0 (.int .i64 0)) (b := w.heap.size + 1) (by omega) 1 (.int .i64 0)
  (try simp only [Exit.inBlock, Exit.then])
  refine bodyPost_ret (res_bbt rfl _ _ _ _ _ _ _ _ _ _ _ _ rfl rfl D1 D2 Tryz.underlying56 rfl (by kernel_rfl) Tryz.underlying58 rfl (by kernel_rfl)) rfl ?_
  exact ⟨rfl, hA2⟩
end
end Go.Proofs.YtdkgehhlikaocaaGreat
