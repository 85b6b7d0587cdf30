/- Contract: the reference's Join. -/
import Derived.Test.YtcimppggemdidaaDoorVJ1
namespace Go.Proofs.YtcimppggemdidaaDoor
open Go Go.RowKit

theorem word_cellB {n : Nat} {w : World} {ao : Option Addr} {len cap : Nat} {l : List UInt64} (h : Words n w (.slice ao len cap) l) (i : Nat) (hi : i < l.length) :
    ∃ b off, ao = some ⟨b, off, none⟩ ∧ b < n ∧ w.cell? ⟨b, off + i, none⟩ = some (.int .u64 ((gD l i).toNat : Nat)) := by
  obtain ⟨_, _, e, _, _, h3⟩ := h
  cases e
  obtain ⟨b, off, rfl, hb, hc⟩ := h3 (by rintro rfl; simp at hi)
  exact ⟨b, off, rfl, hb, hc i hi⟩
theorem OwnW.cellD {w : World} {base g n cap : Nat} {l : List UInt64} (h : OwnW w base (.slice (some ⟨g, 0, none⟩) n cap) l) (i : Nat) (hi : i < l.length) : w.cell? ⟨g, i, none⟩ = some (.int .u64 ((gD l i).toNat : Nat)) := by
  have := World.ownsRow.cells h (g := g) rfl i (wordV (gD l i)) (by simp [gD, hi])
  have e : (⟨g, 0, none⟩ : Addr).add i = ⟨g, i, none⟩ := by unfold Addr.add; split <;> simp_all
  rw [e] at this
  exact this
theorem mx_if (a b : UInt64) : ((mx a b).toNat : Int) = if (a.toNat : Int) < (b.toNat : Int) then (b.toNat : Int) else (a.toNat : Int) := by
  rw [mx_toNat]
  split <;> omega
set_option maxRecDepth 100000 in
set_option maxHeartbeats 4000000 in
theorem refJoin_any {n : Nat} (vl : Value) (ls : List (List UInt64)) (w : World) (hv : ListsW n w vl ls) (hc : ∀ c ∈ ls, c.length ≤ 100000) :
    Calls Tryd.prog 40 #[vl] w fun e w' => ∃ v', e = .returned v' ∧ OwnW w' w.heap.size v' (vJoin ls) ∧ Adds w w' := by
  have HV := Lib.hid hv.here
  obtain ⟨ao, cap, rfl, h1, h2, _⟩ := hv
  unfold maxLen at h2
  have HC := Lib.hid hc; clear hc
  go_enter Tryd.func40, Tryd.ntmps40
  go_wp2
  go_loopw [3, 4] (fun s i wr => ∃ k : Nat, k ≤ ls.length ∧ i = .int .i64 k ∧ OwnW wr w.heap.size s ((ls.take k).foldl jF []) ∧ Adds w wr) (fun _ i _ => ls.length - (intOf i).toNat)
  case atStart => exact ⟨0, Nat.zero_le _, rfl, World.ownsRow_nil _ _ _ _, Adds.refl _⟩
  case round =>
    obtain ⟨k, hk, rfl, ho, ha⟩ := hrel
    generalize wr = wo at *
    by_cases hlt : k < ls.length
    · obtain ⟨_, _, e, _, _, h3⟩ := HV.out.below ha
      simp only [Value.slice.injEq, true_and] at e
      obtain ⟨rfl, rfl⟩ := e
      obtain ⟨b, off, rfl, hbn, hcc⟩ := h3 (by rintro rfl; simp at hlt)
      obtain ⟨u, hcell, hu⟩ := hcc k hlt
      clear hcc h3
      have hcl := HC.out (ls.getD k []) (by rw [List.getD_eq_getElem?_getD, List.getElem?_eq_getElem hlt]; exact List.getElem_mem hlt)
      have hsl := foldF_length (ls.take k) [] 100000 (by simp) (fun c hcm => HC.out c (List.mem_of_mem_take hcm))
      have hfs := foldF_snoc [] ls k hlt
      obtain ⟨c, hcc⟩ : ∃ c, ls.getD k [] = c := ⟨_, rfl⟩
      obtain ⟨s, hss⟩ : ∃ s, (ls.take k).foldl jF [] = s := ⟨_, rfl⟩
      rw [hcc] at hu hcl hfs
      rw [hss] at ho hsl hfs
      clear hcc hss
      have HFS := Lib.hid hfs; clear hfs
      obtain ⟨a2, cap2, rfl, h4, h5, _⟩ := id hu
      unfold maxLen at h5
      have HU := Lib.hid hu; clear hu
      have HCE := Lib.hid hcell; clear hcell
      have HO := Lib.hid ho; clear ho
      have HA := Lib.hid ha; clear ha
      obtain ⟨a0, c0, rfl⟩ := HO.out.isSlice
      go_wp2
      go_loopw [3, 5] (fun v i wr => ∃ j : Nat, j ≤ c.length ∧ i = .int .i64 j ∧ OwnW wr w.heap.size v (jk s c j) ∧ Below w.heap.size wo wr) (fun _ i _ => c.length - (intOf i).toNat)
      case atStart => exact ⟨0, Nat.zero_le _, rfl, by rw [jk_zero]; exact HO.out, Below.refl _ _⟩
      case round =>
        obtain ⟨j, hj, rfl, hoj, hbj⟩ := hrel
        have hcq : wr.cell? ⟨b, off + k, none⟩ = some (.slice a2 c.length cap2) := (hbj.cell (p := ⟨b, off + k, none⟩) hbn).trans HCE.out
        have hsz : w.heap.size ≤ wr.heap.size := Nat.le_trans HA.out.size hbj.size
        have HBJ := Lib.hid hbj; clear hbj
        have hml : (jk s c j).length ≤ 100000 := by rw [jk_length]; omega
        obtain ⟨aj, cj, rfl⟩ := hoj.isSlice
        obtain ⟨M, hM⟩ : ∃ M, (jk s c j).length = M := ⟨_, rfl⟩
        rw [hM] at hml ⊢
        by_cases hjc : j < c.length
        · obtain ⟨b2, off2, rfl, hb2, hc2⟩ := word_cellB (HU.out.below HBJ.out) j hjc
          have hjM : j ≤ M := by rw [← hM, jk_length]; omega
          have HSZ := Lib.hid hsz; clear hsz
          by_cases hje : j = M
          · subst hje
            have HWZ := Lib.hid (words_zero wr)
            have HO2 := Lib.hid (show OwnW (wr.alloc (.cells #[.int .u64 0] 26)) w.heap.size _ (jk s c j) from World.ownsRow.alloc (show OwnW wr w.heap.size (.slice aj j cj) (jk s c j) from (by have h := hoj; rw [hM] at h; exact h)) _)
            have HJG := Lib.hid (jk_grow s c j hM.symm)
            have hlen : (jk s c j ++ [0]).length = j + 1 := by rw [List.length_append, hM]; rfl
            have HLEN := Lib.hid hlen; clear hlen
            have HM := Lib.hid hM; clear hM hoj
            obtain ⟨L, hL⟩ : ∃ L, jk s c j ++ [0] = L := ⟨_, rfl⟩
            rw [hL] at HJG HLEN
            obtain ⟨x1, hx1⟩ : ∃ x : Nat, (gD L j).toNat = x := ⟨_, rfl⟩
            obtain ⟨x2, hx2⟩ : ∃ x : Nat, (gD c j).toNat = x := ⟨_, rfl⟩
            have hmx := mx_if (gD L j) (gD c j)
            rw [hx1, hx2] at hmx
            rw [hx2] at hc2
            have HMX := Lib.hid hmx; clear hmx
            have HX1 := Lib.hid hx1; clear hx1 hx2
            have HLL := Lib.hid hL; clear hL
            have hmo : Tryd.prog.follows .mixedOrders = true := by kernel_rfl
            have HC2 := Lib.hid hc2; clear hc2
            have HCQ := Lib.hid hcq
            have hM1 : (j : Int) ≤ 100000 := by omega
            have HML := Lib.hid hml; clear hml
            by_cases hxy : (x1 : Int) < (x2 : Int)
            · go_wp2_with (at_builtin; refine wp_append_w rfl _ _ 48 rfl Tryd.underlying48 w.heap.size _ (jk s c j) rfl (by exact HO2.out) _ [0] _ rfl (by exact HWZ.out) (by have := HM.out; have := HML.out; simp; omega) (by have := HSZ.out; simp; omega) ?_; intro v1 w1 o1 b1; rw [HLL.out] at o1; obtain ⟨g1, cap1, rfl, hgb, _, hfz⟩ := o1.form' (fun h => by have := HLEN.out; rw [h] at this; simp at this); rw [HLEN.out]; have fz : w1.drew.frozen? ⟨g1, j, none⟩ = false := hfz j; have cy : w1.drew.cell? ⟨g1, j, none⟩ = some (.int .u64 (x1 : Nat)) := (by rw [← HX1.out]; exact o1.cellD j (by rw [HLEN.out]; omega)); have B2 := Lib.hid ((((Below.refl w.heap.size wr).alloc HSZ.out _).grown b1 (by have := HSZ.out; simp; omega) (fun j hj => (World.ownsRow.lt HO2.out j hj.symm.symm).1))); have cl : w1.drew.cell? ⟨b, off + k, none⟩ = some (.slice (some ⟨b2, off2, none⟩) c.length cap2) := (B2.out.cell (p := ⟨b, off + k, none⟩) hbn).trans HCQ.out; have cc : w1.drew.cell? ⟨b2, off2 + j, none⟩ = some (.int .u64 (x2 : Nat)) := (B2.out.cell (p := ⟨b2, off2 + j, none⟩) hb2).trans HC2.out; have O2 := Lib.hid o1; clear o1 b1 hfz)
              have HNR := Lib.hid (OwnW.set (l := L) (w := w1.drew) (show OwnW w1.drew w.heap.size (.slice (some ⟨g1, 0, none⟩) L.length cap1) L from O2.out) j (mx (gD L j) (gD c j)))
              rw [HJG.out] at HNR
              have HWV := Lib.hid (show wordV (mx (gD L j) (gD c j)) = .int .u64 (x2 : Nat) from by unfold wordV; rw [HMX.out, if_pos hxy])
              rw [HWV.out, HLEN.out] at HNR
              have HNB := Lib.hid (show Below w.heap.size wr (w1.drew.setCell ⟨g1, j, none⟩ (.int .u64 (x2 : Nat))) from B2.out.drew.setCell (p := ⟨g1, j, none⟩) hgb _)
              go_wp2
              go_region
              all_goals
                go_wp2
                go_roundw
                case rel => exact ⟨j + 1, by omega, by go_num, HNR.out, HBJ.out.trans HNB.out⟩
                case measure => simp [intOf]; omega
            · go_wp2_with (at_builtin; refine wp_append_w rfl _ _ 48 rfl Tryd.underlying48 w.heap.size _ (jk s c j) rfl (by exact HO2.out) _ [0] _ rfl (by exact HWZ.out) (by have := HM.out; have := HML.out; simp; omega) (by have := HSZ.out; simp; omega) ?_; intro v1 w1 o1 b1; rw [HLL.out] at o1; obtain ⟨g1, cap1, rfl, hgb, _, hfz⟩ := o1.form' (fun h => by have := HLEN.out; rw [h] at this; simp at this); rw [HLEN.out]; have fz : w1.drew.frozen? ⟨g1, j, none⟩ = false := hfz j; have cy : w1.drew.cell? ⟨g1, j, none⟩ = some (.int .u64 (x1 : Nat)) := (by rw [← HX1.out]; exact o1.cellD j (by rw [HLEN.out]; omega)); have B2 := Lib.hid ((((Below.refl w.heap.size wr).alloc HSZ.out _).grown b1 (by have := HSZ.out; simp; omega) (fun j hj => (World.ownsRow.lt HO2.out j hj.symm.symm).1))); have cl : w1.drew.cell? ⟨b, off + k, none⟩ = some (.slice (some ⟨b2, off2, none⟩) c.length cap2) := (B2.out.cell (p := ⟨b, off + k, none⟩) hbn).trans HCQ.out; have cc : w1.drew.cell? ⟨b2, off2 + j, none⟩ = some (.int .u64 (x2 : Nat)) := (B2.out.cell (p := ⟨b2, off2 + j, none⟩) hb2).trans HC2.out; have O2 := Lib.hid o1; clear o1 b1 hfz)
              have HNR := Lib.hid (OwnW.set (l := L) (w := w1.drew) (show OwnW w1.drew w.heap.size (.slice (some ⟨g1, 0, none⟩) L.length cap1) L from O2.out) j (mx (gD L j) (gD c j)))
              rw [HJG.out] at HNR
              have HWV := Lib.hid (show wordV (mx (gD L j) (gD c j)) = .int .u64 (x1 : Nat) from by unfold wordV; rw [HMX.out, if_neg (by omega)])
              rw [HWV.out, HLEN.out] at HNR
              have HNB := Lib.hid (show Below w.heap.size wr (w1.drew.setCell ⟨g1, j, none⟩ (.int .u64 (x1 : Nat))) from B2.out.drew.setCell (p := ⟨g1, j, none⟩) hgb _)
              go_wp2
              go_region
              all_goals
                go_wp2
                go_roundw
                case rel => exact ⟨j + 1, by omega, by go_num, HNR.out, HBJ.out.trans HNB.out⟩
                case measure => simp [intOf]; omega
          · have hjl : j < M := by omega
            have HJS := Lib.hid (jk_same s c j (by rw [hM]; exact hjl))
            obtain ⟨g1, cap1, e, hgb, _, hfz⟩ := hoj.form' (by intro h; rw [h] at hM; simp at hM; omega)
            simp only [Value.slice.injEq] at e
            obtain ⟨rfl, hq1, hq2⟩ := e
            clear hq1 hq2
            have hoj' : OwnW wr w.heap.size (.slice (some ⟨g1, 0, none⟩) M cj) (jk s c j) := hM ▸ hoj
            clear hoj
            have hjne : ((j : Int) == (M : Int)) = false := by simp; omega
            obtain ⟨L, hL⟩ : ∃ L, jk s c j = L := ⟨_, rfl⟩
            rw [hL] at HJS hoj' hM
            have HLEN := Lib.hid hM; clear hM
            obtain ⟨x1, hx1⟩ : ∃ x : Nat, (gD L j).toNat = x := ⟨_, rfl⟩
            obtain ⟨x2, hx2⟩ : ∃ x : Nat, (gD c j).toNat = x := ⟨_, rfl⟩
            have hmx := mx_if (gD L j) (gD c j)
            rw [hx1, hx2] at hmx
            rw [hx2] at hc2
            have HMX := Lib.hid hmx; clear hmx
            have HX1 := Lib.hid hx1; clear hx1 hx2
            have HLL := Lib.hid hL; clear hL
            have hmo : Tryd.prog.follows .mixedOrders = true := by kernel_rfl
            have HC2 := Lib.hid hc2; clear hc2
            have HCQ := Lib.hid hcq
            have hM1 : (M : Int) ≤ 100000 := by omega
            have HML := Lib.hid hml; clear hml
            have fz : wr.drew.frozen? ⟨g1, j, none⟩ = false := hfz j
            have cy : wr.drew.cell? ⟨g1, j, none⟩ = some (.int .u64 (x1 : Nat)) := by rw [← HX1.out]; exact hoj'.cellD j (by rw [HLEN.out]; exact hjl)
            have cl : wr.drew.cell? ⟨b, off + k, none⟩ = some (.slice (some ⟨b2, off2, none⟩) c.length cap2) := hcq
            have cc : wr.drew.cell? ⟨b2, off2 + j, none⟩ = some (.int .u64 (x2 : Nat)) := HC2.out
            have hnr := OwnW.set (l := L) (w := wr.drew) (base := w.heap.size) (g := g1) (cap := cj) (by rw [HLEN.out]; exact hoj') j (mx (gD L j) (gD c j))
            rw [HJS.out, HLEN.out] at hnr
            have HNR0 := Lib.hid hnr; clear hnr hfz hoj'
            by_cases hxy : (x1 : Int) < (x2 : Int)
            · have HWV := Lib.hid (show wordV (mx (gD L j) (gD c j)) = .int .u64 (x2 : Nat) from by unfold wordV; rw [HMX.out, if_pos hxy])
              have HNR := HNR0
              rw [HWV.out] at HNR
              have HNB := Lib.hid (show Below w.heap.size wr (wr.drew.setCell ⟨g1, j, none⟩ (.int .u64 (x2 : Nat))) from (Below.refl w.heap.size wr).drew.setCell (p := ⟨g1, j, none⟩) hgb _)
              go_wp2_with fail
              go_region
              all_goals
                go_wp2
                go_roundw
                case rel => exact ⟨j + 1, by omega, by go_num, HNR.out, HBJ.out.trans HNB.out⟩
                case measure => simp [intOf]; omega
            · have HWV := Lib.hid (show wordV (mx (gD L j) (gD c j)) = .int .u64 (x1 : Nat) from by unfold wordV; rw [HMX.out, if_neg (by omega)])
              have HNR := HNR0
              rw [HWV.out] at HNR
              have HNB := Lib.hid (show Below w.heap.size wr (wr.drew.setCell ⟨g1, j, none⟩ (.int .u64 (x1 : Nat))) from (Below.refl w.heap.size wr).drew.setCell (p := ⟨g1, j, none⟩) hgb _)
              go_wp2_with fail
              go_region
              all_goals
                go_wp2
                go_roundw
                case rel => exact ⟨j + 1, by omega, by go_num, HNR.out, HBJ.out.trans HNB.out⟩
                case measure => simp [intOf]; omega
        · have hje : j = c.length := by omega
          subst hje
          have HOJ := Lib.hid hoj; clear hoj
          have HM := Lib.hid hM; clear hM
          go_wp2
          go_roundw
          case rel => exact ⟨k + 1, by omega, by go_num, by rw [HFS.out]; unfold jF; rw [← HM.out]; exact HOJ.out, Below.trans HA.out HBJ.out⟩
          case measure => simp [intOf]; omega
    · rw [List.take_of_length_le (by omega)] at ho
      have HO := Lib.hid ho; clear ho
      have hsz := ha.size
      have HA := Lib.hid ha; clear ha
      obtain ⟨a0, c0, rfl⟩ := HO.out.isSlice
      have HTR := Lib.hid (refTrim_any _ _ wo HO.out.words (foldF_length _ _ _ (by simp) fun c hcm => Nat.le_trans (HC.out c hcm) (by omega)))
      rw [foldF_trim] at HTR
      obtain ⟨m0, hm0⟩ : ∃ y, (List.foldl jF [] ls).length = y := ⟨_, rfl⟩
      rw [hm0] at HTR ⊢
      clear hm0
      have HSZ := Lib.hid hsz; clear hsz
      go_wp2_with (go_at_call 32; refine HTR.out.mono ?_; rintro e w5 ⟨v5, rfl, o5, a5⟩; have O5 := Lib.hid o5; have A5 := Lib.hid a5; obtain ⟨a6, c6, rfl⟩ := o5.isSlice; clear o5 a5)
      go_ret
      exact ⟨_, rfl, O5.out.lower HSZ.out, HA.out.trans A5.out⟩
end Go.Proofs.YtcimppggemdidaaDoor
