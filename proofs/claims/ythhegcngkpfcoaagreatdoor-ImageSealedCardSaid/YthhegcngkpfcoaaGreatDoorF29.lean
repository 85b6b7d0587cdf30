/- Merged: MR2. -/
import Derived.Test.YthhegcngkpfcoaaGreatDoorF28
namespace Go.Proofs.YthhegcngkpfcoaaGreatDoor
open Go Go.RowKit Go.Shelf Go.Lib

theorem res_bb {P : Program} {fn : Func} {p q : Tmp} {ty tz : TypeId} (h : fn.results = #[.cell p ty, .cell q tz]) (tmps : Array Value) (w : World) (g g' : Nat) (cs ds : Array Value) (t t' : TypeId) (fr fr' : Nat × Nat) (d d' : TypeDesc) (hp : tmps.getD p undef = .pointer (some ⟨g, 0, none⟩)) (hq : tmps.getD q undef = .pointer (some ⟨g', 0, none⟩))
    (hg : w.heap[g]? = some (.cells cs t fr)) (hg' : w.heap[g']? = some (.cells ds t' fr')) (hu : P.underlying ty = some d) (hd : (match d with | .struct _ | .array _ _ => true | _ => false) = true) (hi : (P.info? ty).map (·.size) = some cs.size)
    (hu' : P.underlying tz = some d') (hd' : (match d' with | .struct _ | .array _ _ => true | _ => false) = true) (hi' : (P.info? tz).map (·.size) = some ds.size) : (results fn tmps).run P w = .ok (.tuple #[.agg cs, .agg ds]) w := by
  have hp' : tmps[p]?.getD undef = .pointer (some ⟨g, 0, none⟩) := by simpa using hp
  have hq' : tmps[q]?.getD undef = .pointer (some ⟨g', 0, none⟩) := by simpa using hq
  simp [results, h, hp', hq', asAddr, run_loadVar_row (P := P) w g t ty cs fr d hg hu hd hi, run_loadVar_row (P := P) w g' t' tz ds fr' d' hg' hu' hd' hi']
theorem readI_le (l : List UInt8) : (readI l).2.1 ≤ l.length := by
  rw [← docR_is]
  unfold docR
  by_cases h0 : l.length = 0
  · rw [if_pos h0]; simp
  · rw [if_neg h0]
    unfold docM
    split
    rotate_left
    · simp
    rename_i ho
    split
    · simp
    · split
      · simp only; omega
      · simp
theorem three_row (w : World) (a b c : List Value) (s t u : TypeId) :
    BkS s (((w.alloc (.cells a.toArray s)).alloc (.cells b.toArray t)).alloc (.cells c.toArray u)) w.heap.size a ∧ BkS t (((w.alloc (.cells a.toArray s)).alloc (.cells b.toArray t)).alloc (.cells c.toArray u)) (w.heap.size + 1) b ∧ BkS u (((w.alloc (.cells a.toArray s)).alloc (.cells b.toArray t)).alloc (.cells c.toArray u)) (w.heap.size + 1 + 1) c := by
  refine ⟨(BkS.new _ _ _).adds (two_adds _ _ _), ?_, ?_⟩
  · have h := (BkS.new t (w.alloc (.cells a.toArray s)) b).adds (Adds.new _ (.cells c.toArray u))
    simpa using h
  · have h := BkS.new u ((w.alloc (.cells a.toArray s)).alloc (.cells b.toArray t)) c
    simpa using h
theorem two_new' (w : World) (o p q : Obj) : (((w.alloc o).alloc p).alloc q).heap[w.heap.size + 1]? = some p := by
  have h := (Adds.new ((w.alloc o).alloc p) q).block (w.heap.size + 1) (by simp)
  rw [h, two_new]
theorem three_new (w : World) (o p q : Obj) : (((w.alloc o).alloc p).alloc q).heap[w.heap.size + 1 + 1]? = some q := by
  have h := heap_new ((w.alloc o).alloc p) q
  simpa using h
set_option maxRecDepth 100000 in
set_option maxHeartbeats 4000000 in
theorem rins {n : Nat} (v : Value) (l : List UInt8) (s : St) (hs : s.1 ≤ l.length) (w : World) (hv : Bytes n w v l) :
    Calls Tryz.prog 51 #[rnV v s] w fun e w' => e = .returned (.tuple #[rnV v (insQ l s).1, insV (insQ l s).2]) ∧ Adds w w' := by
  obtain ⟨k, bad⟩ := s
  simp only at hs
  obtain ⟨ao, cap, rfl, h1, h2, _⟩ := id hv
  unfold maxLen at h2
  unfold insQ
  by_cases hb : bad = 0
  · subst hb
    simp only [if_true]
    have hRF := Lib.hid (show ∀ W, Adds w W → Calls Tryz.prog 72 #[cutF ao l.length cap k] W fun e w' => e = .returned (.tuple #[insV (readI (l.drop k)).1, .int .i64 ((readI (l.drop k)).2.1 : Nat), .int .i64 (readI (l.drop k)).2.2]) ∧ Adds W w' from fun W h =>
      refReadI_any _ (l.drop k) W (bytes_from (hv.here.below h) k hs))
    have hsl := fun W => slice_fromB ao l.length cap k hs W
    have hle := readI_le (l.drop k)
    obtain ⟨⟨⟨x0, x1, x2, x3, x4⟩, j, er⟩, hX⟩ : ∃ X, readI (l.drop k) = X := ⟨_, rfl⟩
    rw [hX] at hRF hle ⊢
    clear hX
    simp only [List.length_drop] at hle
    simp only
    have hlp : wrap64 ((k : Int) + (j : Int)) = (k : Int) + (j : Int) := by unfold wrap64; omega
    obtain ⟨cu, hcu⟩ : ∃ cu, cutF ao l.length cap k = cu := ⟨_, rfl⟩
    rw [hcu] at hRF
    simp only [hcu] at hsl
    clear hcu hv h1
    by_cases e1 : er = 110
    · subst e1
      rw [if_pos rfl]
      have H3 := three_row w [.slice ao l.length cap, .int .i64 (k : Int), .int .i64 0] [.slice none 0 0, .int .i64 0, .int .i64 0] [.int .i64 0, .int .i64 0, .int .i64 0, .int .i64 0, .int .u32 0] 75 75 59
      have HB0 := Lib.hid H3.1; have HB1 := Lib.hid H3.2.1; have HB2 := Lib.hid H3.2.2; clear H3
      go_enter Tryz.func51, Tryz.ntmps51
      go_wp2_with (go_at_call 72; refine (hRF.out _ (Adds.trans (two_adds _ _ _) (Adds.new _ _))).mono ?_; rintro e w' ⟨rfl, ad⟩; have B0 := Lib.hid (HB0.out.adds ad); have B1 := Lib.hid (HB1.out.adds ad); have B2 := Lib.hid (HB2.out.adds ad); have AD := Lib.hid ad; clear ad; obtain ⟨wz, hwz⟩ : ∃ wz, w'.alloc (.cells #[.int .i64 x0, .int .i64 x1, .int .i64 x2, .int .i64 x3, .int .u32 x4] 59) = wz := ⟨_, rfl⟩; have AZ := Lib.hid (show Adds w' wz by exact hwz ▸ Adds.new _ _); have B3 := Lib.hid (show BkS 59 wz w'.heap.size [.int .i64 x0, .int .i64 x1, .int .i64 x2, .int .i64 x3, .int .u32 x4] by exact hwz ▸ BkS.new _ _ _); have e0 := B0.out.lt; have e1 := B1.out.lt; have e2 := B2.out.lt; have C0 := Lib.hid (B0.out.adds AZ.out); have C1 := Lib.hid (B1.out.adds AZ.out); have C2 := Lib.hid (B2.out.adds AZ.out); obtain ⟨kz, hkz⟩ : ∃ kz, w'.heap.size = kz := ⟨_, rfl⟩; rw [hkz] at B3 e0 e1 e2; have q0 : ¬ kz = w.heap.size := (by omega); have q1 : ¬ kz = w.heap.size + 1 := (by omega); have q2 : ¬ kz = w.heap.size + 1 + 1 := (by omega); have r0 : ¬ w.heap.size = kz := (by omega); have r1 : ¬ w.heap.size + 1 = kz := (by omega); have r2 : ¬ w.heap.size + 1 + 1 = kz := (by omega); clear e0 e1 e2; have z00 := C0.out.cell 0; have y00 := C0.out.free 0; have z01 := C0.out.cell 1; have y01 := C0.out.free 1; have z02 := C0.out.cell 2; have y02 := C0.out.free 2; have z10 := C1.out.cell 0; have y10 := C1.out.free 0; have z11 := C1.out.cell 1; have y11 := C1.out.free 1; have z12 := C1.out.cell 2; have y12 := C1.out.free 2; have z20 := C2.out.cell 0; have y20 := C2.out.free 0; have z21 := C2.out.cell 1; have y21 := C2.out.free 1; have z22 := C2.out.cell 2; have y22 := C2.out.free 2; have z23 := C2.out.cell 3; have y23 := C2.out.free 3; have z24 := C2.out.cell 4; have y24 := C2.out.free 4; have z30 := B3.out.cell 0; have y30 := B3.out.free 0; have z31 := B3.out.cell 1; have y31 := B3.out.free 1; have z32 := B3.out.cell 2; have y32 := B3.out.free 2; have z33 := B3.out.cell 3; have y33 := B3.out.free 3; have z34 := B3.out.cell 4; have y34 := B3.out.free 4; clear hRF)
      clear z00 z01 z02 z10 z11 z12 z20 z21 z22 z23 z24 z30 z31 z32 z33 z34 y00 y01 y02 y10 y11 y12 y20 y21 y22 y23 y24 y30 y31 y32 y33 y34
      have AA := Lib.hid (show Adds w wz from Adds.trans (Adds.trans (Adds.trans (two_adds _ _ _) (Adds.new _ _)) AD.out) AZ.out)
      generalize hw4 : World.setCell (wz.setCell ⟨w.heap.size, 2, none⟩ (.int .i64 110)) ⟨w.heap.size, 1, none⟩ (.int .i64 ((k : Int) + (j : Int))) = w4
      have A4 := Lib.hid (show Adds w w4 by rw [← hw4]; exact Adds.set (Adds.set AA.out (Nat.le_refl _) _ _) (Nat.le_refl _) _ _)
      have D0 := Lib.hid (show BkS 75 w4 w.heap.size [.slice ao l.length cap, .int .i64 ((k : Int) + (j : Int)), .int .i64 110] by rw [← hw4]; exact (C0.out.set 2 (.int .i64 110)).set 1 (.int .i64 ((k : Int) + (j : Int))))
      have D1 := Lib.hid (show BkS 75 w4 (w.heap.size + 1) [.slice none 0 0, .int .i64 0, .int .i64 0] by rw [← hw4]; exact ((C1.out.other (by omega) _).other (by omega) _))
      have D2 := Lib.hid (show BkS 59 w4 (w.heap.size + 1 + 1) [.int .i64 0, .int .i64 0, .int .i64 0, .int .i64 0, .int .u32 0] by rw [← hw4]; exact ((C2.out.other (by omega) _).other (by omega) _))
      have D3 := Lib.hid (show BkS 59 w4 kz [.int .i64 x0, .int .i64 x1, .int .i64 x2, .int .i64 x3, .int .u32 x4] by rw [← hw4]; exact ((B3.out.other (by omega) _).other (by omega) _))
      clear hw4 C0 C1 C2 B3 B0 B1 B2 HB0 HB1 HB2 AZ AD AA hwz hkz
      have z00 := D0.out.cell 0; have y00 := D0.out.free 0; have z01 := D0.out.cell 1; have y01 := D0.out.free 1; have z02 := D0.out.cell 2; have y02 := D0.out.free 2
      have z10 := D1.out.cell 0; have y10 := D1.out.free 0; have z11 := D1.out.cell 1; have y11 := D1.out.free 1; have z12 := D1.out.cell 2; have y12 := D1.out.free 2
      have z20 := D2.out.cell 0; have y20 := D2.out.free 0; have z21 := D2.out.cell 1; have y21 := D2.out.free 1; have z22 := D2.out.cell 2; have y22 := D2.out.free 2; have z23 := D2.out.cell 3; have y23 := D2.out.free 3; have z24 := D2.out.cell 4; have y24 := D2.out.free 4
      have z30 := D3.out.cell 0; have y30 := D3.out.free 0; have z31 := D3.out.cell 1; have y31 := D3.out.free 1; have z32 := D3.out.cell 2; have y32 := D3.out.free 2; have z33 := D3.out.cell 3; have y33 := D3.out.free 3; have z34 := D3.out.cell 4; have y34 := D3.out.free 4
      go_region
      generalize hw5 : World.drew (World.setCell (World.setCell (World.setCell (World.setCell (World.setCell (World.setCell (World.setCell (World.setCell w4 ⟨w.heap.size + 1, 0, none⟩ (.slice ao l.length cap)) ⟨w.heap.size + 1, 1, none⟩ (.int .i64 ((k : Int) + (j : Int)))) ⟨w.heap.size + 1, 2, none⟩ (.int .i64 110)) ⟨w.heap.size + 1 + 1, 0, none⟩ (.int .i64 x0)) ⟨w.heap.size + 1 + 1, 1, none⟩ (.int .i64 x1)) ⟨w.heap.size + 1 + 1, 2, none⟩ (.int .i64 x2)) ⟨w.heap.size + 1 + 1, 3, none⟩ (.int .i64 x3)) ⟨w.heap.size + 1 + 1, 4, none⟩ (.int .u32 x4)) = w5
      have E1 : BkS 75 w5 (w.heap.size + 1) [.slice ao l.length cap, .int .i64 ((k : Int) + (j : Int)), .int .i64 110] := by rw [← hw5]; exact BkS.adds ((((((((D1.out.set 0 (.slice ao l.length cap)).set 1 (.int .i64 ((k : Int) + (j : Int)))).set 2 (.int .i64 110)).other (by omega) _).other (by omega) _).other (by omega) _).other (by omega) _).other (by omega) _) (Adds.drew _)
      have E2 : BkS 59 w5 (w.heap.size + 1 + 1) [.int .i64 x0, .int .i64 x1, .int .i64 x2, .int .i64 x3, .int .u32 x4] := by rw [← hw5]; exact BkS.adds ((((((((D2.out.other (by omega) _).other (by omega) _).other (by omega) _).set 0 (.int .i64 x0)).set 1 (.int .i64 x1)).set 2 (.int .i64 x2)).set 3 (.int .i64 x3)).set 4 (.int .u32 x4)) (Adds.drew _)
      have A5 : Adds w w5 := by rw [← hw5]; exact Adds.trans (Adds.set (Adds.set (Adds.set (Adds.set (Adds.set (Adds.set (Adds.set (Adds.set A4.out (by omega) _ _) (by omega) _ _) (by omega) _ _) (by omega) _ _) (by omega) _ _) (by omega) _ _) (by omega) _ _) (by omega) _ _) (Adds.drew _)
      clear hw5 D0 D1 D2 D3 A4 z00 z01 z02 z10 z11 z12 z20 z21 z22 z23 z24 z30 z31 z32 z33 z34 y00 y01 y02 y10 y11 y12 y20 y21 y22 y23 y24 y30 y31 y32 y33 y34
      have E1 := Lib.hid E1; have E2 := Lib.hid E2; have A5 := Lib.hid A5
      try simp only [Exit.then]
      go_wp2
      try simp only [Exit.inBlock, Exit.then]
      refine bodyPost_ret (res_bb rfl _ _ _ _ _ _ _ _ _ _ _ _ rfl rfl E1.out E2.out Tryz.underlying75 rfl (by kernel_rfl) Tryz.underlying59 rfl (by kernel_rfl)) rfl ?_
      exact ⟨rfl, A5.out⟩
    · by_cases e2 : er = 0
      · subst e2
        rw [if_neg (by decide), if_pos rfl]
        have H3 := three_row w [.slice ao l.length cap, .int .i64 (k : Int), .int .i64 0] [.slice none 0 0, .int .i64 0, .int .i64 0] [.int .i64 0, .int .i64 0, .int .i64 0, .int .i64 0, .int .u32 0] 75 75 59
        have HB0 := Lib.hid H3.1; have HB1 := Lib.hid H3.2.1; have HB2 := Lib.hid H3.2.2; clear H3
        go_enter Tryz.func51, Tryz.ntmps51
        go_wp2_with (go_at_call 72; refine (hRF.out _ (Adds.trans (two_adds _ _ _) (Adds.new _ _))).mono ?_; rintro e w' ⟨rfl, ad⟩; have B0 := Lib.hid (HB0.out.adds ad); have B1 := Lib.hid (HB1.out.adds ad); have B2 := Lib.hid (HB2.out.adds ad); have AD := Lib.hid ad; clear ad; obtain ⟨wz, hwz⟩ : ∃ wz, w'.alloc (.cells #[.int .i64 x0, .int .i64 x1, .int .i64 x2, .int .i64 x3, .int .u32 x4] 59) = wz := ⟨_, rfl⟩; have AZ := Lib.hid (show Adds w' wz by exact hwz ▸ Adds.new _ _); have B3 := Lib.hid (show BkS 59 wz w'.heap.size [.int .i64 x0, .int .i64 x1, .int .i64 x2, .int .i64 x3, .int .u32 x4] by exact hwz ▸ BkS.new _ _ _); have e0 := B0.out.lt; have e1 := B1.out.lt; have e2 := B2.out.lt; have C0 := Lib.hid (B0.out.adds AZ.out); have C1 := Lib.hid (B1.out.adds AZ.out); have C2 := Lib.hid (B2.out.adds AZ.out); obtain ⟨kz, hkz⟩ : ∃ kz, w'.heap.size = kz := ⟨_, rfl⟩; rw [hkz] at B3 e0 e1 e2; have q0 : ¬ kz = w.heap.size := (by omega); have q1 : ¬ kz = w.heap.size + 1 := (by omega); have q2 : ¬ kz = w.heap.size + 1 + 1 := (by omega); have r0 : ¬ w.heap.size = kz := (by omega); have r1 : ¬ w.heap.size + 1 = kz := (by omega); have r2 : ¬ w.heap.size + 1 + 1 = kz := (by omega); clear e0 e1 e2; have z00 := C0.out.cell 0; have y00 := C0.out.free 0; have z01 := C0.out.cell 1; have y01 := C0.out.free 1; have z02 := C0.out.cell 2; have y02 := C0.out.free 2; have z10 := C1.out.cell 0; have y10 := C1.out.free 0; have z11 := C1.out.cell 1; have y11 := C1.out.free 1; have z12 := C1.out.cell 2; have y12 := C1.out.free 2; have z20 := C2.out.cell 0; have y20 := C2.out.free 0; have z21 := C2.out.cell 1; have y21 := C2.out.free 1; have z22 := C2.out.cell 2; have y22 := C2.out.free 2; have z23 := C2.out.cell 3; have y23 := C2.out.free 3; have z24 := C2.out.cell 4; have y24 := C2.out.free 4; have z30 := B3.out.cell 0; have y30 := B3.out.free 0; have z31 := B3.out.cell 1; have y31 := B3.out.free 1; have z32 := B3.out.cell 2; have y32 := B3.out.free 2; have z33 := B3.out.cell 3; have y33 := B3.out.free 3; have z34 := B3.out.cell 4; have y34 := B3.out.free 4; clear hRF)
        clear z00 z01 z02 z10 z11 z12 z20 z21 z22 z23 z24 z30 z31 z32 z33 z34 y00 y01 y02 y10 y11 y12 y20 y21 y22 y23 y24 y30 y31 y32 y33 y34
        have AA := Lib.hid (show Adds w wz from Adds.trans (Adds.trans (Adds.trans (two_adds _ _ _) (Adds.new _ _)) AD.out) AZ.out)
        generalize hw4 : World.setCell wz ⟨w.heap.size, 1, none⟩ (.int .i64 ((k : Int) + (j : Int))) = w4
        have A4 := Lib.hid (show Adds w w4 by rw [← hw4]; exact Adds.set AA.out (Nat.le_refl _) _ _)
        have D0 := Lib.hid (show BkS 75 w4 w.heap.size [.slice ao l.length cap, .int .i64 ((k : Int) + (j : Int)), .int .i64 0] by rw [← hw4]; exact C0.out.set 1 (.int .i64 ((k : Int) + (j : Int))))
        have D1 := Lib.hid (show BkS 75 w4 (w.heap.size + 1) [.slice none 0 0, .int .i64 0, .int .i64 0] by rw [← hw4]; exact (C1.out.other (by omega) _))
        have D2 := Lib.hid (show BkS 59 w4 (w.heap.size + 1 + 1) [.int .i64 0, .int .i64 0, .int .i64 0, .int .i64 0, .int .u32 0] by rw [← hw4]; exact (C2.out.other (by omega) _))
        have D3 := Lib.hid (show BkS 59 w4 kz [.int .i64 x0, .int .i64 x1, .int .i64 x2, .int .i64 x3, .int .u32 x4] by rw [← hw4]; exact (B3.out.other (by omega) _))
        clear hw4 C0 C1 C2 B3 B0 B1 B2 HB0 HB1 HB2 AZ AD AA hwz hkz
        have z00 := D0.out.cell 0; have y00 := D0.out.free 0; have z01 := D0.out.cell 1; have y01 := D0.out.free 1; have z02 := D0.out.cell 2; have y02 := D0.out.free 2
        have z10 := D1.out.cell 0; have y10 := D1.out.free 0; have z11 := D1.out.cell 1; have y11 := D1.out.free 1; have z12 := D1.out.cell 2; have y12 := D1.out.free 2
        have z20 := D2.out.cell 0; have y20 := D2.out.free 0; have z21 := D2.out.cell 1; have y21 := D2.out.free 1; have z22 := D2.out.cell 2; have y22 := D2.out.free 2; have z23 := D2.out.cell 3; have y23 := D2.out.free 3; have z24 := D2.out.cell 4; have y24 := D2.out.free 4
        have z30 := D3.out.cell 0; have y30 := D3.out.free 0; have z31 := D3.out.cell 1; have y31 := D3.out.free 1; have z32 := D3.out.cell 2; have y32 := D3.out.free 2; have z33 := D3.out.cell 3; have y33 := D3.out.free 3; have z34 := D3.out.cell 4; have y34 := D3.out.free 4
        go_region
        generalize hw5 : World.drew (World.setCell (World.setCell (World.setCell (World.setCell (World.setCell (World.setCell (World.setCell (World.setCell w4 ⟨w.heap.size + 1, 0, none⟩ (.slice ao l.length cap)) ⟨w.heap.size + 1, 1, none⟩ (.int .i64 ((k : Int) + (j : Int)))) ⟨w.heap.size + 1, 2, none⟩ (.int .i64 0)) ⟨w.heap.size + 1 + 1, 0, none⟩ (.int .i64 x0)) ⟨w.heap.size + 1 + 1, 1, none⟩ (.int .i64 x1)) ⟨w.heap.size + 1 + 1, 2, none⟩ (.int .i64 x2)) ⟨w.heap.size + 1 + 1, 3, none⟩ (.int .i64 x3)) ⟨w.heap.size + 1 + 1, 4, none⟩ (.int .u32 x4)) = w5
        have E1 : BkS 75 w5 (w.heap.size + 1) [.slice ao l.length cap, .int .i64 ((k : Int) + (j : Int)), .int .i64 0] := by rw [← hw5]; exact BkS.adds ((((((((D1.out.set 0 (.slice ao l.length cap)).set 1 (.int .i64 ((k : Int) + (j : Int)))).set 2 (.int .i64 0)).other (by omega) _).other (by omega) _).other (by omega) _).other (by omega) _).other (by omega) _) (Adds.drew _)
        have E2 : BkS 59 w5 (w.heap.size + 1 + 1) [.int .i64 x0, .int .i64 x1, .int .i64 x2, .int .i64 x3, .int .u32 x4] := by rw [← hw5]; exact BkS.adds ((((((((D2.out.other (by omega) _).other (by omega) _).other (by omega) _).set 0 (.int .i64 x0)).set 1 (.int .i64 x1)).set 2 (.int .i64 x2)).set 3 (.int .i64 x3)).set 4 (.int .u32 x4)) (Adds.drew _)
        have A5 : Adds w w5 := by rw [← hw5]; exact Adds.trans (Adds.set (Adds.set (Adds.set (Adds.set (Adds.set (Adds.set (Adds.set (Adds.set A4.out (by omega) _ _) (by omega) _ _) (by omega) _ _) (by omega) _ _) (by omega) _ _) (by omega) _ _) (by omega) _ _) (by omega) _ _) (Adds.drew _)
        clear hw5 D0 D1 D2 D3 A4 z00 z01 z02 z10 z11 z12 z20 z21 z22 z23 z24 z30 z31 z32 z33 z34 y00 y01 y02 y10 y11 y12 y20 y21 y22 y23 y24 y30 y31 y32 y33 y34
        have E1 := Lib.hid E1; have E2 := Lib.hid E2; have A5 := Lib.hid A5
        try simp only [Exit.then]
        go_wp2
        try simp only [Exit.inBlock, Exit.then]
        refine bodyPost_ret (res_bb rfl _ _ _ _ _ _ _ _ _ _ _ _ rfl rfl E1.out E2.out Tryz.underlying75 rfl (by kernel_rfl) Tryz.underlying59 rfl (by kernel_rfl)) rfl ?_
        exact ⟨rfl, A5.out⟩
      · have q1 : (er == 110) = false := by simp [e1]
        have q2 : (er == 0) = false := by simp [e2]
        rw [if_neg e1, if_neg e2]
        have H3 := three_row w [.slice ao l.length cap, .int .i64 (k : Int), .int .i64 0] [.slice none 0 0, .int .i64 0, .int .i64 0] [.int .i64 0, .int .i64 0, .int .i64 0, .int .i64 0, .int .u32 0] 75 75 59
        have HB0 := Lib.hid H3.1; have HB1 := Lib.hid H3.2.1; have HB2 := Lib.hid H3.2.2; clear H3
        go_enter Tryz.func51, Tryz.ntmps51
        go_wp2_with (go_at_call 72; refine (hRF.out _ (Adds.trans (two_adds _ _ _) (Adds.new _ _))).mono ?_; rintro e w' ⟨rfl, ad⟩; have B0 := Lib.hid (HB0.out.adds ad); have B1 := Lib.hid (HB1.out.adds ad); have B2 := Lib.hid (HB2.out.adds ad); have AD := Lib.hid ad; clear ad; obtain ⟨wz, hwz⟩ : ∃ wz, w'.alloc (.cells #[.int .i64 x0, .int .i64 x1, .int .i64 x2, .int .i64 x3, .int .u32 x4] 59) = wz := ⟨_, rfl⟩; have AZ := Lib.hid (show Adds w' wz by exact hwz ▸ Adds.new _ _); have B3 := Lib.hid (show BkS 59 wz w'.heap.size [.int .i64 x0, .int .i64 x1, .int .i64 x2, .int .i64 x3, .int .u32 x4] by exact hwz ▸ BkS.new _ _ _); have e0 := B0.out.lt; have e1 := B1.out.lt; have e2 := B2.out.lt; have C0 := Lib.hid (B0.out.adds AZ.out); have C1 := Lib.hid (B1.out.adds AZ.out); have C2 := Lib.hid (B2.out.adds AZ.out); obtain ⟨kz, hkz⟩ : ∃ kz, w'.heap.size = kz := ⟨_, rfl⟩; rw [hkz] at B3 e0 e1 e2; have q0 : ¬ kz = w.heap.size := (by omega); have q1 : ¬ kz = w.heap.size + 1 := (by omega); have q2 : ¬ kz = w.heap.size + 1 + 1 := (by omega); have r0 : ¬ w.heap.size = kz := (by omega); have r1 : ¬ w.heap.size + 1 = kz := (by omega); have r2 : ¬ w.heap.size + 1 + 1 = kz := (by omega); clear e0 e1 e2; have z00 := C0.out.cell 0; have y00 := C0.out.free 0; have z01 := C0.out.cell 1; have y01 := C0.out.free 1; have z02 := C0.out.cell 2; have y02 := C0.out.free 2; have z10 := C1.out.cell 0; have y10 := C1.out.free 0; have z11 := C1.out.cell 1; have y11 := C1.out.free 1; have z12 := C1.out.cell 2; have y12 := C1.out.free 2; have z20 := C2.out.cell 0; have y20 := C2.out.free 0; have z21 := C2.out.cell 1; have y21 := C2.out.free 1; have z22 := C2.out.cell 2; have y22 := C2.out.free 2; have z23 := C2.out.cell 3; have y23 := C2.out.free 3; have z24 := C2.out.cell 4; have y24 := C2.out.free 4; have z30 := B3.out.cell 0; have y30 := B3.out.free 0; have z31 := B3.out.cell 1; have y31 := B3.out.free 1; have z32 := B3.out.cell 2; have y32 := B3.out.free 2; have z33 := B3.out.cell 3; have y33 := B3.out.free 3; have z34 := B3.out.cell 4; have y34 := B3.out.free 4; clear hRF)
        clear z00 z01 z02 z10 z11 z12 z20 z21 z22 z23 z24 z30 z31 z32 z33 z34 y00 y01 y02 y10 y11 y12 y20 y21 y22 y23 y24 y30 y31 y32 y33 y34
        have AA := Lib.hid (show Adds w wz from Adds.trans (Adds.trans (Adds.trans (two_adds _ _ _) (Adds.new _ _)) AD.out) AZ.out)
        generalize hw4 : World.setCell (wz.setCell ⟨w.heap.size, 2, none⟩ (.int .i64 200)) ⟨w.heap.size, 1, none⟩ (.int .i64 ((k : Int) + (j : Int))) = w4
        have A4 := Lib.hid (show Adds w w4 by rw [← hw4]; exact Adds.set (Adds.set AA.out (Nat.le_refl _) _ _) (Nat.le_refl _) _ _)
        have D0 := Lib.hid (show BkS 75 w4 w.heap.size [.slice ao l.length cap, .int .i64 ((k : Int) + (j : Int)), .int .i64 200] by rw [← hw4]; exact (C0.out.set 2 (.int .i64 200)).set 1 (.int .i64 ((k : Int) + (j : Int))))
        have D1 := Lib.hid (show BkS 75 w4 (w.heap.size + 1) [.slice none 0 0, .int .i64 0, .int .i64 0] by rw [← hw4]; exact ((C1.out.other (by omega) _).other (by omega) _))
        have D2 := Lib.hid (show BkS 59 w4 (w.heap.size + 1 + 1) [.int .i64 0, .int .i64 0, .int .i64 0, .int .i64 0, .int .u32 0] by rw [← hw4]; exact ((C2.out.other (by omega) _).other (by omega) _))
        have D3 := Lib.hid (show BkS 59 w4 kz [.int .i64 x0, .int .i64 x1, .int .i64 x2, .int .i64 x3, .int .u32 x4] by rw [← hw4]; exact ((B3.out.other (by omega) _).other (by omega) _))
        clear hw4 C0 C1 C2 B3 B0 B1 B2 HB0 HB1 HB2 AZ AD AA hwz hkz
        have z00 := D0.out.cell 0; have y00 := D0.out.free 0; have z01 := D0.out.cell 1; have y01 := D0.out.free 1; have z02 := D0.out.cell 2; have y02 := D0.out.free 2
        have z10 := D1.out.cell 0; have y10 := D1.out.free 0; have z11 := D1.out.cell 1; have y11 := D1.out.free 1; have z12 := D1.out.cell 2; have y12 := D1.out.free 2
        have z20 := D2.out.cell 0; have y20 := D2.out.free 0; have z21 := D2.out.cell 1; have y21 := D2.out.free 1; have z22 := D2.out.cell 2; have y22 := D2.out.free 2; have z23 := D2.out.cell 3; have y23 := D2.out.free 3; have z24 := D2.out.cell 4; have y24 := D2.out.free 4
        have z30 := D3.out.cell 0; have y30 := D3.out.free 0; have z31 := D3.out.cell 1; have y31 := D3.out.free 1; have z32 := D3.out.cell 2; have y32 := D3.out.free 2; have z33 := D3.out.cell 3; have y33 := D3.out.free 3; have z34 := D3.out.cell 4; have y34 := D3.out.free 4
        go_region
        generalize hw5 : World.drew (World.setCell (World.setCell (World.setCell (World.setCell (World.setCell (World.setCell (World.setCell (World.setCell w4 ⟨w.heap.size + 1, 0, none⟩ (.slice ao l.length cap)) ⟨w.heap.size + 1, 1, none⟩ (.int .i64 ((k : Int) + (j : Int)))) ⟨w.heap.size + 1, 2, none⟩ (.int .i64 200)) ⟨w.heap.size + 1 + 1, 0, none⟩ (.int .i64 x0)) ⟨w.heap.size + 1 + 1, 1, none⟩ (.int .i64 x1)) ⟨w.heap.size + 1 + 1, 2, none⟩ (.int .i64 x2)) ⟨w.heap.size + 1 + 1, 3, none⟩ (.int .i64 x3)) ⟨w.heap.size + 1 + 1, 4, none⟩ (.int .u32 x4)) = w5
        have E1 : BkS 75 w5 (w.heap.size + 1) [.slice ao l.length cap, .int .i64 ((k : Int) + (j : Int)), .int .i64 200] := by rw [← hw5]; exact BkS.adds ((((((((D1.out.set 0 (.slice ao l.length cap)).set 1 (.int .i64 ((k : Int) + (j : Int)))).set 2 (.int .i64 200)).other (by omega) _).other (by omega) _).other (by omega) _).other (by omega) _).other (by omega) _) (Adds.drew _)
        have E2 : BkS 59 w5 (w.heap.size + 1 + 1) [.int .i64 x0, .int .i64 x1, .int .i64 x2, .int .i64 x3, .int .u32 x4] := by rw [← hw5]; exact BkS.adds ((((((((D2.out.other (by omega) _).other (by omega) _).other (by omega) _).set 0 (.int .i64 x0)).set 1 (.int .i64 x1)).set 2 (.int .i64 x2)).set 3 (.int .i64 x3)).set 4 (.int .u32 x4)) (Adds.drew _)
        have A5 : Adds w w5 := by rw [← hw5]; exact Adds.trans (Adds.set (Adds.set (Adds.set (Adds.set (Adds.set (Adds.set (Adds.set (Adds.set A4.out (by omega) _ _) (by omega) _ _) (by omega) _ _) (by omega) _ _) (by omega) _ _) (by omega) _ _) (by omega) _ _) (by omega) _ _) (Adds.drew _)
        clear hw5 D0 D1 D2 D3 A4 z00 z01 z02 z10 z11 z12 z20 z21 z22 z23 z24 z30 z31 z32 z33 z34 y00 y01 y02 y10 y11 y12 y20 y21 y22 y23 y24 y30 y31 y32 y33 y34
        have E1 := Lib.hid E1; have E2 := Lib.hid E2; have A5 := Lib.hid A5
        try simp only [Exit.then]
        go_wp2
        try simp only [Exit.inBlock, Exit.then]
        refine bodyPost_ret (res_bb rfl _ _ _ _ _ _ _ _ _ _ _ _ rfl rfl E1.out E2.out Tryz.underlying75 rfl (by kernel_rfl) Tryz.underlying59 rfl (by kernel_rfl)) rfl ?_
        exact ⟨rfl, A5.out⟩
  · have hbq : (bad == 0) = false := by simp [hb]
    rw [if_neg hb]
    clear hv h1
    go_enter Tryz.func51, Tryz.ntmps51
    go_wp2
    refine bodyPost_ret (res_bb rfl _ _ _ _ _ _ _ _ _ _ _ _ rfl rfl (two_new' _ _ _ _) (three_new _ _ _ _) Tryz.underlying75 rfl (by kernel_rfl) Tryz.underlying59 rfl (by kernel_rfl)) rfl ?_
    exact ⟨rfl, Adds.trans (two_adds _ _ _) (Adds.new _ _)⟩
end Go.Proofs.YthhegcngkpfcoaaGreatDoor
