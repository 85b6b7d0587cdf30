/- The law InstrHolds, walked. -/
import Derived.Test.YtackandgjcnhfaaGreatDoorIWk
import Derived.Test.YtackandgjcnhfaaGreatDoorBB
namespace Go.Proofs.YtackandgjcnhfaaGreatDoor
open Go Go.RowKit Go.Shelf

theorem errI_cases (x : In) : (mayI x = true ∧ errI x = 0) ∨ (mayI x = false ∧ errI x = 2) := by
  unfold errI
  cases mayI x <;> simp
theorem bytes8 (x : In) (hx : OkIn x) (w : World) (hv : Widths w) : Calls Tryz.prog 8 #[insV x] w fun e w' => ∃ v, e = .returned (.tuple #[v, .int .i64 (errI x)]) ∧ Adds w w' := by
  unfold errI
  cases hm : mayI x
  · exact (bytes8_no x hx hm w).mono fun _ _ ⟨h1, h2⟩ => ⟨_, h1, h2⟩
  · exact (bytes8_yes x hx hm w hv).mono fun _ _ ⟨v, h1, _, h2⟩ => ⟨v, h1, h2⟩
theorem slice_pre8 (ao : Option Addr) (len cap i : Nat) (hi : i ≤ cap) (w : World) :
    (Instr.slice 26 (.slice ao len cap) none (some (.int .i64 (i : Int))) none).run Tryz.prog w = .ok (cutT ao cap i) w := slice_to8 ao len cap i hi w
set_option maxRecDepth 100000 in
set_option maxHeartbeats 4000000 in
theorem holdsI_no (x y : In) (hx : OkIn x) (hy : OkIn y) (hn : ¬ (mayI x = true ∧ mayI y = true)) (w : World) (hv : IVars w) : Calls Tryz.prog 6 #[insV x, insV y] w (TrueI w) := by
  have HV := Lib.hid hv; clear hv
  have hnum := num_ins
  have HBx := Lib.hid (fun W (h : Adds w W) => bytes8 x hx W (HV.out.adds h).wid)
  have HBy := Lib.hid (fun W (h : Adds w W) => bytes8 y hy W (HV.out.adds h).wid)
  have HTx := Lib.hid (fun W (h : Adds w W) => text8 x hx W (HV.out.adds h))
  have HTy := Lib.hid (fun W (h : Adds w W) => text8 y hy W (HV.out.adds h))
  have he : (errI x = 0 ∧ errI y = 2) ∨ (errI x = 2 ∧ errI y = 0) ∨ (errI x = 2 ∧ errI y = 2) := by
    rcases errI_cases x with ⟨h1, h2⟩ | ⟨h1, h2⟩ <;> rcases errI_cases y with ⟨h3, h4⟩ | ⟨h3, h4⟩
    · exact absurd ⟨h1, h3⟩ hn
    · exact .inl ⟨h2, h4⟩
    · exact .inr (.inl ⟨h2, h4⟩)
    · exact .inr (.inr ⟨h2, h4⟩)
  generalize errI x = e1 at HBx HTx he
  generalize errI y = e2 at HBy HTy he
  generalize str (txtI x) = tx at HTx
  generalize str (txtI y) = ty at HTy
  obtain ⟨xo, xa, xb, xc, xi⟩ := x
  obtain ⟨yo, ya, yb, yc, yi⟩ := y
  clear hx hy hn
  obtain ⟨w2, hw2⟩ : ∃ w2, (w.alloc (.cells #[.int .i64 xo, .int .i64 xa, .int .i64 xb, .int .i64 xc, .int .u32 xi] 25)).alloc (.cells #[.int .i64 yo, .int .i64 ya, .int .i64 yb, .int .i64 yc, .int .u32 yi] 25) = w2 := ⟨_, rfl⟩
  have HA2 := Lib.hid (show Adds w w2 by rw [← hw2]; exact ((Gr.new _ _).alloc _).adds)
  have HX2 := Lib.hid (show BkS 25 w2 w.heap.size (insC (xo, xa, xb, xc, xi)) by rw [← hw2]; exact (BkS.new 25 w (insC (xo, xa, xb, xc, xi))).adds (Gr.new _ _).adds)
  have HY2 := Lib.hid (show BkS 25 w2 (w.heap.size + 1) (insC (yo, ya, yb, yc, yi)) by rw [← hw2]; exact heap_new1 _ _ _)
  have HF := Lib.hid (show ∀ W, Adds w2 W → (W.cell? ⟨w.heap.size, 0, none⟩ = some (.int .i64 xo) ∧ W.cell? ⟨w.heap.size, 1, none⟩ = some (.int .i64 xa) ∧ W.cell? ⟨w.heap.size, 2, none⟩ = some (.int .i64 xb) ∧ W.cell? ⟨w.heap.size, 3, none⟩ = some (.int .i64 xc) ∧ W.cell? ⟨w.heap.size, 4, none⟩ = some (.int .u32 xi)) ∧
    (W.cell? ⟨w.heap.size + 1, 0, none⟩ = some (.int .i64 yo) ∧ W.cell? ⟨w.heap.size + 1, 1, none⟩ = some (.int .i64 ya) ∧ W.cell? ⟨w.heap.size + 1, 2, none⟩ = some (.int .i64 yb) ∧ W.cell? ⟨w.heap.size + 1, 3, none⟩ = some (.int .i64 yc) ∧ W.cell? ⟨w.heap.size + 1, 4, none⟩ = some (.int .u32 yi)) from fun W h =>
    ⟨⟨(HX2.out.adds h).cell 0, (HX2.out.adds h).cell 1, (HX2.out.adds h).cell 2, (HX2.out.adds h).cell 3, (HX2.out.adds h).cell 4⟩, ⟨(HY2.out.adds h).cell 0, (HY2.out.adds h).cell 1, (HY2.out.adds h).cell 2, (HY2.out.adds h).cell 3, (HY2.out.adds h).cell 4⟩⟩)
  obtain ⟨⟨c0, c1, c2, c3, c4⟩, d0, d1, d2, d3, d4⟩ := HF.out w2 (Adds.refl _)
  rcases he with ⟨rfl, rfl⟩ | ⟨rfl, rfl⟩ | ⟨rfl, rfl⟩
  all_goals
    go_enter Tryz.func6, Tryz.ntmps6
    go_wp2_with (first
      | (go_at_call 8; refine (HBx.out w2 HA2.out).mono ?_; rintro e w3 ⟨v3, rfl, a3⟩; clear HBx c0 c1 c2 c3 c4 d0 d1 d2 d3 d4 hw2; have A3 := Lib.hid a3; obtain ⟨⟨c0, c1, c2, c3, c4⟩, d0, d1, d2, d3, d4⟩ := HF.out w3 a3; clear a3)
      | (go_at_call 8; refine (HBy.out w3 (Adds.trans HA2.out A3.out)).mono ?_; rintro e w4 ⟨v4, rfl, a4⟩; clear HBy c0 c1 c2 c3 c4 d0 d1 d2 d3 d4; have A4 := Lib.hid (Adds.trans A3.out a4); obtain ⟨⟨c0, c1, c2, c3, c4⟩, d0, d1, d2, d3, d4⟩ := HF.out w4 (Adds.trans A3.out a4); clear a4)
      | (go_at_call 14; refine (HTx.out w4 (Adds.trans HA2.out A4.out)).mono ?_; rintro e w5 ⟨rfl, a5⟩; clear HTx c0 c1 c2 c3 c4 d0 d1 d2 d3 d4; have A5 := Lib.hid (Adds.trans A4.out a5); obtain ⟨⟨c0, c1, c2, c3, c4⟩, d0, d1, d2, d3, d4⟩ := HF.out w5 (Adds.trans A4.out a5); clear a5)
      | (go_at_call 14; refine (HTy.out w5 (Adds.trans HA2.out A5.out)).mono ?_; rintro e w6 ⟨rfl, a6⟩; clear HTy c0 c1 c2 c3 c4 d0 d1 d2 d3 d4; have A6 := Lib.hid (Adds.trans HA2.out (Adds.trans A5.out a6)); clear a6)
      | (go_at_call 11; refine (hnum _ _).mono ?_; rintro e w10 ⟨rfl, rfl⟩)
      | (go_at_call 7; refine (worksI w6 (HV.out.adds A6.out)).mono ?_; rintro e w7 ⟨rfl, a7⟩; have A7 := Lib.hid (Adds.trans A6.out a7); clear a7))
    go_ret
    exact ⟨rfl, A7.out⟩
theorem str_eqb (a b : List UInt8) (q : Bool) (h : a = b ↔ q = true) : ((str a).toList == (str b).toList) = q := by
  cases q
  · exact beq_no (fun e => by have := h.1 (str_inj e); cases this)
  · rw [h.2 rfl]; simp
set_option maxRecDepth 100000 in
set_option maxHeartbeats 4000000 in
theorem holdsI_yes (x y : In) (hx : OkIn x) (hy : OkIn y) (mx : mayI x = true) (my : mayI y = true) (w : World) (hv : IVars w) : Calls Tryz.prog 6 #[insV x, insV y] w (TrueI w) := by
  have hmx : Tryz.prog.follows .mixedOrders = true := by kernel_rfl
  have HV := Lib.hid hv; clear hv
  have hnum := num_ins
  have HBx := Lib.hid (fun W (h : Adds w W) => bytes8_yes x hx mx W (HV.out.adds h).wid)
  have HBy := Lib.hid (fun W (h : Adds w W) => bytes8_yes y hy my W (HV.out.adds h).wid)
  have HTx := Lib.hid (fun W (h : Adds w W) => text8_yes x hx mx W (HV.out.adds h))
  have HTy := Lib.hid (fun W (h : Adds w W) => text8_yes y hy my W (HV.out.adds h))
  have hqb := str_eqb (bytesI x) (bytesI y) (eqI x y) ⟨fun h => eqI_iff.2 (bytesI_inj mx my h), fun h => by rw [eqI_iff.1 h]⟩
  have hqt := str_eqb (textI x) (textI y) (eqI x y) ⟨fun h => eqI_iff.2 (textI_inj mx my h), fun h => by rw [eqI_iff.1 h]⟩
  have HPre := Lib.hid (show eqI x y = false → (bytesI x).length ≤ (bytesI y).length → (bytesI y).take (bytesI x).length ≠ bytesI x from fun h hl e => by
    have h2 := bytes_begin mx my (r := (bytesI y).drop (bytesI x).length) (by
      have := List.take_append_drop (bytesI x).length (bytesI y)
      rw [e] at this
      exact this.symm)
    rw [eqI_iff.2 h2.1] at h
    cases h)
  have hq := ins_eql x y
  have hne1 : bytesI x ≠ [] := by unfold bytesI; simp
  have hne2 : bytesI y ≠ [] := by unfold bytesI; simp
  obtain ⟨q, hqq⟩ : ∃ q, eqI x y = q := ⟨_, rfl⟩
  rw [hqq] at hqb hqt hq HPre
  clear hqq
  generalize bytesI x = ba at HBx hqb HPre hne1
  generalize bytesI y = bb at HBy hqb HPre hne2
  generalize str (textI x) = ta at HTx hqt
  generalize str (textI y) = tb at HTy hqt
  obtain ⟨xo, xa, xb, xc, xi⟩ := x
  obtain ⟨yo, ya, yb, yc, yi⟩ := y
  clear hx hy mx my
  obtain ⟨w2, hw2⟩ : ∃ w2, (w.alloc (.cells #[.int .i64 xo, .int .i64 xa, .int .i64 xb, .int .i64 xc, .int .u32 xi] 25)).alloc (.cells #[.int .i64 yo, .int .i64 ya, .int .i64 yb, .int .i64 yc, .int .u32 yi] 25) = w2 := ⟨_, rfl⟩
  have HA2 := Lib.hid (show Adds w w2 by rw [← hw2]; exact ((Gr.new _ _).alloc _).adds)
  have HX2 := Lib.hid (show BkS 25 w2 w.heap.size (insC (xo, xa, xb, xc, xi)) by rw [← hw2]; exact (BkS.new 25 w (insC (xo, xa, xb, xc, xi))).adds (Gr.new _ _).adds)
  have HY2 := Lib.hid (show BkS 25 w2 (w.heap.size + 1) (insC (yo, ya, yb, yc, yi)) by rw [← hw2]; exact heap_new1 _ _ _)
  have HF := Lib.hid (show ∀ W, Adds w2 W → (W.cell? ⟨w.heap.size, 0, none⟩ = some (.int .i64 xo) ∧ W.cell? ⟨w.heap.size, 1, none⟩ = some (.int .i64 xa) ∧ W.cell? ⟨w.heap.size, 2, none⟩ = some (.int .i64 xb) ∧ W.cell? ⟨w.heap.size, 3, none⟩ = some (.int .i64 xc) ∧ W.cell? ⟨w.heap.size, 4, none⟩ = some (.int .u32 xi)) ∧
    (W.cell? ⟨w.heap.size + 1, 0, none⟩ = some (.int .i64 yo) ∧ W.cell? ⟨w.heap.size + 1, 1, none⟩ = some (.int .i64 ya) ∧ W.cell? ⟨w.heap.size + 1, 2, none⟩ = some (.int .i64 yb) ∧ W.cell? ⟨w.heap.size + 1, 3, none⟩ = some (.int .i64 yc) ∧ W.cell? ⟨w.heap.size + 1, 4, none⟩ = some (.int .u32 yi)) from fun W h =>
    ⟨⟨(HX2.out.adds h).cell 0, (HX2.out.adds h).cell 1, (HX2.out.adds h).cell 2, (HX2.out.adds h).cell 3, (HX2.out.adds h).cell 4⟩, ⟨(HY2.out.adds h).cell 0, (HY2.out.adds h).cell 1, (HY2.out.adds h).cell 2, (HY2.out.adds h).cell 3, (HY2.out.adds h).cell 4⟩⟩)
  obtain ⟨⟨c0, c1, c2, c3, c4⟩, d0, d1, d2, d3, d4⟩ := HF.out w2 (Adds.refl _)
  have HNe := Lib.hid (And.intro hne1 hne2)
  have HQs := Lib.hid (And.intro hqb (And.intro hqt hq))
  clear hne1 hne2 hqb hqt hq
  go_enter Tryz.func6, Tryz.ntmps6
  go_wp2_with (first
    | (go_at_call 8; refine (HBx.out w2 HA2.out).mono ?_; rintro e w3 ⟨v3, rfl, o3, a3⟩; clear HBx c0 c1 c2 c3 c4 d0 d1 d2 d3 d4 hw2; have A3 := Lib.hid a3; obtain ⟨ga, capa, rfl, _, _⟩ := o3.form HNe.out.1; have O3 := Lib.hid o3.bytes; obtain ⟨⟨c0, c1, c2, c3, c4⟩, d0, d1, d2, d3, d4⟩ := HF.out w3 a3; clear a3 o3)
    | (go_at_call 8; refine (HBy.out w3 (Adds.trans HA2.out A3.out)).mono ?_; rintro e w4 ⟨v4, rfl, o4, a4⟩; clear HBy c0 c1 c2 c3 c4 d0 d1 d2 d3 d4; have A4 := Lib.hid (Adds.trans A3.out a4); obtain ⟨gb, capb, rfl, _, _⟩ := o4.form HNe.out.2; have O4 := Lib.hid (And.intro (O3.out.here.below a4) o4.bytes); obtain ⟨⟨c0, c1, c2, c3, c4⟩, d0, d1, d2, d3, d4⟩ := HF.out w4 (Adds.trans A3.out a4); clear a4 o4)
    | (go_at_call 14; refine (HTx.out w4 (Adds.trans HA2.out A4.out)).mono ?_; rintro e w5 ⟨rfl, a5⟩; clear HTx c0 c1 c2 c3 c4 d0 d1 d2 d3 d4; have A45 := Lib.hid a5; have A5 := Lib.hid (Adds.trans A4.out a5); obtain ⟨⟨c0, c1, c2, c3, c4⟩, d0, d1, d2, d3, d4⟩ := HF.out w5 (Adds.trans A4.out a5); clear a5)
    | (go_at_call 14; refine (HTy.out w5 (Adds.trans HA2.out A5.out)).mono ?_; rintro e w6 ⟨rfl, a6⟩; clear HTy c0 c1 c2 c3 c4 d0 d1 d2 d3 d4; have A26 := Lib.hid (Adds.trans A5.out a6); have A6 := Lib.hid (Adds.trans HA2.out A26.out); have A46 := Lib.hid (Adds.trans A45.out a6); clear a6)
    | (go_at_call 11; refine (hnum _ _).mono ?_; rintro e w10 ⟨rfl, rfl⟩))
  obtain ⟨la, hla⟩ : ∃ n, ba.length = n := ⟨_, rfl⟩
  obtain ⟨lb, hlb⟩ : ∃ n, bb.length = n := ⟨_, rfl⟩
  obtain ⟨_, hcb, _⟩ := bytes_len O4.out.2
  rw [hlb] at hcb
  obtain ⟨sa, hsa⟩ : ∃ s, str ba = s := ⟨_, rfl⟩
  obtain ⟨sb, hsb⟩ : ∃ s, str bb = s := ⟨_, rfl⟩
  have S1 := Lib.hid (show ∀ w', Adds w6.drew w' → (convert 26 9 (.slice (some ⟨ga, 0, none⟩) la capa)).run Tryz.prog w' = .ok (.string sa) w' from fun w' h => by rw [← hsa, ← hla]; exact strAt (O4.out.1.here.below (Adds.trans A46.out (Adds.trans (Adds.drew _) h))).here)
  have S2 := Lib.hid (show ∀ w', Adds w6.drew w' → (convert 26 9 (.slice (some ⟨gb, 0, none⟩) lb capb)).run Tryz.prog w' = .ok (.string sb) w' from fun w' h => by rw [← hsb, ← hlb]; exact strAt (O4.out.2.here.below (Adds.trans A46.out (Adds.trans (Adds.drew _) h))).here)
  have HD := Lib.hid (fun w' (h : Adds w6.drew w') => HF.out w' (Adds.trans A26.out (Adds.trans (Adds.drew _) h)))
  have HWk := Lib.hid (show ∀ w', Adds w6.drew w' → Calls Tryz.prog 7 #[] w' fun e w2 => e = .returned (.bool true) ∧ Adds w' w2 from fun w' h => worksI w' (HV.out.adds (Adds.trans A6.out (Adds.trans (Adds.drew _) h))))
  have HSl0 := Lib.hid (fun (h : la ≤ lb) (W : World) => slice_to8 (some ⟨gb, 0, none⟩) lb capb la (by omega) W)
  have HSb0 := Lib.hid (fun (h : la ≤ lb) (w' : World) (h2 : Adds w6.drew w') => by
    have := strAt (bytes_to (O4.out.2.here.below (Adds.trans A46.out (Adds.trans (Adds.drew _) h2))) la (by omega)).here
    exact this)
  obtain ⟨hqb, hqt, hq⟩ := HQs.out
  have HP := Lib.hid HPre.out
  rw [hla, hlb] at HP
  rw [hsa, hsb] at hqb
  rw [hla, hlb]
  clear hla hlb HPre HQs O4 O3 hcb HNe HF
  try simp only at hqt
  cases q
  case true =>
    clear HSl0 HSb0 HP
    refine wp_region_loose [] (fun _ _ _ => True) Adds (by kernel_rfl) (by kernel_rfl) (by simp []) Adds.refl (fun _ _ _ h k => Adds.trans h k) (fun _ _ _ _ _ _ => trivial) ?_
    repeat (refine wpL_step (fun K hK => ?_); first
      | (refine stepL_skip rfl rfl rfl ?_; go_simp; refine hK _ ?_; clear hK K)
      | (refine stepL_ex rfl rfl rfl Adds.refl (fun w' hw' => rfl) ?_; go_simp; refine hK _ ?_; clear hK K)
      | (refine stepL_ex (v := .string sa) rfl rfl rfl Adds.refl ?_ ?_; (· (intro w' hw'; clear hK; have hS := S1.out w' hw'; go_simp)); go_simp; refine hK _ ?_; clear hK K)
      | (refine stepL_ex (v := .string sb) rfl rfl rfl Adds.refl ?_ ?_; (· (intro w' hw'; clear hK; have hS := S2.out w' hw'; go_simp)); go_simp; refine hK _ ?_; clear hK K)
      | (refine stepL_ex (v := .bool true) rfl rfl rfl Adds.refl ?_ ?_; (· (intro w' hw'; clear hK; go_simp)); go_simp; refine hK _ ?_; clear hK K)
      | (refine stepL_ex (v := .bool false) rfl rfl rfl Adds.refl ?_ ?_; (· (intro w' hw'; clear hK; go_simp)); go_simp; refine hK _ ?_; clear hK K)
      | (refine stepL_ex (v := insV (xo, xa, xb, xc, xi)) rfl rfl rfl Adds.refl ?_ ?_; (· (intro w' hw'; clear hK; obtain ⟨⟨c0, c1, c2, c3, c4⟩, _⟩ := HD.out w' hw'; go_simp)); go_simp; refine hK _ ?_; clear hK K)
      | (refine stepL_ex (v := insV (yo, ya, yb, yc, yi)) rfl rfl rfl Adds.refl ?_ ?_; (· (intro w' hw'; clear hK; obtain ⟨_, d0, d1, d2, d3, d4⟩ := HD.out w' hw'; go_simp)); go_simp; refine hK _ ?_; clear hK K)
      | (refine stepL_call (v := .bool true) (f := 7) (args := #[]) rfl rfl rfl ?_ (fun w' hw' => HWk.out w' hw') ?_; (· (intro w'; clear hK; go_simp)); go_simp; refine hK _ ?_; clear hK K))
    refine wpL_nil ?_
    intro w7 a7
    simp only [forL]
    have A7 := Lib.hid (Adds.trans A6.out (Adds.trans (Adds.drew _) a7)); clear a7
    go_wp2_with fail
    go_ret
    exact ⟨rfl, A7.out⟩
  case false =>
    by_cases hl : lb < la
    · have hlI : (lb : Int) < (la : Int) := by omega
      clear HSl0 HSb0 HP hl
      refine wp_region_loose [] (fun _ _ _ => True) Adds (by kernel_rfl) (by kernel_rfl) (by simp []) Adds.refl (fun _ _ _ h k => Adds.trans h k) (fun _ _ _ _ _ _ => trivial) ?_
      repeat (refine wpL_step (fun K hK => ?_); first
        | (refine stepL_skip rfl rfl rfl ?_; go_simp; refine hK _ ?_; clear hK K)
        | (refine stepL_ex rfl rfl rfl Adds.refl (fun w' hw' => rfl) ?_; go_simp; refine hK _ ?_; clear hK K)
        | (refine stepL_ex (v := .string sa) rfl rfl rfl Adds.refl ?_ ?_; (· (intro w' hw'; clear hK; have hS := S1.out w' hw'; go_simp)); go_simp; refine hK _ ?_; clear hK K)
        | (refine stepL_ex (v := .string sb) rfl rfl rfl Adds.refl ?_ ?_; (· (intro w' hw'; clear hK; have hS := S2.out w' hw'; go_simp)); go_simp; refine hK _ ?_; clear hK K)
        | (refine stepL_ex (v := .bool true) rfl rfl rfl Adds.refl ?_ ?_; (· (intro w' hw'; clear hK; go_simp)); go_simp; refine hK _ ?_; clear hK K)
        | (refine stepL_ex (v := .bool false) rfl rfl rfl Adds.refl ?_ ?_; (· (intro w' hw'; clear hK; go_simp)); go_simp; refine hK _ ?_; clear hK K)
        | (refine stepL_ex (v := insV (xo, xa, xb, xc, xi)) rfl rfl rfl Adds.refl ?_ ?_; (· (intro w' hw'; clear hK; obtain ⟨⟨c0, c1, c2, c3, c4⟩, _⟩ := HD.out w' hw'; go_simp)); go_simp; refine hK _ ?_; clear hK K)
        | (refine stepL_ex (v := insV (yo, ya, yb, yc, yi)) rfl rfl rfl Adds.refl ?_ ?_; (· (intro w' hw'; clear hK; obtain ⟨_, d0, d1, d2, d3, d4⟩ := HD.out w' hw'; go_simp)); go_simp; refine hK _ ?_; clear hK K)
        | (refine stepL_call (v := .bool true) (f := 7) (args := #[]) rfl rfl rfl ?_ (fun w' hw' => HWk.out w' hw') ?_; (· (intro w'; clear hK; go_simp)); go_simp; refine hK _ ?_; clear hK K)
        | (refine stepL_ex (v := .int .i64 (la : Nat)) rfl rfl rfl Adds.refl ?_ ?_; (· (intro w' hw'; clear hK; go_simp)); go_simp; refine hK _ ?_; clear hK K)
        | (refine stepL_ex (v := .int .i64 (lb : Nat)) rfl rfl rfl Adds.refl ?_ ?_; (· (intro w' hw'; clear hK; go_simp)); go_simp; refine hK _ ?_; clear hK K))
      refine wpL_nil ?_
      intro w7 a7
      simp only [forL]
      have A7 := Lib.hid (Adds.trans A6.out (Adds.trans (Adds.drew _) a7)); clear a7
      go_wp2_with fail
      go_ret
      exact ⟨rfl, A7.out⟩
    · have hlI : ¬ (lb : Int) < (la : Int) := by omega
      have HSl1 := Lib.hid (HSl0.out (by omega))
      have HSb1 := Lib.hid (HSb0.out (by omega))
      have hP := HP.out rfl (by omega)
      have hqp : ((str (bb.take la)).toList == sa.toList) = false := beq_no (fun e => hP (str_inj (e.trans hsa.symm)))
      obtain ⟨cv, hcv⟩ : ∃ cv, cutT (some ⟨gb, 0, none⟩) capb la = cv := ⟨_, rfl⟩
      obtain ⟨sp, hsp⟩ : ∃ sp, str (bb.take la) = sp := ⟨_, rfl⟩
      rw [hsp] at hqp HSb1
      rw [hcv] at HSb1 HSl1
      have HSl := Lib.hid HSl1.out
      have S3 := Lib.hid HSb1.out
      clear HSl0 HSb0 HP hl hP hcv hsp HSl1 HSb1
      refine wp_region_loose [] (fun _ _ _ => True) Adds (by kernel_rfl) (by kernel_rfl) (by simp []) Adds.refl (fun _ _ _ h k => Adds.trans h k) (fun _ _ _ _ _ _ => trivial) ?_
      repeat (refine wpL_step (fun K hK => ?_); first
        | (refine stepL_skip rfl rfl rfl ?_; go_simp; refine hK _ ?_; clear hK K)
        | (refine stepL_ex rfl rfl rfl Adds.refl (fun w' hw' => rfl) ?_; go_simp; refine hK _ ?_; clear hK K)
        | (refine stepL_ex (v := .string sa) rfl rfl rfl Adds.refl ?_ ?_; (· (intro w' hw'; clear hK; have hS := S1.out w' hw'; go_simp)); go_simp; refine hK _ ?_; clear hK K)
        | (refine stepL_ex (v := .string sb) rfl rfl rfl Adds.refl ?_ ?_; (· (intro w' hw'; clear hK; have hS := S2.out w' hw'; go_simp)); go_simp; refine hK _ ?_; clear hK K)
        | (refine stepL_ex (v := .bool true) rfl rfl rfl Adds.refl ?_ ?_; (· (intro w' hw'; clear hK; go_simp)); go_simp; refine hK _ ?_; clear hK K)
        | (refine stepL_ex (v := .bool false) rfl rfl rfl Adds.refl ?_ ?_; (· (intro w' hw'; clear hK; go_simp)); go_simp; refine hK _ ?_; clear hK K)
        | (refine stepL_ex (v := insV (xo, xa, xb, xc, xi)) rfl rfl rfl Adds.refl ?_ ?_; (· (intro w' hw'; clear hK; obtain ⟨⟨c0, c1, c2, c3, c4⟩, _⟩ := HD.out w' hw'; go_simp)); go_simp; refine hK _ ?_; clear hK K)
        | (refine stepL_ex (v := insV (yo, ya, yb, yc, yi)) rfl rfl rfl Adds.refl ?_ ?_; (· (intro w' hw'; clear hK; obtain ⟨_, d0, d1, d2, d3, d4⟩ := HD.out w' hw'; go_simp)); go_simp; refine hK _ ?_; clear hK K)
        | (refine stepL_call (v := .bool true) (f := 7) (args := #[]) rfl rfl rfl ?_ (fun w' hw' => HWk.out w' hw') ?_; (· (intro w'; clear hK; go_simp)); go_simp; refine hK _ ?_; clear hK K)
        | (refine stepL_ex (v := .int .i64 (la : Nat)) rfl rfl rfl Adds.refl ?_ ?_; (· (intro w' hw'; clear hK; go_simp)); go_simp; refine hK _ ?_; clear hK K)
        | (refine stepL_ex (v := .int .i64 (lb : Nat)) rfl rfl rfl Adds.refl ?_ ?_; (· (intro w' hw'; clear hK; go_simp)); go_simp; refine hK _ ?_; clear hK K)
        | (refine stepL_ex (v := cv) rfl rfl rfl Adds.refl ?_ ?_; (· (intro w' hw'; clear hK; have hsl := HSl.out w'; go_simp)); go_simp; refine hK _ ?_; clear hK K)
        | (refine stepL_ex (v := .string sp) rfl rfl rfl Adds.refl ?_ ?_; (· (intro w' hw'; clear hK; have hS := S3.out w' hw'; go_simp)); go_simp; refine hK _ ?_; clear hK K))
      refine wpL_nil ?_
      intro w7 a7
      simp only [forL]
      have A7 := Lib.hid (Adds.trans A6.out (Adds.trans (Adds.drew _) a7)); clear a7
      go_wp2_with fail
      go_ret
      exact ⟨rfl, A7.out⟩
theorem law_holdsI (x y : In) (hx : OkIn x) (hy : OkIn y) (w : World) (hv : IVars w) : Calls Tryz.prog 6 #[insV x, insV y] w (TrueI w) := by
  by_cases h : mayI x = true ∧ mayI y = true
  · exact holdsI_yes x y hx hy h.1 h.2 w hv
  · exact holdsI_no x y hx hy h w hv
end Go.Proofs.YtackandgjcnhfaaGreatDoor
