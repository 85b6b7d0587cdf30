/- Merged: IG2. -/
import Derived.Test.YtdkgehhlikaocaaGreatY33
namespace Go.Proofs.YtdkgehhlikaocaaGreat
open Go Go.RowKit Go.Shelf

def regB (n : Int) (z : Bool) : Bool := decide (n = 0) || (z && decide (0 ≤ n ∧ n ≤ 15))
/-- The document's way to tell which may be. -/
def rightN (op : Nat) (x : In) : Bool :=
  regB x.2.1 ((lettN op).contains 97) && (regB x.2.2.1 ((lettN op).contains 98) &&
    (if (lettN op).contains 110 then decide (0 ≤ x.2.2.2.1) && (decide (x.2.2.2.1 ≤ 16) && (decide (x.2.2.1 + x.2.2.2.1 ≤ 16) && decide (x.2.2.2.2 < 32)))
     else if (lettN op).contains 107 then regB x.2.2.2.1 true && (decide (1 ≤ x.2.2.2.2) && decide (x.2.2.2.2 ≤ 12))
     else if x.2.2.2.1 ≠ 0 then false
     else if op = 4 ∨ op = 5 then decide (x.2.2.2.2 < 512)
     else decide (x.2.2.2.2 = 0) || (lettN op).contains 105))
def specR (ra rb ic ik ii rc : Bool) (op : Nat) (xb xc xi : Int) : Bool :=
  ra && (rb &&
    (if ic then decide (0 ≤ xc) && (decide (xc ≤ 16) && (decide (xb + xc ≤ 16) && decide (xi < 32)))
     else if ik then rc && (decide (1 ≤ xi) && decide (xi ≤ 12))
     else if xc ≠ 0 then false
     else if op = 4 ∨ op = 5 then decide (xi < 512)
     else decide (xi = 0) || ii))
theorem rightN_may {op : Nat} (h1 : 1 ≤ op) (h2 : op ≤ 19) {x : In} (hx : x.1 = op) (hi : 0 ≤ x.2.2.2.2 ∧ x.2.2.2.2 < 4294967296) : rightN op x = mayI x := by
  obtain ⟨o, a, b, c, i⟩ := x
  obtain rfl : o = op := hx
  rw [Bool.eq_iff_iff]
  match op, h1, h2 with
  | 1, _, _ | 2, _, _ | 3, _, _ | 4, _, _ | 5, _, _ | 6, _, _ | 7, _, _ | 8, _, _ | 9, _, _ | 10, _, _ | 11, _, _ | 12, _, _ | 13, _, _ | 14, _, _ | 15, _, _ | 16, _, _ | 17, _, _ | 18, _, _ | 19, _, _ =>
    simp [rightN, regB, lettN, mayI, holdsL, partsN, holdsP, bare, putP, getP, loN, hiN] at hi ⊢ <;> omega
  | k + 20, _, h => exact absurd h (by omega)
set_option maxRecDepth 100000 in
set_option maxHeartbeats 8000000 in
theorem refRight_in (op : Nat) (h1 : 1 ≤ op) (h2 : op ≤ 19) (xa xb xc xi : Int) (w : World) :
    Calls Tryz.prog 70 #[insV ((op : Int), xa, xb, xc, xi)] w fun e w' => e = .returned (.bool (rightN op ((op : Int), xa, xb, xc, xi))) ∧ Adds w w' := by
  have hmx : Tryz.prog.follows .mixedOrders = true := by kernel_rfl
  have HI97 := Lib.hid (show ∀ W, Calls Tryz.prog 92 #[.int .i64 op, .int .u8 97] W fun e w' => e = .returned (.bool ((lettN op).contains 97)) ∧ Adds W w' from fun W => refIn_any op h1 h2 97 W)
  have HI98 := Lib.hid (show ∀ W, Calls Tryz.prog 92 #[.int .i64 op, .int .u8 98] W fun e w' => e = .returned (.bool ((lettN op).contains 98)) ∧ Adds W w' from fun W => refIn_any op h1 h2 98 W)
  have HIn := Lib.hid (show ∀ W, Calls Tryz.prog 92 #[.int .i64 op, .int .u8 110] W fun e w' => e = .returned (.bool ((lettN op).contains 110)) ∧ Adds W w' from fun W => refIn_any op h1 h2 110 W)
  have HIk := Lib.hid (show ∀ W, Calls Tryz.prog 92 #[.int .i64 op, .int .u8 107] W fun e w' => e = .returned (.bool ((lettN op).contains 107)) ∧ Adds W w' from fun W => refIn_any op h1 h2 107 W)
  have HIi := Lib.hid (show ∀ W, Calls Tryz.prog 92 #[.int .i64 op, .int .u8 105] W fun e w' => e = .returned (.bool ((lettN op).contains 105)) ∧ Adds W w' from fun W => refIn_any op h1 h2 105 W)
  have hRN : rightN op ((op : Int), xa, xb, xc, xi) = specR (regB xa ((lettN op).contains 97)) (regB xb ((lettN op).contains 98)) ((lettN op).contains 110) ((lettN op).contains 107) ((lettN op).contains 105) (regB xc true) op xb xc xi := rfl
  rw [hRN]
  clear hRN
  generalize (lettN op).contains 97 = ia at HI97 ⊢
  generalize (lettN op).contains 98 = ib at HI98 ⊢
  generalize (lettN op).contains 110 = ic at HIn ⊢
  generalize (lettN op).contains 107 = ik at HIk ⊢
  generalize (lettN op).contains 105 = ii at HIi ⊢
  have hra := fun W => refReg_any xa ia W
  have hrb := fun W => refReg_any xb ib W
  have hrc := fun W => refReg_any xc true W
  obtain ⟨ra, era⟩ : ∃ r, regB xa ia = r := ⟨_, rfl⟩
  obtain ⟨rb, erb⟩ : ∃ r, regB xb ib = r := ⟨_, rfl⟩
  obtain ⟨rc, erc⟩ : ∃ r, regB xc true = r := ⟨_, rfl⟩
  have HRa := Lib.hid (show ∀ W, Calls Tryz.prog 91 #[.int .i64 xa, .bool ia] W fun e w' => e = .returned (.bool ra) ∧ Adds W w' from fun W => (hra W).mono fun _ _ ⟨q1, q2⟩ => ⟨by rw [q1, ← era]; rfl, q2 ▸ Adds.refl _⟩)
  have HRb := Lib.hid (show ∀ W, Calls Tryz.prog 91 #[.int .i64 xb, .bool ib] W fun e w' => e = .returned (.bool rb) ∧ Adds W w' from fun W => (hrb W).mono fun _ _ ⟨q1, q2⟩ => ⟨by rw [q1, ← erb]; rfl, q2 ▸ Adds.refl _⟩)
  have HRc := Lib.hid (show ∀ W, Calls Tryz.prog 91 #[.int .i64 xc, .bool true] W fun e w' => e = .returned (.bool rc) ∧ Adds W w' from fun W => (hrc W).mono fun _ _ ⟨q1, q2⟩ => ⟨by rw [q1, ← erc]; rfl, q2 ▸ Adds.refl _⟩)
  rw [era, erb, erc]
  have HEb := Lib.hid erb
  clear hra hrb hrc era erb erc
  have l1 : ¬ (op : Int) < 1 := by omega
  have l2 : ¬ (19 : Int) < (op : Int) := by omega
  have HOp := Lib.hid (And.intro h1 h2)
  clear h1 h2
  obtain ⟨w1, hw1⟩ : ∃ w1, w.alloc (.cells #[.int .i64 op, .int .i64 xa, .int .i64 xb, .int .i64 xc, .int .u32 xi] 56) = w1 := ⟨_, rfl⟩
  have HA1 := Lib.hid (show Adds w w1 by rw [← hw1]; exact (Gr.new _ _).adds)
  have HB1 := Lib.hid (show BkS 56 w1 w.heap.size (insC ((op : Int), xa, xb, xc, xi)) by rw [← hw1]; exact BkS.new _ _ _)
  go_enter Tryz.func70, Tryz.ntmps70
  have b0 : w1.cell? ⟨w.heap.size, 0, none⟩ = some (.int .i64 op) := HB1.out.cell 0
  go_wp2_with fail
  obtain ⟨k0, hk0⟩ : ∃ k0, w.heap.size = k0 := ⟨_, rfl⟩
  rw [hk0] at HB1 ⊢
  try rw [hw1]
  have HD := Lib.hid (show ∀ w', Adds w1.drew w' → w'.cell? ⟨k0, 0, none⟩ = some (.int .i64 op) ∧ w'.cell? ⟨k0, 1, none⟩ = some (.int .i64 xa) ∧ w'.cell? ⟨k0, 2, none⟩ = some (.int .i64 xb) ∧ w'.cell? ⟨k0, 3, none⟩ = some (.int .i64 xc) ∧ w'.cell? ⟨k0, 4, none⟩ = some (.int .u32 xi) from fun w' h => by
    have := HB1.out.adds (Adds.trans (Adds.drew w1) h)
    exact ⟨this.cell 0, this.cell 1, this.cell 2, this.cell 3, this.cell 4⟩)
  clear b0 hw1 hk0
  cases ra
  case false =>
    refine wp_region_loose [] (fun _ _ _ => True) Adds (by kernel_rfl) (by kernel_rfl) (by simp []) Adds.refl (fun _ _ _ h k => Adds.trans h k) (fun _ _ _ _ _ _ => trivial) ?_
    repeat (refine wpL_step (fun K hK => ?_); first
      | (refine stepL_skip rfl rfl rfl ?_; go_simp; refine hK _ ?_; clear hK K)
      | (refine stepL_ex (v := .bool true) rfl rfl rfl Adds.refl ?_ ?_; (· (intro w' hw'; clear hK; go_simp)); go_simp; refine hK _ ?_; clear hK K)
      | (refine stepL_ex (v := .bool false) rfl rfl rfl Adds.refl ?_ ?_; (· (intro w' hw'; clear hK; go_simp)); go_simp; refine hK _ ?_; clear hK K)
      | (refine stepL_ex rfl rfl rfl Adds.refl (fun w' hw' => rfl) ?_; go_simp; refine hK _ ?_; clear hK K)
      | (refine stepL_ex (v := .pointer (some ⟨k0, 1, none⟩)) rfl rfl rfl Adds.refl ?_ ?_; (· (intro w' hw'; clear hK; go_simp)); go_simp; refine hK _ ?_; clear hK K)
      | (refine stepL_ex (v := .pointer (some ⟨k0, 2, none⟩)) rfl rfl rfl Adds.refl ?_ ?_; (· (intro w' hw'; clear hK; go_simp)); go_simp; refine hK _ ?_; clear hK K)
      | (refine stepL_ex (v := .int .i64 xa) rfl rfl rfl Adds.refl ?_ ?_; (· (intro w' hw'; clear hK; obtain ⟨c0, c1, c2, c3, c4⟩ := HD.out w' hw'; go_simp)); go_simp; refine hK _ ?_; clear hK K)
      | (refine stepL_ex (v := .int .i64 xb) rfl rfl rfl Adds.refl ?_ ?_; (· (intro w' hw'; clear hK; obtain ⟨c0, c1, c2, c3, c4⟩ := HD.out w' hw'; go_simp)); go_simp; refine hK _ ?_; clear hK K)
      | (refine stepL_call (v := .bool ia) (f := 92) (args := #[.int .i64 op, .int .u8 97]) rfl rfl rfl ?_ (fun w' _ => HI97.out w') ?_; (· (intro w'; clear hK; go_simp)); go_simp; refine hK _ ?_; clear hK K)
      | (refine stepL_call (v := .bool false) (f := 91) (args := #[.int .i64 xa, .bool ia]) rfl rfl rfl ?_ (fun w' _ => HRa.out w') ?_; (· (intro w'; clear hK; go_simp)); go_simp; refine hK _ ?_; clear hK K)
      | (refine stepL_call (v := .bool ib) (f := 92) (args := #[.int .i64 op, .int .u8 98]) rfl rfl rfl ?_ (fun w' _ => HI98.out w') ?_; (· (intro w'; clear hK; go_simp)); go_simp; refine hK _ ?_; clear hK K)
      | (refine stepL_call (v := .bool rb) (f := 91) (args := #[.int .i64 xb, .bool ib]) rfl rfl rfl ?_ (fun w' _ => HRb.out w') ?_; (· (intro w'; clear hK; go_simp)); go_simp; refine hK _ ?_; clear hK K))
    refine wpL_nil ?_
    intro w5 a5
    simp only [forL]
    have A5 := Lib.hid (Adds.trans HA1.out (Adds.trans (Adds.drew _) a5))
    obtain ⟨c0, c1, c2, c3, c4⟩ := HD.out w5 a5
    have A15 := Lib.hid (Adds.trans (Adds.drew w1) a5); clear a5
    clear HIn HIk HIi HRc
    go_wp2_with fail
    all_goals
      go_ret
      exact ⟨rfl, A5.out⟩
  case true =>
    cases rb
    case false =>
      refine wp_region_loose [] (fun _ _ _ => True) Adds (by kernel_rfl) (by kernel_rfl) (by simp []) Adds.refl (fun _ _ _ h k => Adds.trans h k) (fun _ _ _ _ _ _ => trivial) ?_
      repeat (refine wpL_step (fun K hK => ?_); first
        | (refine stepL_skip rfl rfl rfl ?_; go_simp; refine hK _ ?_; clear hK K)
        | (refine stepL_ex (v := .bool true) rfl rfl rfl Adds.refl ?_ ?_; (· (intro w' hw'; clear hK; go_simp)); go_simp; refine hK _ ?_; clear hK K)
        | (refine stepL_ex (v := .bool false) rfl rfl rfl Adds.refl ?_ ?_; (· (intro w' hw'; clear hK; go_simp)); go_simp; refine hK _ ?_; clear hK K)
        | (refine stepL_ex rfl rfl rfl Adds.refl (fun w' hw' => rfl) ?_; go_simp; refine hK _ ?_; clear hK K)
        | (refine stepL_ex (v := .pointer (some ⟨k0, 1, none⟩)) rfl rfl rfl Adds.refl ?_ ?_; (· (intro w' hw'; clear hK; go_simp)); go_simp; refine hK _ ?_; clear hK K)
        | (refine stepL_ex (v := .pointer (some ⟨k0, 2, none⟩)) rfl rfl rfl Adds.refl ?_ ?_; (· (intro w' hw'; clear hK; go_simp)); go_simp; refine hK _ ?_; clear hK K)
        | (refine stepL_ex (v := .int .i64 xa) rfl rfl rfl Adds.refl ?_ ?_; (· (intro w' hw'; clear hK; obtain ⟨c0, c1, c2, c3, c4⟩ := HD.out w' hw'; go_simp)); go_simp; refine hK _ ?_; clear hK K)
        | (refine stepL_ex (v := .int .i64 xb) rfl rfl rfl Adds.refl ?_ ?_; (· (intro w' hw'; clear hK; obtain ⟨c0, c1, c2, c3, c4⟩ := HD.out w' hw'; go_simp)); go_simp; refine hK _ ?_; clear hK K)
        | (refine stepL_call (v := .bool ia) (f := 92) (args := #[.int .i64 op, .int .u8 97]) rfl rfl rfl ?_ (fun w' _ => HI97.out w') ?_; (· (intro w'; clear hK; go_simp)); go_simp; refine hK _ ?_; clear hK K)
        | (refine stepL_call (v := .bool true) (f := 91) (args := #[.int .i64 xa, .bool ia]) rfl rfl rfl ?_ (fun w' _ => HRa.out w') ?_; (· (intro w'; clear hK; go_simp)); go_simp; refine hK _ ?_; clear hK K)
        | (refine stepL_call (v := .bool ib) (f := 92) (args := #[.int .i64 op, .int .u8 98]) rfl rfl rfl ?_ (fun w' _ => HI98.out w') ?_; (· (intro w'; clear hK; go_simp)); go_simp; refine hK _ ?_; clear hK K)
        | (refine stepL_call (v := .bool false) (f := 91) (args := #[.int .i64 xb, .bool ib]) rfl rfl rfl ?_ (fun w' _ => HRb.out w') ?_; (· (intro w'; clear hK; go_simp)); go_simp; refine hK _ ?_; clear hK K))
      refine wpL_nil ?_
      intro w5 a5
      simp only [forL]
      have A5 := Lib.hid (Adds.trans HA1.out (Adds.trans (Adds.drew _) a5))
      obtain ⟨c0, c1, c2, c3, c4⟩ := HD.out w5 a5
      have A15 := Lib.hid (Adds.trans (Adds.drew w1) a5); clear a5
      clear HIn HIk HIi HRc
      go_wp2_with fail
      all_goals
        go_ret
        exact ⟨rfl, A5.out⟩
    case true =>
      refine wp_region_loose [] (fun _ _ _ => True) Adds (by kernel_rfl) (by kernel_rfl) (by simp []) Adds.refl (fun _ _ _ h k => Adds.trans h k) (fun _ _ _ _ _ _ => trivial) ?_
      repeat (refine wpL_step (fun K hK => ?_); first
        | (refine stepL_skip rfl rfl rfl ?_; go_simp; refine hK _ ?_; clear hK K)
        | (refine stepL_ex (v := .bool true) rfl rfl rfl Adds.refl ?_ ?_; (· (intro w' hw'; clear hK; go_simp)); go_simp; refine hK _ ?_; clear hK K)
        | (refine stepL_ex (v := .bool false) rfl rfl rfl Adds.refl ?_ ?_; (· (intro w' hw'; clear hK; go_simp)); go_simp; refine hK _ ?_; clear hK K)
        | (refine stepL_ex rfl rfl rfl Adds.refl (fun w' hw' => rfl) ?_; go_simp; refine hK _ ?_; clear hK K)
        | (refine stepL_ex (v := .pointer (some ⟨k0, 1, none⟩)) rfl rfl rfl Adds.refl ?_ ?_; (· (intro w' hw'; clear hK; go_simp)); go_simp; refine hK _ ?_; clear hK K)
        | (refine stepL_ex (v := .pointer (some ⟨k0, 2, none⟩)) rfl rfl rfl Adds.refl ?_ ?_; (· (intro w' hw'; clear hK; go_simp)); go_simp; refine hK _ ?_; clear hK K)
        | (refine stepL_ex (v := .int .i64 xa) rfl rfl rfl Adds.refl ?_ ?_; (· (intro w' hw'; clear hK; obtain ⟨c0, c1, c2, c3, c4⟩ := HD.out w' hw'; go_simp)); go_simp; refine hK _ ?_; clear hK K)
        | (refine stepL_ex (v := .int .i64 xb) rfl rfl rfl Adds.refl ?_ ?_; (· (intro w' hw'; clear hK; obtain ⟨c0, c1, c2, c3, c4⟩ := HD.out w' hw'; go_simp)); go_simp; refine hK _ ?_; clear hK K)
        | (refine stepL_call (v := .bool ia) (f := 92) (args := #[.int .i64 op, .int .u8 97]) rfl rfl rfl ?_ (fun w' _ => HI97.out w') ?_; (· (intro w'; clear hK; go_simp)); go_simp; refine hK _ ?_; clear hK K)
        | (refine stepL_call (v := .bool true) (f := 91) (args := #[.int .i64 xa, .bool ia]) rfl rfl rfl ?_ (fun w' _ => HRa.out w') ?_; (· (intro w'; clear hK; go_simp)); go_simp; refine hK _ ?_; clear hK K)
        | (refine stepL_call (v := .bool ib) (f := 92) (args := #[.int .i64 op, .int .u8 98]) rfl rfl rfl ?_ (fun w' _ => HI98.out w') ?_; (· (intro w'; clear hK; go_simp)); go_simp; refine hK _ ?_; clear hK K)
        | (refine stepL_call (v := .bool true) (f := 91) (args := #[.int .i64 xb, .bool ib]) rfl rfl rfl ?_ (fun w' _ => HRb.out w') ?_; (· (intro w'; clear hK; go_simp)); go_simp; refine hK _ ?_; clear hK K))
      refine wpL_nil ?_
      intro w5 a5
      simp only [forL]
      have A5 := Lib.hid (Adds.trans HA1.out (Adds.trans (Adds.drew _) a5))
      obtain ⟨c0, c1, c2, c3, c4⟩ := HD.out w5 a5
      have A15 := Lib.hid (Adds.trans (Adds.drew w1) a5); clear a5
      have Aw5 := Lib.hid (Adds.refl w5)
      have HX := Lib.hid (show ∀ W, Adds w5 W → W.cell? ⟨k0, 0, none⟩ = some (.int .i64 op) ∧ W.cell? ⟨k0, 1, none⟩ = some (.int .i64 xa) ∧ W.cell? ⟨k0, 2, none⟩ = some (.int .i64 xb) ∧ W.cell? ⟨k0, 3, none⟩ = some (.int .i64 xc) ∧ W.cell? ⟨k0, 4, none⟩ = some (.int .u32 xi) from fun W h => by
        have := (HB1.out.adds A15.out).adds h
        exact ⟨this.cell 0, this.cell 1, this.cell 2, this.cell 3, this.cell 4⟩)
      clear HI97 HI98 HRa HRb HD
      cases ic
      case true =>
        by_cases h1 : 0 ≤ xc
        · by_cases h2 : xc ≤ 16
          · have hwr : wrap64 (xb + xc) = xb + xc := by
              have hb := HEb.out
              simp [regB] at hb
              unfold wrap64
              omega
            by_cases h3 : xb + xc ≤ 16
            · clear HEb
              have HS := Lib.hid (show specR true true true ik ii rc op xb xc xi = decide (xi < 32) from by simp [specR, h1, h2, h3])
              go_wp2_with (first
                | (go_at_call 92; refine (HIn.out w5).mono ?_; rintro e w6 ⟨rfl, q⟩; have Aw6 := Lib.hid (Adds.trans Aw5.out q); clear c0 c1 c2 c3 c4; obtain ⟨c0, c1, c2, c3, c4⟩ := HX.out w6 Aw6.out; clear q HIn)
                | (go_at_call 92; refine (HIk.out w6).mono ?_; rintro e w7 ⟨rfl, q⟩; have Aw7 := Lib.hid (Adds.trans Aw6.out q); clear c0 c1 c2 c3 c4; obtain ⟨c0, c1, c2, c3, c4⟩ := HX.out w7 Aw7.out; clear q HIk)
                | (go_at_call 91; refine (HRc.out w7).mono ?_; rintro e w8 ⟨rfl, q⟩; have Aw8 := Lib.hid (Adds.trans Aw7.out q); clear c0 c1 c2 c3 c4; obtain ⟨c0, c1, c2, c3, c4⟩ := HX.out w8 Aw8.out; clear q)
                | (go_at_call 92; refine (HIi.out w7).mono ?_; rintro e w8 ⟨rfl, q⟩; have Aw8 := Lib.hid (Adds.trans Aw7.out q); clear c0 c1 c2 c3 c4; obtain ⟨c0, c1, c2, c3, c4⟩ := HX.out w8 Aw8.out; clear q HIi))
              all_goals
                go_ret
                exact ⟨by rw [HS.out] <;> rfl, Adds.trans A5.out Aw6.out⟩
            · clear HEb
              have HS := Lib.hid (show specR true true true ik ii rc op xb xc xi = false from by simp [specR, h1, h2, h3])
              go_wp2_with (first
                | (go_at_call 92; refine (HIn.out w5).mono ?_; rintro e w6 ⟨rfl, q⟩; have Aw6 := Lib.hid (Adds.trans Aw5.out q); clear c0 c1 c2 c3 c4; obtain ⟨c0, c1, c2, c3, c4⟩ := HX.out w6 Aw6.out; clear q HIn)
                | (go_at_call 92; refine (HIk.out w6).mono ?_; rintro e w7 ⟨rfl, q⟩; have Aw7 := Lib.hid (Adds.trans Aw6.out q); clear c0 c1 c2 c3 c4; obtain ⟨c0, c1, c2, c3, c4⟩ := HX.out w7 Aw7.out; clear q HIk)
                | (go_at_call 91; refine (HRc.out w7).mono ?_; rintro e w8 ⟨rfl, q⟩; have Aw8 := Lib.hid (Adds.trans Aw7.out q); clear c0 c1 c2 c3 c4; obtain ⟨c0, c1, c2, c3, c4⟩ := HX.out w8 Aw8.out; clear q)
                | (go_at_call 92; refine (HIi.out w7).mono ?_; rintro e w8 ⟨rfl, q⟩; have Aw8 := Lib.hid (Adds.trans Aw7.out q); clear c0 c1 c2 c3 c4; obtain ⟨c0, c1, c2, c3, c4⟩ := HX.out w8 Aw8.out; clear q HIi))
              all_goals
                go_ret
                exact ⟨by rw [HS.out] <;> rfl, Adds.trans A5.out Aw6.out⟩
          · clear HEb
            have HS := Lib.hid (show specR true true true ik ii rc op xb xc xi = false from by simp [specR, h1, h2])
            go_wp2_with (first
              | (go_at_call 92; refine (HIn.out w5).mono ?_; rintro e w6 ⟨rfl, q⟩; have Aw6 := Lib.hid (Adds.trans Aw5.out q); clear c0 c1 c2 c3 c4; obtain ⟨c0, c1, c2, c3, c4⟩ := HX.out w6 Aw6.out; clear q HIn)
              | (go_at_call 92; refine (HIk.out w6).mono ?_; rintro e w7 ⟨rfl, q⟩; have Aw7 := Lib.hid (Adds.trans Aw6.out q); clear c0 c1 c2 c3 c4; obtain ⟨c0, c1, c2, c3, c4⟩ := HX.out w7 Aw7.out; clear q HIk)
              | (go_at_call 91; refine (HRc.out w7).mono ?_; rintro e w8 ⟨rfl, q⟩; have Aw8 := Lib.hid (Adds.trans Aw7.out q); clear c0 c1 c2 c3 c4; obtain ⟨c0, c1, c2, c3, c4⟩ := HX.out w8 Aw8.out; clear q)
              | (go_at_call 92; refine (HIi.out w7).mono ?_; rintro e w8 ⟨rfl, q⟩; have Aw8 := Lib.hid (Adds.trans Aw7.out q); clear c0 c1 c2 c3 c4; obtain ⟨c0, c1, c2, c3, c4⟩ := HX.out w8 Aw8.out; clear q HIi))
            all_goals
              go_ret
              exact ⟨by rw [HS.out] <;> rfl, Adds.trans A5.out Aw6.out⟩
        · clear HEb
          have HS := Lib.hid (show specR true true true ik ii rc op xb xc xi = false from by simp [specR, h1])
          go_wp2_with (first
            | (go_at_call 92; refine (HIn.out w5).mono ?_; rintro e w6 ⟨rfl, q⟩; have Aw6 := Lib.hid (Adds.trans Aw5.out q); clear c0 c1 c2 c3 c4; obtain ⟨c0, c1, c2, c3, c4⟩ := HX.out w6 Aw6.out; clear q HIn)
            | (go_at_call 92; refine (HIk.out w6).mono ?_; rintro e w7 ⟨rfl, q⟩; have Aw7 := Lib.hid (Adds.trans Aw6.out q); clear c0 c1 c2 c3 c4; obtain ⟨c0, c1, c2, c3, c4⟩ := HX.out w7 Aw7.out; clear q HIk)
            | (go_at_call 91; refine (HRc.out w7).mono ?_; rintro e w8 ⟨rfl, q⟩; have Aw8 := Lib.hid (Adds.trans Aw7.out q); clear c0 c1 c2 c3 c4; obtain ⟨c0, c1, c2, c3, c4⟩ := HX.out w8 Aw8.out; clear q)
            | (go_at_call 92; refine (HIi.out w7).mono ?_; rintro e w8 ⟨rfl, q⟩; have Aw8 := Lib.hid (Adds.trans Aw7.out q); clear c0 c1 c2 c3 c4; obtain ⟨c0, c1, c2, c3, c4⟩ := HX.out w8 Aw8.out; clear q HIi))
          all_goals
            go_ret
            exact ⟨by rw [HS.out] <;> rfl, Adds.trans A5.out Aw6.out⟩
      case false =>
        clear HEb
        cases ik
        case true =>
          cases rc
          case false =>
            have HS := Lib.hid (show specR true true false true ii false op xb xc xi = false from by simp [specR])
            go_wp2_with (first
              | (go_at_call 92; refine (HIn.out w5).mono ?_; rintro e w6 ⟨rfl, q⟩; have Aw6 := Lib.hid (Adds.trans Aw5.out q); clear c0 c1 c2 c3 c4; obtain ⟨c0, c1, c2, c3, c4⟩ := HX.out w6 Aw6.out; clear q HIn)
              | (go_at_call 92; refine (HIk.out w6).mono ?_; rintro e w7 ⟨rfl, q⟩; have Aw7 := Lib.hid (Adds.trans Aw6.out q); clear c0 c1 c2 c3 c4; obtain ⟨c0, c1, c2, c3, c4⟩ := HX.out w7 Aw7.out; clear q HIk)
              | (go_at_call 91; refine (HRc.out w7).mono ?_; rintro e w8 ⟨rfl, q⟩; have Aw8 := Lib.hid (Adds.trans Aw7.out q); clear c0 c1 c2 c3 c4; obtain ⟨c0, c1, c2, c3, c4⟩ := HX.out w8 Aw8.out; clear q)
              | (go_at_call 92; refine (HIi.out w7).mono ?_; rintro e w8 ⟨rfl, q⟩; have Aw8 := Lib.hid (Adds.trans Aw7.out q); clear c0 c1 c2 c3 c4; obtain ⟨c0, c1, c2, c3, c4⟩ := HX.out w8 Aw8.out; clear q HIi))
            all_goals
              go_ret
              exact ⟨by rw [HS.out] <;> rfl, Adds.trans A5.out Aw8.out⟩
          case true =>
            by_cases h1 : 1 ≤ xi
            · by_cases h2 : xi ≤ 12
              · skip
                have HS := Lib.hid (show specR true true false true ii true op xb xc xi = true from by simp [specR, h1, h2])
                go_wp2_with (first
                  | (go_at_call 92; refine (HIn.out w5).mono ?_; rintro e w6 ⟨rfl, q⟩; have Aw6 := Lib.hid (Adds.trans Aw5.out q); clear c0 c1 c2 c3 c4; obtain ⟨c0, c1, c2, c3, c4⟩ := HX.out w6 Aw6.out; clear q HIn)
                  | (go_at_call 92; refine (HIk.out w6).mono ?_; rintro e w7 ⟨rfl, q⟩; have Aw7 := Lib.hid (Adds.trans Aw6.out q); clear c0 c1 c2 c3 c4; obtain ⟨c0, c1, c2, c3, c4⟩ := HX.out w7 Aw7.out; clear q HIk)
                  | (go_at_call 91; refine (HRc.out w7).mono ?_; rintro e w8 ⟨rfl, q⟩; have Aw8 := Lib.hid (Adds.trans Aw7.out q); clear c0 c1 c2 c3 c4; obtain ⟨c0, c1, c2, c3, c4⟩ := HX.out w8 Aw8.out; clear q)
                  | (go_at_call 92; refine (HIi.out w7).mono ?_; rintro e w8 ⟨rfl, q⟩; have Aw8 := Lib.hid (Adds.trans Aw7.out q); clear c0 c1 c2 c3 c4; obtain ⟨c0, c1, c2, c3, c4⟩ := HX.out w8 Aw8.out; clear q HIi))
                all_goals
                  go_ret
                  exact ⟨by rw [HS.out] <;> rfl, Adds.trans A5.out Aw8.out⟩
              · skip
                have HS := Lib.hid (show specR true true false true ii true op xb xc xi = decide (xi ≤ 12) from by simp [specR, h1, h2])
                go_wp2_with (first
                  | (go_at_call 92; refine (HIn.out w5).mono ?_; rintro e w6 ⟨rfl, q⟩; have Aw6 := Lib.hid (Adds.trans Aw5.out q); clear c0 c1 c2 c3 c4; obtain ⟨c0, c1, c2, c3, c4⟩ := HX.out w6 Aw6.out; clear q HIn)
                  | (go_at_call 92; refine (HIk.out w6).mono ?_; rintro e w7 ⟨rfl, q⟩; have Aw7 := Lib.hid (Adds.trans Aw6.out q); clear c0 c1 c2 c3 c4; obtain ⟨c0, c1, c2, c3, c4⟩ := HX.out w7 Aw7.out; clear q HIk)
                  | (go_at_call 91; refine (HRc.out w7).mono ?_; rintro e w8 ⟨rfl, q⟩; have Aw8 := Lib.hid (Adds.trans Aw7.out q); clear c0 c1 c2 c3 c4; obtain ⟨c0, c1, c2, c3, c4⟩ := HX.out w8 Aw8.out; clear q)
                  | (go_at_call 92; refine (HIi.out w7).mono ?_; rintro e w8 ⟨rfl, q⟩; have Aw8 := Lib.hid (Adds.trans Aw7.out q); clear c0 c1 c2 c3 c4; obtain ⟨c0, c1, c2, c3, c4⟩ := HX.out w8 Aw8.out; clear q HIi))
                all_goals
                  go_ret
                  exact ⟨by rw [HS.out] <;> rfl, Adds.trans A5.out Aw8.out⟩
            · skip
              have HS := Lib.hid (show specR true true false true ii true op xb xc xi = false from by simp [specR, h1])
              go_wp2_with (first
                | (go_at_call 92; refine (HIn.out w5).mono ?_; rintro e w6 ⟨rfl, q⟩; have Aw6 := Lib.hid (Adds.trans Aw5.out q); clear c0 c1 c2 c3 c4; obtain ⟨c0, c1, c2, c3, c4⟩ := HX.out w6 Aw6.out; clear q HIn)
                | (go_at_call 92; refine (HIk.out w6).mono ?_; rintro e w7 ⟨rfl, q⟩; have Aw7 := Lib.hid (Adds.trans Aw6.out q); clear c0 c1 c2 c3 c4; obtain ⟨c0, c1, c2, c3, c4⟩ := HX.out w7 Aw7.out; clear q HIk)
                | (go_at_call 91; refine (HRc.out w7).mono ?_; rintro e w8 ⟨rfl, q⟩; have Aw8 := Lib.hid (Adds.trans Aw7.out q); clear c0 c1 c2 c3 c4; obtain ⟨c0, c1, c2, c3, c4⟩ := HX.out w8 Aw8.out; clear q)
                | (go_at_call 92; refine (HIi.out w7).mono ?_; rintro e w8 ⟨rfl, q⟩; have Aw8 := Lib.hid (Adds.trans Aw7.out q); clear c0 c1 c2 c3 c4; obtain ⟨c0, c1, c2, c3, c4⟩ := HX.out w8 Aw8.out; clear q HIi))
              all_goals
                go_ret
                exact ⟨by rw [HS.out] <;> rfl, Adds.trans A5.out Aw8.out⟩
        case false =>
          by_cases h1 : xc = 0
          · have hz : (xc != 0) = false := by simp [h1]
            have H1 := Lib.hid h1; clear h1
            by_cases h4 : op = 4
            · have hz4 : ((op : Int) == 4) = true := by simp [h4]
              have HS := Lib.hid (show specR true true false false ii rc op xb xc xi = decide (xi < 512) from by simp [specR, H1.out, h4])
              have H4 := Lib.hid h4; clear h4
              go_wp2_with (first
                | (go_at_call 92; refine (HIn.out w5).mono ?_; rintro e w6 ⟨rfl, q⟩; have Aw6 := Lib.hid (Adds.trans Aw5.out q); clear c0 c1 c2 c3 c4; obtain ⟨c0, c1, c2, c3, c4⟩ := HX.out w6 Aw6.out; clear q HIn)
                | (go_at_call 92; refine (HIk.out w6).mono ?_; rintro e w7 ⟨rfl, q⟩; have Aw7 := Lib.hid (Adds.trans Aw6.out q); clear c0 c1 c2 c3 c4; obtain ⟨c0, c1, c2, c3, c4⟩ := HX.out w7 Aw7.out; clear q HIk)
                | (go_at_call 91; refine (HRc.out w7).mono ?_; rintro e w8 ⟨rfl, q⟩; have Aw8 := Lib.hid (Adds.trans Aw7.out q); clear c0 c1 c2 c3 c4; obtain ⟨c0, c1, c2, c3, c4⟩ := HX.out w8 Aw8.out; clear q)
                | (go_at_call 92; refine (HIi.out w7).mono ?_; rintro e w8 ⟨rfl, q⟩; have Aw8 := Lib.hid (Adds.trans Aw7.out q); clear c0 c1 c2 c3 c4; obtain ⟨c0, c1, c2, c3, c4⟩ := HX.out w8 Aw8.out; clear q HIi))
              all_goals
                go_ret
                exact ⟨by rw [HS.out] <;> rfl, Adds.trans A5.out Aw7.out⟩
            · have hz4 : ((op : Int) == 4) = false := beq_eq_false_iff_ne.2 (fun h => h4 (by omega))
              have H4 := Lib.hid h4; clear h4
              by_cases h5 : op = 5
              · have hz5 : ((op : Int) == 5) = true := by simp [h5]
                have HS := Lib.hid (show specR true true false false ii rc op xb xc xi = decide (xi < 512) from by simp [specR, H1.out, h5])
                have H5 := Lib.hid h5; clear h5
                go_wp2_with (first
                  | (go_at_call 92; refine (HIn.out w5).mono ?_; rintro e w6 ⟨rfl, q⟩; have Aw6 := Lib.hid (Adds.trans Aw5.out q); clear c0 c1 c2 c3 c4; obtain ⟨c0, c1, c2, c3, c4⟩ := HX.out w6 Aw6.out; clear q HIn)
                  | (go_at_call 92; refine (HIk.out w6).mono ?_; rintro e w7 ⟨rfl, q⟩; have Aw7 := Lib.hid (Adds.trans Aw6.out q); clear c0 c1 c2 c3 c4; obtain ⟨c0, c1, c2, c3, c4⟩ := HX.out w7 Aw7.out; clear q HIk)
                  | (go_at_call 91; refine (HRc.out w7).mono ?_; rintro e w8 ⟨rfl, q⟩; have Aw8 := Lib.hid (Adds.trans Aw7.out q); clear c0 c1 c2 c3 c4; obtain ⟨c0, c1, c2, c3, c4⟩ := HX.out w8 Aw8.out; clear q)
                  | (go_at_call 92; refine (HIi.out w7).mono ?_; rintro e w8 ⟨rfl, q⟩; have Aw8 := Lib.hid (Adds.trans Aw7.out q); clear c0 c1 c2 c3 c4; obtain ⟨c0, c1, c2, c3, c4⟩ := HX.out w8 Aw8.out; clear q HIi))
                all_goals
                  go_ret
                  exact ⟨by rw [HS.out] <;> rfl, Adds.trans A5.out Aw7.out⟩
              · have hz5 : ((op : Int) == 5) = false := beq_eq_false_iff_ne.2 (fun h => h5 (by omega))
                have H5 := Lib.hid h5; clear h5
                by_cases h6 : xi = 0
                · have hz6 : (xi == 0) = true := by simp [h6]
                  have HS := Lib.hid (show specR true true false false ii rc op xb xc xi = true from by simp [specR, H1.out, H4.out, H5.out, h6])
                  have H6 := Lib.hid h6; clear h6
                  go_wp2_with (first
                    | (go_at_call 92; refine (HIn.out w5).mono ?_; rintro e w6 ⟨rfl, q⟩; have Aw6 := Lib.hid (Adds.trans Aw5.out q); clear c0 c1 c2 c3 c4; obtain ⟨c0, c1, c2, c3, c4⟩ := HX.out w6 Aw6.out; clear q HIn)
                    | (go_at_call 92; refine (HIk.out w6).mono ?_; rintro e w7 ⟨rfl, q⟩; have Aw7 := Lib.hid (Adds.trans Aw6.out q); clear c0 c1 c2 c3 c4; obtain ⟨c0, c1, c2, c3, c4⟩ := HX.out w7 Aw7.out; clear q HIk)
                    | (go_at_call 91; refine (HRc.out w7).mono ?_; rintro e w8 ⟨rfl, q⟩; have Aw8 := Lib.hid (Adds.trans Aw7.out q); clear c0 c1 c2 c3 c4; obtain ⟨c0, c1, c2, c3, c4⟩ := HX.out w8 Aw8.out; clear q)
                    | (go_at_call 92; refine (HIi.out w7).mono ?_; rintro e w8 ⟨rfl, q⟩; have Aw8 := Lib.hid (Adds.trans Aw7.out q); clear c0 c1 c2 c3 c4; obtain ⟨c0, c1, c2, c3, c4⟩ := HX.out w8 Aw8.out; clear q HIi))
                  all_goals
                    go_ret
                    exact ⟨by rw [HS.out] <;> rfl, Adds.trans A5.out Aw7.out⟩
                · have hz6 : (xi == 0) = false := by simp [h6]
                  have HS := Lib.hid (show specR true true false false ii rc op xb xc xi = ii from by simp [specR, H1.out, H4.out, H5.out, h6])
                  have H6 := Lib.hid h6; clear h6
                  go_wp2_with (first
                    | (go_at_call 92; refine (HIn.out w5).mono ?_; rintro e w6 ⟨rfl, q⟩; have Aw6 := Lib.hid (Adds.trans Aw5.out q); clear c0 c1 c2 c3 c4; obtain ⟨c0, c1, c2, c3, c4⟩ := HX.out w6 Aw6.out; clear q HIn)
                    | (go_at_call 92; refine (HIk.out w6).mono ?_; rintro e w7 ⟨rfl, q⟩; have Aw7 := Lib.hid (Adds.trans Aw6.out q); clear c0 c1 c2 c3 c4; obtain ⟨c0, c1, c2, c3, c4⟩ := HX.out w7 Aw7.out; clear q HIk)
                    | (go_at_call 91; refine (HRc.out w7).mono ?_; rintro e w8 ⟨rfl, q⟩; have Aw8 := Lib.hid (Adds.trans Aw7.out q); clear c0 c1 c2 c3 c4; obtain ⟨c0, c1, c2, c3, c4⟩ := HX.out w8 Aw8.out; clear q)
                    | (go_at_call 92; refine (HIi.out w7).mono ?_; rintro e w8 ⟨rfl, q⟩; have Aw8 := Lib.hid (Adds.trans Aw7.out q); clear c0 c1 c2 c3 c4; obtain ⟨c0, c1, c2, c3, c4⟩ := HX.out w8 Aw8.out; clear q HIi))
                  all_goals
                    go_ret
                    exact ⟨by rw [HS.out] <;> rfl, Adds.trans A5.out Aw8.out⟩
          · have hz : (xc != 0) = true := by simp [h1]
            have HS := Lib.hid (show specR true true false false ii rc op xb xc xi = false from by simp [specR, h1])
            have H1 := Lib.hid h1; clear h1
            go_wp2_with (first
              | (go_at_call 92; refine (HIn.out w5).mono ?_; rintro e w6 ⟨rfl, q⟩; have Aw6 := Lib.hid (Adds.trans Aw5.out q); clear c0 c1 c2 c3 c4; obtain ⟨c0, c1, c2, c3, c4⟩ := HX.out w6 Aw6.out; clear q HIn)
              | (go_at_call 92; refine (HIk.out w6).mono ?_; rintro e w7 ⟨rfl, q⟩; have Aw7 := Lib.hid (Adds.trans Aw6.out q); clear c0 c1 c2 c3 c4; obtain ⟨c0, c1, c2, c3, c4⟩ := HX.out w7 Aw7.out; clear q HIk)
              | (go_at_call 91; refine (HRc.out w7).mono ?_; rintro e w8 ⟨rfl, q⟩; have Aw8 := Lib.hid (Adds.trans Aw7.out q); clear c0 c1 c2 c3 c4; obtain ⟨c0, c1, c2, c3, c4⟩ := HX.out w8 Aw8.out; clear q)
              | (go_at_call 92; refine (HIi.out w7).mono ?_; rintro e w8 ⟨rfl, q⟩; have Aw8 := Lib.hid (Adds.trans Aw7.out q); clear c0 c1 c2 c3 c4; obtain ⟨c0, c1, c2, c3, c4⟩ := HX.out w8 Aw8.out; clear q HIi))
            all_goals
              go_ret
              exact ⟨by rw [HS.out] <;> rfl, Adds.trans A5.out Aw7.out⟩
theorem refRight_any (x : In) (hx : OkIn x) (w : World) : Calls Tryz.prog 70 #[insV x] w fun e w' => e = .returned (.bool (mayI x)) ∧ Adds w w' := by
  by_cases h : 1 ≤ x.1 ∧ x.1 ≤ 19
  · obtain ⟨op, hop⟩ : ∃ op : Nat, x.1 = op := ⟨x.1.toNat, by omega⟩
    have := refRight_in op (by omega) (by omega) x.2.1 x.2.2.1 x.2.2.2.1 x.2.2.2.2 w
    rw [← hop] at this
    rw [rightN_may (by omega) (by omega) hop hx.imm] at this
    exact this
  · have hm : mayI x = false := by
      unfold mayI
      rw [decide_eq_false h]
      rfl
    rw [hm]
    obtain ⟨xo, xa, xb, xc, xi⟩ := x
    have hmx : Tryz.prog.follows .mixedOrders = true := by kernel_rfl
    obtain ⟨w1, hw1⟩ : ∃ w1, w.alloc (.cells #[.int .i64 xo, .int .i64 xa, .int .i64 xb, .int .i64 xc, .int .u32 xi] 56) = w1 := ⟨_, rfl⟩
    have HA1 := Lib.hid (show Adds w w1 by rw [← hw1]; exact (Gr.new _ _).adds)
    have HB1 := Lib.hid (show BkS 56 w1 w.heap.size (insC (xo, xa, xb, xc, xi)) by rw [← hw1]; exact BkS.new _ _ _)
    have b0 : w1.cell? ⟨w.heap.size, 0, none⟩ = some (.int .i64 xo) := HB1.out.cell 0
    have h0 : ¬ (1 ≤ xo ∧ xo ≤ 19) := h
    clear h hm hx
    by_cases l1 : xo < 1
    · clear h0
      go_enter Tryz.func70, Tryz.ntmps70
      go_wp2_with fail
      refine wp_region_loose [] (fun _ _ _ => True) Adds (by kernel_rfl) (by kernel_rfl) (by simp []) Adds.refl (fun _ _ _ h k => Adds.trans h k) (fun _ _ _ _ _ _ => trivial) ?_
      repeat (refine wpL_step (fun K hK => ?_); first
        | (refine stepL_skip rfl rfl rfl ?_; go_simp; refine hK _ ?_; clear hK K)
        | (refine stepL_ex (v := .bool true) rfl rfl rfl Adds.refl ?_ ?_; (· (intro w' hw'; clear hK; go_simp)); go_simp; refine hK _ ?_; clear hK K)
        | (refine stepL_ex (v := .bool false) rfl rfl rfl Adds.refl ?_ ?_; (· (intro w' hw'; clear hK; go_simp)); go_simp; refine hK _ ?_; clear hK K)
        | (refine stepL_ex rfl rfl rfl Adds.refl (fun w' hw' => rfl) ?_; go_simp; refine hK _ ?_; clear hK K))
      refine wpL_nil ?_
      intro w5 a5
      simp only [forL]
      have A5 := Lib.hid a5
      clear a5
      go_wp2_with fail
      all_goals
        go_ret
        exact ⟨rfl, Adds.trans HA1.out (Adds.trans (Adds.drew _) A5.out)⟩
    · have l2 : 19 < xo := by omega
      clear h0
      go_enter Tryz.func70, Tryz.ntmps70
      go_wp2_with fail
      refine wp_region_loose [] (fun _ _ _ => True) Adds (by kernel_rfl) (by kernel_rfl) (by simp []) Adds.refl (fun _ _ _ h k => Adds.trans h k) (fun _ _ _ _ _ _ => trivial) ?_
      repeat (refine wpL_step (fun K hK => ?_); first
        | (refine stepL_skip rfl rfl rfl ?_; go_simp; refine hK _ ?_; clear hK K)
        | (refine stepL_ex (v := .bool true) rfl rfl rfl Adds.refl ?_ ?_; (· (intro w' hw'; clear hK; go_simp)); go_simp; refine hK _ ?_; clear hK K)
        | (refine stepL_ex (v := .bool false) rfl rfl rfl Adds.refl ?_ ?_; (· (intro w' hw'; clear hK; go_simp)); go_simp; refine hK _ ?_; clear hK K)
        | (refine stepL_ex rfl rfl rfl Adds.refl (fun w' hw' => rfl) ?_; go_simp; refine hK _ ?_; clear hK K))
      refine wpL_nil ?_
      intro w5 a5
      simp only [forL]
      have A5 := Lib.hid a5
      clear a5
      go_wp2_with fail
      all_goals
        go_ret
        exact ⟨rfl, Adds.trans HA1.out (Adds.trans (Adds.drew _) A5.out)⟩
end Go.Proofs.YtdkgehhlikaocaaGreat
