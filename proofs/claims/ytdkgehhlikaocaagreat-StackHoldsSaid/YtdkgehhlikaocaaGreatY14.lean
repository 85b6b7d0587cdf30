/- Merged: G3, IApp, IF9. -/
import Derived.Test.YtdkgehhlikaocaaGreatY13
import Derived.Test.YtdkgehhlikaocaaGreatY0
import Derived.Test.YtdkgehhlikaocaaGreatY5
import Derived.Test.YtdkgehhlikaocaaGreatY3
namespace Go.Proofs.YtdkgehhlikaocaaGreat
open Go Go.RowKit Go.Shelf

set_option maxRecDepth 100000 in
set_option maxHeartbeats 4000000 in
theorem everyF {n : Nat} (u : Value) (fs : List Fu) (w : World) (hf : FuncsW n w u fs) : Calls Tryz.prog 86 #[.func (.func 87) #[] #[], u] w fun e w' => e = .returned (.bool (fs.all numsF)) ∧ Adds w w' := by
  have HF := Lib.hid hf
  obtain ⟨ao, cap, rfl, h1, h2, _⟩ := hf
  unfold maxLen at h2
  have HN := Lib.hid nums1_any
  go_enter Tryz.func86, Tryz.ntmps86
  go_wp2
  go_loopw [9] (fun i wr => ∃ k : Nat, i = .int .i64 k ∧ k ≤ fs.length ∧ Hid ((fs.take k).all numsF = true) ∧ Adds w wr) (fun i _ => fs.length + 1 - (intOf i).toNat)
  case atStart => exact ⟨0, rfl, Nat.zero_le _, Lib.hid (by simp), Adds.refl _⟩
  case round =>
    obtain ⟨k, rfl, hk, HT, hA⟩ := hrel
    have HA := Lib.hid hA
    clear hA
    by_cases hlt : k < fs.length
    · obtain ⟨g, off, rfl, hg, hat⟩ := (HF.out.adds HA.out).at hlt
      obtain ⟨k0, c, k1, hc, _⟩ := hat
      obtain ⟨ac, cc, rfl, _, _⟩ := hc.form
      have HX := Lib.hid (HN.out (fs.getD k zF).1 ac (fs.getD k zF).2.length cc)
      obtain ⟨r, hr⟩ : ∃ r, numsF (fs.getD k zF) = r := ⟨_, rfl⟩
      have hr' : (inB 1 16 (fs.getD k zF).1 && inB 1 512 ((fs.getD k zF).2.length : Nat)) = r := hr
      rw [hr'] at HX
      have HR := Lib.hid hr
      have HLt := Lib.hid hlt
      have hltI : (k : Int) < (fs.length : Int) := by omega
      have hcapI : (fs.length : Int) ≤ 9223372036854775807 := by omega
      have HCap := Lib.hid hcapI
      obtain ⟨rg, hrg⟩ : ∃ x, (fs.getD k zF).1 = x := ⟨_, rfl⟩
      obtain ⟨cl, hcl⟩ : ∃ x, (fs.getD k zF).2.length = x := ⟨_, rfl⟩
      rw [hrg, hcl] at HX
      rw [hrg] at k0
      rw [hcl] at k1
      clear hr hr' hlt hc hrg hcl hk h1 h2
      cases r
      · go_wp2_with (go_at_call 87; refine (HX.out _).mono ?_; rintro e w1 ⟨rfl, q⟩; have HA2 := Lib.hid (Adds.trans (Adds.trans HA.out (Gr.new _ _).adds) q); clear q)
        go_ret
        rw [all_not numsF fs zF k HLt.out HR.out]
        exact ⟨rfl, HA2.out⟩
      · go_wp2_with (go_at_call 87; refine (HX.out _).mono ?_; rintro e w1 ⟨rfl, q⟩; have HA2 := Lib.hid (Adds.trans (Adds.trans HA.out (Gr.new _ _).adds) q); clear q)
        go_roundw
        case rel => exact ⟨k + 1, by go_num, HLt.out, Lib.hid (all_take numsF fs zF k HT.out HLt.out HR.out), HA2.out⟩
        case measure => simp [intOf]; have := HLt.out; omega
    · have e : fs.all numsF = true := by have := HT.out; rwa [List.take_of_length_le (by omega)] at this
      have HE := Lib.hid e
      have hge : ¬ (k : Int) < (fs.length : Int) := by omega
      clear hlt e
      go_wp2
      go_ret
      rw [HE.out]
      exact ⟨rfl, HA.out⟩
def sharedB (p : Pg) : Bool := [p.2.1, p.2.2.1, p.2.2.2].all (inB 0 64)
/-- May a program's numbers be? -/
def numsP (p : Pg) : Bool := inB 1 32 (p.1.length : Nat) && (sharedB p && p.1.all numsF)
/-- What is known of slots 3, 7, 11, 18. -/
def keyP (n a b c : Int) (d : Tmp) (u : Value) (w : World) : Prop := if d = 3 then AskW w u 1 32 else if d = 7 then IntsW w u [n] else if d = 11 then AskW w u 0 64 else IntsW w u [a, b, c]
theorem keyP_adds (n a b c : Int) (d : Tmp) (u : Value) (w w' : World) (ha : Adds w w') (h : keyP n a b c d u w) : keyP n a b c d u w' := by
  unfold keyP at *
  split
  · rename_i e; rw [if_pos e] at h; exact h.adds ha
  · rename_i e; rw [if_neg e] at h
    split
    · rename_i e2; rw [if_pos e2] at h; exact h.adds ha
    · rename_i e2; rw [if_neg e2] at h
      split
      · rename_i e3; rw [if_pos e3] at h; exact h.adds ha
      · rename_i e3; rw [if_neg e3] at h; exact h.adds ha
set_option maxRecDepth 100000 in
set_option maxHeartbeats 8000000 in
theorem numsP_any {m : Nat} (u : Value) (p : Pg) (w : World) (hf : FuncsW m w u p.1) : Calls Tryz.prog 62 #[pgV u p] w fun e w' => e = .returned (.bool (numsP p)) ∧ Adds w w' := by
  have HF := Lib.hid hf
  obtain ⟨ao, cap, rfl, _, _, _⟩ := hf
  obtain ⟨w1, hw1⟩ : ∃ w1, w.alloc (.cells #[.slice ao p.1.length cap, .int .i64 p.2.1, .int .i64 p.2.2.1, .int .i64 p.2.2.2] 24) = w1 := ⟨_, rfl⟩
  have HA1 := Lib.hid (show Adds w w1 by rw [← hw1]; exact (Gr.new _ _).adds)
  have HB1 := Lib.hid (show BkS 24 w1 w.heap.size [.slice ao p.1.length cap, .int .i64 p.2.1, .int .i64 p.2.2.1, .int .i64 p.2.2.2] by rw [← hw1]; exact BkS.new _ _ _)
  have HE := Lib.hid (fun (v u : Value) (lo hi : Int) (l : List Int) (W : World) (h1 : AskW W v lo hi) (h2 : IntsW W u l) => show Calls Tryz.prog 84 #[v, u] W fun e w' => e = .returned (.bool (l.all (inB lo hi))) ∧ Adds W w' from
    (everyI v u lo hi l W h1 h2).mono fun e w' ⟨h3, h4⟩ => ⟨h3, h4 ▸ Adds.refl _⟩)
  have HI : Hid (∀ (x : Int) (W : World), IntsW (W.alloc (.cells #[.int .i64 x] 3)) (.slice (some ⟨W.heap.size, 0, none⟩) 1 1) [x] ∧ Adds W (W.alloc (.cells #[.int .i64 x] 3))) := Lib.hid fun x W => ⟨IntsW.lit W [x] (by simp) _ rfl _, (Gr.new _ _).adds⟩
  have HI3 : Hid (∀ (x y z : Int) (W : World), IntsW (W.alloc (.cells #[.int .i64 x, .int .i64 y, .int .i64 z] 3)) (.slice (some ⟨W.heap.size, 0, none⟩) 3 3) [x, y, z] ∧ Adds W (W.alloc (.cells #[.int .i64 x, .int .i64 y, .int .i64 z] 3))) := Lib.hid fun x y z W => ⟨IntsW.lit W [x, y, z] (by simp) _ rfl _, (Gr.new _ _).adds⟩
  have HWi : Hid (∀ (lo hi : Int) (W : World), Calls Tryz.prog 85 #[.int .i64 lo, .int .i64 hi] W fun e w' => ∃ v, e = .returned v ∧ AskW w' v lo hi ∧ Adds W w') := Lib.hid fun lo hi W => (within_any lo hi W).mono fun e w' ⟨v, h1, h2, h3⟩ => ⟨v, h1, h2, h3.adds⟩
  have HEv := Lib.hid (fun (W : World) (h : Adds w W) => everyF (.slice ao p.1.length cap) p.1 W (HF.out.adds h))
  obtain ⟨fs, x1, x2, x3⟩ := p
  have hnp : numsP (fs, x1, x2, x3) = (inB 1 32 (fs.length : Nat) && ([x1, x2, x3].all (inB 0 64) && fs.all numsF)) := rfl
  rw [hnp]
  simp only at hw1 HB1 HEv ⊢
  obtain ⟨nl, hnl⟩ : ∃ x : Nat, fs.length = x := ⟨_, rfl⟩
  rw [hnl] at HB1 HEv hw1 ⊢
  obtain ⟨r3, hr3⟩ : ∃ r, fs.all numsF = r := ⟨_, rfl⟩
  rw [hr3] at HEv ⊢
  have HD := Lib.hid (show ∀ w', Adds w1.drew w' → w'.cell? ⟨w.heap.size, 0, none⟩ = some (.slice ao nl cap) ∧ w'.cell? ⟨w.heap.size, 1, none⟩ = some (.int .i64 x1) ∧ w'.cell? ⟨w.heap.size, 2, none⟩ = some (.int .i64 x2) ∧ w'.cell? ⟨w.heap.size, 3, none⟩ = some (.int .i64 x3) from fun w' h =>
    ⟨(HB1.out.adds (Adds.trans (Adds.drew _) h)).cell 0, (HB1.out.adds (Adds.trans (Adds.drew _) h)).cell 1, (HB1.out.adds (Adds.trans (Adds.drew _) h)).cell 2, (HB1.out.adds (Adds.trans (Adds.drew _) h)).cell 3⟩)
  clear hnl hr3 HF hnp
  obtain ⟨n, hn⟩ : ∃ n : Int, (nl : Int) = n := ⟨_, rfl⟩
  rw [hn]
  cases hb : inB 1 32 n
  · have HB := Lib.hid (show [n].all (inB 1 32) = false by simpa using hb)
    clear hb
    go_enter Tryz.func62, Tryz.ntmps62
    go_wp2_with fail
    refine wp_region_loose [3, 7] (keyP n x1 x2 x3) Adds (by kernel_rfl) (by kernel_rfl) (by simp []) Adds.refl (fun _ _ _ h k => Adds.trans h k) (fun d u _ _ h k => keyP_adds n x1 x2 x3 d u _ _ h k) ?_
    repeat (refine wpL_step (fun K hK => ?_); first
      | (refine stepL_key (f := 85) (args := #[.int .i64 1, .int .i64 32]) 3 rfl rfl rfl rfl ?_ (fun w' hw' => HWi.out 1 32 w') ?_; (· (intro w'; clear hK; go_simp)); refine hK _ ?_; clear hK K)
      | (refine stepL_skip rfl rfl rfl ?_; go_simp; refine hK _ ?_; clear hK K)
      | (refine stepL_ex (v := .bool true) rfl rfl rfl Adds.refl ?_ ?_; (· (intro w' hw'; clear hK; go_simp)); go_simp; refine hK _ ?_; clear hK K)
      | (refine stepL_ex rfl rfl rfl Adds.refl (fun w' hw' => rfl) ?_; go_simp; refine hK _ ?_; clear hK K)
      | (refine stepL_ex (v := .slice ao nl cap) rfl rfl rfl Adds.refl ?_ ?_; (· (intro w' hw'; clear hK; have hc := HD.out w' hw'; go_simp)); go_simp; refine hK _ ?_; clear hK K)
      | (refine stepL_ex (v := .int .i64 n) rfl rfl rfl Adds.refl ?_ ?_; (· (intro w' hw'; clear hK; go_simp)); go_simp; refine hK _ ?_; clear hK K)
      | (refine stepL_mk 7 rfl rfl rfl rfl (fun w' hw' => ⟨_, _, mkI1_run rfl rfl w', (HI.out n w').1, (HI.out n w').2⟩) ?_; refine hK _ ?_; clear hK K)
      | (refine stepL_call2 (v := .bool false) (d := 3) (e := 7) (f := 84) (fun a b => #[a, b]) rfl rfl ?_ (fun w' a b _ h1 h2 => by have := HE.out a b 1 32 [n] w' h1 h2; rw [HB.out] at this; exact this) ?_; (· (intro w' a b hw' h1 h2; clear hK; refine ⟨rfl, ?_⟩; go_simp)); go_simp; refine hK _ ?_; clear hK K))
    refine wpL_nil ?_
    intro w4 a4
    simp only [forL]
    intro u1 _ u2 _
    have HA4 := Lib.hid (Adds.trans HA1.out (Adds.trans (Adds.drew w1) a4))
    clear a4
    go_wp2_with fail
    go_ret
    exact ⟨rfl, HA4.out⟩
  · have HB := Lib.hid (show [n].all (inB 1 32) = true by simpa using hb)
    clear hb
    cases hb2 : [x1, x2, x3].all (inB 0 64)
    · have HB2 := Lib.hid hb2
      clear hb2
      go_enter Tryz.func62, Tryz.ntmps62
      go_wp2_with fail
      refine wp_region_loose [3, 7, 11, 18] (keyP n x1 x2 x3) Adds (by kernel_rfl) (by kernel_rfl) (by simp []) Adds.refl (fun _ _ _ h k => Adds.trans h k) (fun d u _ _ h k => keyP_adds n x1 x2 x3 d u _ _ h k) ?_
      repeat (refine wpL_step (fun K hK => ?_); first
        | (refine stepL_key (f := 85) (args := #[.int .i64 1, .int .i64 32]) 3 rfl rfl rfl rfl ?_ (fun w' hw' => HWi.out 1 32 w') ?_; (· (intro w'; clear hK; go_simp)); refine hK _ ?_; clear hK K)
        | (refine stepL_key (f := 85) (args := #[.int .i64 0, .int .i64 64]) 11 rfl rfl rfl rfl ?_ (fun w' hw' => HWi.out 0 64 w') ?_; (· (intro w'; clear hK; go_simp)); refine hK _ ?_; clear hK K)
        | (refine stepL_ex (v := .bool true) rfl rfl rfl Adds.refl ?_ ?_; (· (intro w' hw'; clear hK; go_simp)); go_simp; refine hK _ ?_; clear hK K)
        | (refine stepL_ex (v := .bool false) rfl rfl rfl Adds.refl ?_ ?_; (· (intro w' hw'; clear hK; go_simp)); go_simp; refine hK _ ?_; clear hK K)
        | (refine stepL_ex rfl rfl rfl Adds.refl (fun w' hw' => rfl) ?_; go_simp; refine hK _ ?_; clear hK K)
        | (refine stepL_ex (v := .slice ao nl cap) rfl rfl rfl Adds.refl ?_ ?_; (· (intro w' hw'; clear hK; have hc := HD.out w' hw'; go_simp)); go_simp; refine hK _ ?_; clear hK K)
        | (refine stepL_ex (v := .int .i64 n) rfl rfl rfl Adds.refl ?_ ?_; (· (intro w' hw'; clear hK; go_simp)); go_simp; refine hK _ ?_; clear hK K)
        | (refine stepL_ex (v := .int .i64 x1) rfl rfl rfl Adds.refl ?_ ?_; (· (intro w' hw'; clear hK; have hc := HD.out w' hw'; go_simp)); go_simp; refine hK _ ?_; clear hK K)
        | (refine stepL_ex (v := .int .i64 x2) rfl rfl rfl Adds.refl ?_ ?_; (· (intro w' hw'; clear hK; have hc := HD.out w' hw'; go_simp)); go_simp; refine hK _ ?_; clear hK K)
        | (refine stepL_ex (v := .int .i64 x3) rfl rfl rfl Adds.refl ?_ ?_; (· (intro w' hw'; clear hK; have hc := HD.out w' hw'; go_simp)); go_simp; refine hK _ ?_; clear hK K)
        | (refine stepL_mk 7 rfl rfl rfl rfl (fun w' hw' => ⟨_, _, mkI1_run rfl rfl w', (HI.out n w').1, (HI.out n w').2⟩) ?_; refine hK _ ?_; clear hK K)
        | (refine stepL_mk 18 rfl rfl rfl rfl (fun w' hw' => ⟨_, _, mkI3_run rfl rfl rfl rfl w', (HI3.out x1 x2 x3 w').1, (HI3.out x1 x2 x3 w').2⟩) ?_; refine hK _ ?_; clear hK K)
        | (refine stepL_call2 (v := .bool true) (d := 3) (e := 7) (f := 84) (fun a b => #[a, b]) rfl rfl ?_ (fun w' a b _ h1 h2 => by have := HE.out a b 1 32 [n] w' h1 h2; rw [HB.out] at this; exact this) ?_; (· (intro w' a b hw' h1 h2; clear hK; refine ⟨rfl, ?_⟩; go_simp)); go_simp; refine hK _ ?_; clear hK K)
        | (refine stepL_call2 (v := .bool false) (d := 11) (e := 18) (f := 84) (fun a b => #[a, b]) rfl rfl ?_ (fun w' a b _ h1 h2 => by have := HE.out a b 0 64 [x1, x2, x3] w' h1 h2; rw [HB2.out] at this; exact this) ?_; (· (intro w' a b hw' h1 h2; clear hK; refine ⟨rfl, ?_⟩; go_simp)); go_simp; refine hK _ ?_; clear hK K))
      refine wpL_nil ?_
      intro w4 a4
      simp only [forL]
      intro u1 _ u2 _ u3 _ u4 _
      have HA4 := Lib.hid (Adds.trans HA1.out (Adds.trans (Adds.drew w1) a4))
      clear a4
      go_wp2_with fail
      go_ret
      exact ⟨rfl, HA4.out⟩
    · have HB2 := Lib.hid hb2
      clear hb2
      go_enter Tryz.func62, Tryz.ntmps62
      go_wp2_with fail
      refine wp_region_loose [3, 7, 11, 18] (keyP n x1 x2 x3) Adds (by kernel_rfl) (by kernel_rfl) (by simp []) Adds.refl (fun _ _ _ h k => Adds.trans h k) (fun d u _ _ h k => keyP_adds n x1 x2 x3 d u _ _ h k) ?_
      repeat (refine wpL_step (fun K hK => ?_); first
        | (refine stepL_key (f := 85) (args := #[.int .i64 1, .int .i64 32]) 3 rfl rfl rfl rfl ?_ (fun w' hw' => HWi.out 1 32 w') ?_; (· (intro w'; clear hK; go_simp)); refine hK _ ?_; clear hK K)
        | (refine stepL_key (f := 85) (args := #[.int .i64 0, .int .i64 64]) 11 rfl rfl rfl rfl ?_ (fun w' hw' => HWi.out 0 64 w') ?_; (· (intro w'; clear hK; go_simp)); refine hK _ ?_; clear hK K)
        | (refine stepL_ex (v := .bool true) rfl rfl rfl Adds.refl ?_ ?_; (· (intro w' hw'; clear hK; go_simp)); go_simp; refine hK _ ?_; clear hK K)
        | (refine stepL_ex (v := .bool false) rfl rfl rfl Adds.refl ?_ ?_; (· (intro w' hw'; clear hK; go_simp)); go_simp; refine hK _ ?_; clear hK K)
        | (refine stepL_ex rfl rfl rfl Adds.refl (fun w' hw' => rfl) ?_; go_simp; refine hK _ ?_; clear hK K)
        | (refine stepL_ex (v := .slice ao nl cap) rfl rfl rfl Adds.refl ?_ ?_; (· (intro w' hw'; clear hK; have hc := HD.out w' hw'; go_simp)); go_simp; refine hK _ ?_; clear hK K)
        | (refine stepL_ex (v := .int .i64 n) rfl rfl rfl Adds.refl ?_ ?_; (· (intro w' hw'; clear hK; go_simp)); go_simp; refine hK _ ?_; clear hK K)
        | (refine stepL_ex (v := .int .i64 x1) rfl rfl rfl Adds.refl ?_ ?_; (· (intro w' hw'; clear hK; have hc := HD.out w' hw'; go_simp)); go_simp; refine hK _ ?_; clear hK K)
        | (refine stepL_ex (v := .int .i64 x2) rfl rfl rfl Adds.refl ?_ ?_; (· (intro w' hw'; clear hK; have hc := HD.out w' hw'; go_simp)); go_simp; refine hK _ ?_; clear hK K)
        | (refine stepL_ex (v := .int .i64 x3) rfl rfl rfl Adds.refl ?_ ?_; (· (intro w' hw'; clear hK; have hc := HD.out w' hw'; go_simp)); go_simp; refine hK _ ?_; clear hK K)
        | (refine stepL_mk 7 rfl rfl rfl rfl (fun w' hw' => ⟨_, _, mkI1_run rfl rfl w', (HI.out n w').1, (HI.out n w').2⟩) ?_; refine hK _ ?_; clear hK K)
        | (refine stepL_mk 18 rfl rfl rfl rfl (fun w' hw' => ⟨_, _, mkI3_run rfl rfl rfl rfl w', (HI3.out x1 x2 x3 w').1, (HI3.out x1 x2 x3 w').2⟩) ?_; refine hK _ ?_; clear hK K)
        | (refine stepL_call2 (v := .bool true) (d := 3) (e := 7) (f := 84) (fun a b => #[a, b]) rfl rfl ?_ (fun w' a b _ h1 h2 => by have := HE.out a b 1 32 [n] w' h1 h2; rw [HB.out] at this; exact this) ?_; (· (intro w' a b hw' h1 h2; clear hK; refine ⟨rfl, ?_⟩; go_simp)); go_simp; refine hK _ ?_; clear hK K)
        | (refine stepL_call2 (v := .bool true) (d := 11) (e := 18) (f := 84) (fun a b => #[a, b]) rfl rfl ?_ (fun w' a b _ h1 h2 => by have := HE.out a b 0 64 [x1, x2, x3] w' h1 h2; rw [HB2.out] at this; exact this) ?_; (· (intro w' a b hw' h1 h2; clear hK; refine ⟨rfl, ?_⟩; go_simp)); go_simp; refine hK _ ?_; clear hK K))
      refine wpL_nil ?_
      intro w4 a4
      simp only [forL]
      intro u1 _ u2 _ u3 _ u4 _
      have HA4 := Lib.hid (Adds.trans HA1.out (Adds.trans (Adds.drew w1) a4))
      have c0 : w4.cell? ⟨w.heap.size, 0, none⟩ = some (.slice ao nl cap) := (HD.out w4 a4).1
      clear a4
      go_wp2_with (go_at_call 86; refine (HEv.out _ HA4.out).mono ?_; rintro e w5 ⟨rfl, q⟩; have HA5 := Lib.hid (Adds.trans HA4.out q); clear q)
      go_ret
      exact ⟨rfl, HA5.out⟩
end Go.Proofs.YtdkgehhlikaocaaGreat
namespace Go.Proofs.YtdkgehhlikaocaaGreat
open Go Go.RowKit
section
variable {w : World} {ops : Array Oper} {rest : List Oper} {o : Oper} {a : Act} {Q : Exit → Act → World → Prop}
end
end Go.Proofs.YtdkgehhlikaocaaGreat
namespace Go.Proofs.YtdkgehhlikaocaaGreat
open Go Go.RowKit Go.Shelf Go.Lib

theorem look_op0 (k : Nat) (h1 : 1 ≤ k) (h2 : k ≤ 19) (b : Nat) (w : World) (h : MapS w b 19) :
    (Instr.lookup 167 (.map (some b)) (.int .i64 k) false).run Tryz.prog w = .ok (shapeV (shOf k)) w := by
  obtain ⟨v, ps, hr, hv⟩ := h.lookup kop Tryz.underlying167 (zeroSh w) (zd := shD (0, 0, 0, 0)) (zp := []) zero_elem (Maps.keyOf_int_mk Tryz.underlying54 (wf_op k h1 h2))
  rw [at_op k h1 h2] at hv
  rw [shElem_inj hv (elem_op k h1 h2)] at hr
  exact hr
theorem mayI_op {x : In} (h : mayI x = true) : ∃ k : Nat, x.1 = k ∧ 1 ≤ k ∧ k ≤ 19 ∧ holdsL (partsN k) x = true := by
  unfold mayI at h
  rw [Bool.and_eq_true, decide_eq_true_eq] at h
  obtain ⟨h1, h2⟩ := h
  exact ⟨x.1.toNat, by omega, by omega, by omega, h2⟩
theorem holdsL_all {P : List (Nat × Nat)} {x : In} (h : holdsL P x = true) : ∀ j, j < P.length → holdsP (P.getD j (0, 0)) x = true := by
  unfold holdsL at h
  rw [Bool.and_eq_true] at h
  exact all_holds.1 h.1
theorem RowP.same {w w' : World} {g : Nat} {ps : List Pt} (h : RowP w g ps) (hb : w'.heap[g]? = w.heap[g]?) : RowP w' g ps := fun i hi q hq => by
  rw [← h i hi q hq]
  unfold World.cell?
  rw [hb]
theorem RowP.lt {w : World} {g : Nat} {ps : List Pt} (h : RowP w g ps) (hp : 0 < ps.length) : g < w.heap.size := by
  have h0 := h 0 hp 0 (by omega)
  have h1 : (ptC (ps.getD 0 (0, 0)))[0]? = some (slotV (ps.getD 0 (0, 0)).1) := rfl
  exact World.block_lt_of_cell? w _ (h0.trans h1)
theorem RowP.adds {w w' : World} {g : Nat} {ps : List Pt} (h : RowP w g ps) (ha : Adds w w') : RowP w' g ps := fun i hi => (h.same (ha.block g (h.lt (by omega)))) i hi
end Go.Proofs.YtdkgehhlikaocaaGreat
