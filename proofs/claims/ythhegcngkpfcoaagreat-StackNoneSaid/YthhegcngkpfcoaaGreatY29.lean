/- Merged: G7. -/
import Derived.Test.YthhegcngkpfcoaaGreatY28
namespace Go.Proofs.YthhegcngkpfcoaaGreat
open Go Go.RowKit Go.Shelf

/-- May an instruction be at a place? -/
def fineB (fs : List Fu) (f : Fu) (pc : Nat) (x : In) : Bool := mayI x && (decide (regsI x ≤ f.1) && (jumpsB f.2 x && (handsB fs x && leavesB f.2 pc x)))
/-- The ask that is the k-th method of a place. -/
def askF : Nat → FuncId | 0 => 99 | 1 => 100 | 2 => 101 | _ => 102
abbrev askV (p : Value) (k : Nat) : Value := .func (.func (askF k)) #[p] #[]
theorem enter_ask (k : Nat) (p v : Value) (w : World) : (callFunc (askF k) #[p, v]).run Tryz.prog w = .ok (.enter (askF k) #[p, v]) w := by
  match k with
  | 0 => exact enters_of Tryz.func99 (by kernel_rfl) rfl _ _
  | 1 => exact enters_of Tryz.func100 (by kernel_rfl) rfl _ _
  | 2 => exact enters_of Tryz.func101 (by kernel_rfl) rfl _ _
  | k + 3 => exact enters_of Tryz.func102 (by kernel_rfl) rfl _ _
set_option maxRecDepth 100000 in
set_option maxHeartbeats 2000000 in
theorem holds1_any (k : Nat) (p : Value) (ib : Nat) (x : In) (r : Bool) (w : World) (hi : BkS 37 w ib (insC x)) (h : Calls Tryz.prog (askF k) #[p, insV x] w fun e w' => e = .returned (.bool r) ∧ Adds w w') :
    Calls Tryz.prog 104 #[askV p k, .pointer (some ⟨ib, 0, none⟩)] w fun e w' => e = .returned (.bool r) ∧ Adds w w' := by
  have H := Lib.hid h
  have ea := enter_ask k p
  obtain ⟨x0, x1, x2, x3, x4⟩ := x
  have j0 : w.cell? ⟨ib, 0, none⟩ = some (.int .i64 x0) := hi.cell 0
  have j1 : w.cell? ⟨ib, 1, none⟩ = some (.int .i64 x1) := hi.cell 1
  have j2 : w.cell? ⟨ib, 2, none⟩ = some (.int .i64 x2) := hi.cell 2
  have j3 : w.cell? ⟨ib, 3, none⟩ = some (.int .i64 x3) := hi.cell 3
  have j4 : w.cell? ⟨ib, 4, none⟩ = some (.int .u32 x4) := hi.cell 4
  unfold askV
  generalize askF k = fk at H ea ⊢
  clear h hi
  go_enter Tryz.func104, Tryz.ntmps104
  go_wp2_with (go_at_fn fk; refine H.out.mono ?_; rintro e w2 ⟨rfl, q⟩; have HA := Lib.hid q; clear q)
  go_ret
  exact ⟨rfl, HA.out⟩
theorem rowA_cell (w : World) (p : Value) (t : TypeId) (k : Nat) (hk : k < 4) : (w.alloc (.cells #[.func (.func 99) #[p] #[], .func (.func 100) #[p] #[], .func (.func 101) #[p] #[], .func (.func 102) #[p] #[]] t)).cell? ⟨w.heap.size, k, none⟩ = some (askV p k) := by
  rw [cell_of_row _ w.heap.size k _ _ _ (heap_new w _)]
  match k, hk with
  | 0, _ | 1, _ | 2, _ | 3, _ => rfl
set_option maxRecDepth 100000 in
set_option maxHeartbeats 2000000 in
theorem everyA (p : Value) (ib gb : Nat) (b : Nat → Bool) (w : World) (hg : ∀ k, k < 4 → w.cell? ⟨gb, k, none⟩ = some (askV p k))
    (hh : ∀ k W, k < 4 → Adds w W → Calls Tryz.prog 104 #[askV p k, .pointer (some ⟨ib, 0, none⟩)] W fun e w' => e = .returned (.bool (b k)) ∧ Adds W w') :
    Calls Tryz.prog 103 #[.func (.func 104) #[] #[.pointer (some ⟨ib, 0, none⟩)], .slice (some ⟨gb, 0, none⟩) 4 4] w fun e w' => e = .returned (.bool ((List.range 4).all b)) ∧ Adds w w' := by
  have HG := Lib.hid hg
  have HH := Lib.hid hh
  clear hg hh
  go_enter Tryz.func103, Tryz.ntmps103
  go_wp2
  go_loopw [9] (fun i wr => ∃ k : Nat, i = .int .i64 k ∧ k ≤ 4 ∧ Hid ((List.range k).all b = true) ∧ Adds w wr) (fun i _ => 5 - (intOf i).toNat)
  case atStart => exact ⟨0, rfl, Nat.zero_le _, Lib.hid rfl, Adds.refl _⟩
  case round =>
    obtain ⟨k, rfl, hk, HT, hA⟩ := hrel
    have HA := Lib.hid hA
    clear hA
    by_cases hlt : k < 4
    · have ck : wr.cell? ⟨gb, k, none⟩ = some (askV p k) := HA.out.cellAt (HG.out k hlt)
      have HX := Lib.hid (HH.out k wr hlt HA.out)
      have hltI : (k : Int) < 4 := by omega
      have HK := Lib.hid (And.intro hlt hk)
      obtain ⟨r, hr⟩ : ∃ r, b k = r := ⟨_, rfl⟩
      rw [hr] at HX
      have HR := Lib.hid hr
      unfold askV at ck HX
      generalize askF k = fk at ck HX
      clear hlt hk hr
      cases r
      · go_wp2_with (go_at_call 104; refine HX.out.mono ?_; rintro e w1 ⟨rfl, q⟩; have HA2 := Lib.hid (Adds.trans HA.out q); clear q)
        go_ret
        refine ⟨?_, HA2.out⟩
        have e : (List.range 4).all b = false := by
          rw [List.all_eq_false]
          exact ⟨k, List.mem_range.2 HK.out.1, by rw [HR.out]; simp⟩
        rw [e]
        rfl
      · go_wp2_with (go_at_call 104; refine HX.out.mono ?_; rintro e w1 ⟨rfl, q⟩; have HA2 := Lib.hid (Adds.trans HA.out q); clear q)
        go_roundw
        case rel => exact ⟨k + 1, by go_num, HK.out.1, Lib.hid (by rw [List.range_succ, List.all_append, HT.out]; simp [HR.out]), HA2.out⟩
        case measure => simp [intOf]; have := HK.out; omega
    · obtain rfl : k = 4 := by omega
      have HE := Lib.hid HT.out
      clear hlt hk
      go_wp2
      go_ret
      rw [HE.out]
      exact ⟨rfl, HA.out⟩
set_option maxRecDepth 100000 in
set_option maxHeartbeats 4000000 in
theorem holdsPl_any {n : Nat} (r : Int) (ac : Option Addr) (cc : Nat) (c : List In) (pc : Nat) (hpc : pc < 9223372036854775807) (fo : Option Addr) (fc : Nat) (fs : List Fu) (x : In) (hx : OkIn x) (w : World) (hf : FuncsW n w (.slice fo fs.length fc) fs) :
    Calls Tryz.prog 90 #[plV r (.slice ac c.length cc) pc (.slice fo fs.length fc), insV x] w fun e w' => e = .returned (.bool (fineB fs (r, c) pc x)) ∧ Adds w w' := by
  have htb := two_boxes w r (.slice ac c.length cc) pc (.slice fo fs.length fc) x
  have hc0 := fun W => check8 x hx W
  have HAsk : Hid (∀ (k : Nat) (W : World), k < 4 → Adds w W → Calls Tryz.prog (askF k) #[plV r (.slice ac c.length cc) pc (.slice fo fs.length fc), insV x] W fun e w' => e = .returned (.bool ((fun k => match k with | 0 => decide (regsI x ≤ r) | 1 => jumpsB c x | 2 => handsB fs x | _ => leavesB c pc x) k)) ∧ Adds W w') := Lib.hid fun k W hk ha => by
    match k, hk with
    | 0, _ => exact names_any r ac c.length cc pc fo fs.length fc x hx W
    | 1, _ => exact jumps_any r ac cc c pc fo fs.length fc x hx W
    | 2, _ => exact hands_any r (.slice ac c.length cc) pc fo fc fs x hx W (hf.adds ha)
    | 3, _ => exact plleaves_any r ac cc c pc hpc fo fs.length fc x hx W
  have hfb : fineB fs (r, c) pc x = (mayI x && (List.range 4).all (fun k => match k with | 0 => decide (regsI x ≤ r) | 1 => jumpsB c x | 2 => handsB fs x | _ => leavesB c pc x)) := by
    unfold fineB
    simp [List.range_succ]
  rw [hfb]
  generalize (fun k => match k with | 0 => decide (regsI x ≤ r) | 1 => jumpsB c x | 2 => handsB fs x | _ => leavesB c pc x) = b at HAsk ⊢
  unfold errI at hc0
  have HP : Hid (∀ (ib : Nat) (k : Nat) (W : World), k < 4 → Adds w W → BkS 37 W ib (insC x) → Calls Tryz.prog 104 #[askV (plV r (.slice ac c.length cc) pc (.slice fo fs.length fc)) k, .pointer (some ⟨ib, 0, none⟩)] W fun e w' => e = .returned (.bool (b k)) ∧ Adds W w') :=
    Lib.hid fun ib k W hk ha hi => holds1_any k _ ib x (b k) W hi (HAsk.out k W hk ha)
  obtain ⟨x0, x1, x2, x3, x4⟩ := x
  obtain ⟨w1, hw1⟩ : ∃ w1, (w.alloc (.cells #[.int .i64 r, .slice ac c.length cc, .int .i64 pc, .slice fo fs.length fc] 132)).alloc (.cells #[.int .i64 x0, .int .i64 x1, .int .i64 x2, .int .i64 x3, .int .u32 x4] 37) = w1 := ⟨_, rfl⟩
  have e1 : (w.alloc (.cells #[.int .i64 r, .slice ac c.length cc, .int .i64 pc, .slice fo fs.length fc] 132)).alloc (.cells (insC (x0, x1, x2, x3, x4)).toArray 37) = w1 := hw1
  rw [e1] at htb
  have HA1 := Lib.hid htb.1
  have HB1 := Lib.hid htb.2.1
  have HB2 := Lib.hid htb.2.2
  have j0 : w1.cell? ⟨w.heap.size + 1, 0, none⟩ = some (.int .i64 x0) := htb.2.2.cell 0
  have j1 : w1.cell? ⟨w.heap.size + 1, 1, none⟩ = some (.int .i64 x1) := htb.2.2.cell 1
  have j2 : w1.cell? ⟨w.heap.size + 1, 2, none⟩ = some (.int .i64 x2) := htb.2.2.cell 2
  have j3 : w1.cell? ⟨w.heap.size + 1, 3, none⟩ = some (.int .i64 x3) := htb.2.2.cell 3
  have j4 : w1.cell? ⟨w.heap.size + 1, 4, none⟩ = some (.int .u32 x4) := htb.2.2.cell 4
  generalize c.length = cl at HP HB1 hw1 e1 ⊢
  generalize fs.length = fl at HP HB1 hw1 e1 ⊢
  cases hm : mayI (x0, x1, x2, x3, x4)
  · rw [hm] at hc0
    have HC := Lib.hid hc0
    clear htb e1 hx hf hm hc0 HAsk HP hfb
    go_enter Tryz.func90, Tryz.ntmps90
    go_wp2_with (go_at_call 98; refine (HC.out _).mono ?_; rintro e w2 ⟨rfl, q⟩; have HA2 := Lib.hid q; clear q)
    go_ret
    exact ⟨rfl, Adds.trans HA1.out HA2.out⟩
  · rw [hm] at hc0
    have HC := Lib.hid hc0
    clear htb e1 hx hf hm hc0 HAsk hfb
    go_enter Tryz.func90, Tryz.ntmps90
    go_wp2_with (first
      | (go_at_call 98; refine (HC.out _).mono ?_; rintro e w2 ⟨rfl, q⟩; have HA2 := Lib.hid (Adds.trans HA1.out q); have b1 := HB1.out.adds q; have b2 := HB2.out.adds q; have HB4 := Lib.hid b2; have p0 : w2.cell? ⟨w.heap.size, 0, none⟩ = some (.int .i64 r) := b1.cell 0; have p1 : w2.cell? ⟨w.heap.size, 1, none⟩ = some (.slice ac cl cc) := b1.cell 1; have p2 : w2.cell? ⟨w.heap.size, 2, none⟩ = some (.int .i64 pc) := b1.cell 2; have p3 : w2.cell? ⟨w.heap.size, 3, none⟩ = some (.slice fo fl fc) := b1.cell 3; clear q b1 b2)
      | (go_at_call 103; refine (everyA (plV r (.slice ac cl cc) pc (.slice fo fl fc)) (w.heap.size + 1) w2.heap.size b _ (fun k hk => rowA_cell w2 _ _ k hk) (fun k W hk ha => HP.out (w.heap.size + 1) k W hk (Adds.trans HA2.out (Adds.trans (Gr.new w2 _).adds ha)) (HB4.out.adds (Adds.trans (Gr.new w2 _).adds ha)))).mono ?_; rintro e w3 ⟨rfl, q⟩; have HA3 := Lib.hid (Adds.trans HA2.out (Adds.trans (Gr.new w2 _).adds q)); clear q))
    go_ret
    exact ⟨by rw [show (true && (List.range 4).all b) = (b 0 && (b 1 && (b 2 && b 3))) by simp [List.range_succ]]; rfl, HA3.out⟩
end Go.Proofs.YthhegcngkpfcoaaGreat
