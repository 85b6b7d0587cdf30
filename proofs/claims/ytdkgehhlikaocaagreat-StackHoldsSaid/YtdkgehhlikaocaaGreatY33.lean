/- Merged: GD1, IR1, IR2, IR3, IR4, IR5, IStr, IG1. -/
import Derived.Test.YtdkgehhlikaocaaGreatY14
import Derived.BigQuiet
import Derived.Test.YtdkgehhlikaocaaGreatY3
import Derived.Lib.ConvBytes
import Derived.Test.YtdkgehhlikaocaaGreatY6
namespace Go.Proofs.YtdkgehhlikaocaaGreat
open Go Go.RowKit Go.Shelf

theorem numsP_no {p : Pg} (h : ¬ ((1 ≤ (p.1.length : Int) ∧ (p.1.length : Int) ≤ 32) ∧ (0 ≤ p.2.1 ∧ p.2.1 ≤ 64) ∧ (0 ≤ p.2.2.1 ∧ p.2.2.1 ≤ 64) ∧ (0 ≤ p.2.2.2 ∧ p.2.2.2 ≤ 64))) : numsP p = false := by
  rw [← Bool.not_eq_true]
  intro hn
  unfold numsP sharedB at hn
  simp only [Bool.and_eq_true, List.all_eq_true, inB, decide_eq_true_eq, List.mem_cons, List.not_mem_nil, or_false, forall_eq_or_imp, forall_eq] at hn
  exact h ⟨hn.1, hn.2.1.1, hn.2.1.2.1, hn.2.1.2.2⟩
theorem numsP_is {p : Pg} (h1 : 1 ≤ (p.1.length : Int) ∧ (p.1.length : Int) ≤ 32) (h2 : 0 ≤ p.2.1 ∧ p.2.1 ≤ 64) (h3 : 0 ≤ p.2.2.1 ∧ p.2.2.1 ≤ 64) (h4 : 0 ≤ p.2.2.2 ∧ p.2.2.2 ≤ 64) : numsP p = p.1.all numsF := by
  unfold numsP sharedB
  simp only [inB, List.all_cons, List.all_nil, h1, h2, h3, h4, and_self, decide_true, Bool.true_and, Bool.and_true]
theorem all_no {fs : List Fu} {k : Nat} (hk : k < fs.length) (h : numsF (fs.getD k zF) = false) : fs.all numsF = false := by
  rw [← Bool.not_eq_true, List.all_eq_true]
  intro ha
  have := ha (fs.getD k zF) (by rw [List.getD_eq_getElem?_getD, List.getElem?_eq_getElem hk]; exact List.getElem_mem hk)
  rw [h] at this; cases this
theorem all_yes {fs : List Fu} (h : ∀ q, q < fs.length → numsF (fs.getD q zF) = true) : fs.all numsF = true := by
  rw [List.all_eq_true]
  intro f hf
  obtain ⟨i, hi, rfl⟩ := List.mem_iff_getElem.1 hf
  have := h i hi
  rwa [List.getD_eq_getElem?_getD, List.getElem?_eq_getElem hi] at this
set_option maxRecDepth 100000 in
set_option maxHeartbeats 8000000 in
theorem refNums_any {m : Nat} (u : Value) (p : Pg) (w : World) (hf : FuncsW m w u p.1) : Calls Tryz.prog 32 #[pgV u p] w fun e w' => e = .returned (.bool (numsP p)) ∧ Adds w w' := by
  have hno := @numsP_no p
  have his := @numsP_is p
  obtain ⟨fs, x1, x2, x3⟩ := p
  simp only at hf hno his ⊢
  have HF := Lib.hid hf.here
  obtain ⟨ao, cap, rfl, _, _, _⟩ := hf
  obtain ⟨fl, hfl⟩ : ∃ fl, fs.length = fl := ⟨_, rfl⟩
  have HFl := Lib.hid hfl
  simp only [hfl] at HF hno his ⊢
  have HNo := Lib.hid hno
  have HIs := Lib.hid his
  obtain ⟨fz, hfz⟩ : ∃ fz : Int, (fl : Int) = fz := ⟨_, rfl⟩
  have HFz := Lib.hid hfz
  rw [hfz] at HNo HIs
  clear hfl hno his
  obtain ⟨w1, hw1⟩ : ∃ w1, w.alloc (.cells #[.slice ao fl cap, .int .i64 x1, .int .i64 x2, .int .i64 x3] 24) = w1 := ⟨_, rfl⟩
  have A1 := Lib.hid (show Adds w w1 by rw [← hw1]; exact (Gr.new _ _).adds)
  have B1 := Lib.hid (show BkS 24 w1 w.heap.size [.slice ao fl cap, .int .i64 x1, .int .i64 x2, .int .i64 x3] by rw [← hw1]; exact BkS.new _ _ _)
  have b0 : w1.cell? ⟨w.heap.size, 0, none⟩ = some (.slice ao fl cap) := B1.out.cell 0
  have b1 : w1.cell? ⟨w.heap.size, 1, none⟩ = some (.int .i64 x1) := B1.out.cell 1
  have b2 : w1.cell? ⟨w.heap.size, 2, none⟩ = some (.int .i64 x2) := B1.out.cell 2
  have b3 : w1.cell? ⟨w.heap.size, 3, none⟩ = some (.int .i64 x3) := B1.out.cell 3
  by_cases c0 : (fl : Int) < 1
  · have hn := HNo.out (by have := HFz.out; omega)
    rw [hn]
    clear hn hfz
    go_enter Tryz.func32, Tryz.ntmps32
    go_wp2
    go_ret
    exact ⟨rfl, A1.out⟩
  by_cases c1 : 32 < (fl : Int)
  · have hn := HNo.out (by have := HFz.out; omega)
    rw [hn]
    clear hn hfz
    go_enter Tryz.func32, Tryz.ntmps32
    go_wp2
    go_ret
    exact ⟨rfl, A1.out⟩
  by_cases c2 : x1 < 0
  · have hn := HNo.out (by have := HFz.out; omega)
    rw [hn]
    clear hn hfz
    go_enter Tryz.func32, Tryz.ntmps32
    go_wp2
    go_ret
    exact ⟨rfl, A1.out⟩
  by_cases c3 : 64 < x1
  · have hn := HNo.out (by have := HFz.out; omega)
    rw [hn]
    clear hn hfz
    go_enter Tryz.func32, Tryz.ntmps32
    go_wp2
    go_ret
    exact ⟨rfl, A1.out⟩
  by_cases c4 : x2 < 0
  · have hn := HNo.out (by have := HFz.out; omega)
    rw [hn]
    clear hn hfz
    go_enter Tryz.func32, Tryz.ntmps32
    go_wp2
    go_ret
    exact ⟨rfl, A1.out⟩
  by_cases c5 : 64 < x2
  · have hn := HNo.out (by have := HFz.out; omega)
    rw [hn]
    clear hn hfz
    go_enter Tryz.func32, Tryz.ntmps32
    go_wp2
    go_ret
    exact ⟨rfl, A1.out⟩
  by_cases c6 : x3 < 0
  · have hn := HNo.out (by have := HFz.out; omega)
    rw [hn]
    clear hn hfz
    go_enter Tryz.func32, Tryz.ntmps32
    go_wp2
    go_ret
    exact ⟨rfl, A1.out⟩
  by_cases c7 : 64 < x3
  · have hn := HNo.out (by have := HFz.out; omega)
    rw [hn]
    clear hn hfz
    go_enter Tryz.func32, Tryz.ntmps32
    go_wp2
    go_ret
    exact ⟨rfl, A1.out⟩
  rw [HIs.out (by have := HFz.out; omega) (by omega) (by omega) (by omega)]
  clear hfz
  obtain ⟨vb, hvb⟩ : ∃ vb, fs.all numsF = vb := ⟨_, rfl⟩
  have HVb := Lib.hid hvb
  rw [hvb]
  clear hvb
  go_enter Tryz.func32, Tryz.ntmps32
  go_wp2
  go_loopw [3] (fun i wr => ∃ j : Nat, i = .int .i64 (j : Int) ∧ j ≤ fl ∧ Hid (∀ q, q < j → numsF (fs.getD q zF) = true) ∧ Hid (Adds w1 wr)) (fun i _ => fl + 1 - (intOf i).toNat)
  case atStart => exact ⟨0, rfl, Nat.zero_le _, Lib.hid (fun q hq => absurd hq (by omega)), Lib.hid (Adds.refl _)⟩
  case round =>
    obtain ⟨j, rfl, hj, HA, HW⟩ := hrel
    have d0 : wr.cell? ⟨w.heap.size, 0, none⟩ = some (.slice ao fl cap) := (B1.out.adds HW.out).cell 0
    by_cases hlt : j < fl
    · have hltI : (j : Int) < (fl : Int) := by omega
      have HLt := Lib.hid hlt
      have hjc : j < fs.length := by rw [HFl.out]; exact hlt
      have HJc := Lib.hid hjc
      obtain ⟨g, off, rfl, hg, hat⟩ := (show FuncsW w.heap.size wr (.slice ao fs.length cap) fs by have h := HF.out.adds (Adds.trans A1.out HW.out); rw [← HFl.out] at h; exact h).at (i := j) hjc
      obtain ⟨k0, cv, k1, hc, _⟩ := hat
      obtain ⟨ac, cc, rfl, _, _⟩ := hc.form
      obtain ⟨⟨r, c⟩, hre⟩ : ∃ f, fs.getD j zF = f := ⟨_, rfl⟩
      have HRe := Lib.hid hre
      rw [hre] at k0 hc k1
      simp only at k0 hc k1
      obtain ⟨cl, hcl⟩ : ∃ cl, c.length = cl := ⟨_, rfl⟩
      rw [hcl] at k1
      have HNf := Lib.hid (show numsF (r, c) = (decide (1 ≤ r ∧ r ≤ 16) && decide (1 ≤ (cl : Int) ∧ (cl : Int) ≤ 512)) by unfold numsF inB; rw [hcl])
      clear hc hcl hre hlt hj hjc hg
      by_cases f0 : r < 1
      · have hno : vb = false := by rw [← HVb.out]; exact all_no HJc.out (by rw [HRe.out, HNf.out]; simp; omega)
        subst hno
        go_wp2
        go_ret
        exact ⟨rfl, Adds.trans A1.out (Adds.trans HW.out (Gr.new _ _).adds)⟩
      by_cases f1 : 16 < r
      · have hno : vb = false := by rw [← HVb.out]; exact all_no HJc.out (by rw [HRe.out, HNf.out]; simp; omega)
        subst hno
        go_wp2
        go_ret
        exact ⟨rfl, Adds.trans A1.out (Adds.trans HW.out (Gr.new _ _).adds)⟩
      by_cases f2 : (cl : Int) < 1
      · have hno : vb = false := by rw [← HVb.out]; exact all_no HJc.out (by rw [HRe.out, HNf.out]; simp; omega)
        subst hno
        go_wp2
        go_ret
        exact ⟨rfl, Adds.trans A1.out (Adds.trans HW.out (Gr.new _ _).adds)⟩
      by_cases f3 : 512 < (cl : Int)
      · have hno : vb = false := by rw [← HVb.out]; exact all_no HJc.out (by rw [HRe.out, HNf.out]; simp; omega)
        subst hno
        go_wp2
        go_ret
        exact ⟨rfl, Adds.trans A1.out (Adds.trans HW.out (Gr.new _ _).adds)⟩
      have HYes := Lib.hid (show numsF (fs.getD j zF) = true by rw [HRe.out, HNf.out]; simp; omega)
      go_wp2
      go_roundw
      case rel => exact ⟨j + 1, by go_num, HLt.out, Lib.hid (fun q hq => (Nat.lt_or_eq_of_le (Nat.le_of_lt_succ hq)).elim (fun h => HA.out q h) (fun h => h ▸ HYes.out)), Lib.hid (Adds.trans HW.out (Gr.new _ _).adds)⟩
      case measure => simp [intOf]; have := HLt.out; omega
    · have hje : j = fl := by omega
      have hltI : ¬ (j : Int) < (fl : Int) := by omega
      have hy : vb = true := by rw [← HVb.out]; exact all_yes (fun q hq => HA.out q (by rw [HFl.out] at hq; omega))
      subst hy
      clear hlt hj hje
      go_wp2
      go_ret
      exact ⟨rfl, Adds.trans A1.out HW.out⟩
end Go.Proofs.YtdkgehhlikaocaaGreat
namespace Go.Proofs.YtdkgehhlikaocaaGreat
open Go Go.RowKit Go.Shelf Go.Lib

end Go.Proofs.YtdkgehhlikaocaaGreat
namespace Go.Proofs.YtdkgehhlikaocaaGreat
open Go Go.RowKit Go.Shelf Go.Lib

end Go.Proofs.YtdkgehhlikaocaaGreat
namespace Go.Proofs.YtdkgehhlikaocaaGreat
open Go Go.RowKit Go.Shelf Go.Lib

end Go.Proofs.YtdkgehhlikaocaaGreat
namespace Go.Proofs.YtdkgehhlikaocaaGreat
open Go Go.RowKit Go.Shelf Go.Lib

theorem RowP.tn {b g : Nat} {ps : List Pt} {w w' : World} (h : RowP w g ps) (ht : TnS b w w') (hb : g ≠ b) : RowP w' g ps := fun i hi => (h.same (ht.block g (h.lt (by omega)) (fun e => hb (by cases e; rfl)))) i hi
end Go.Proofs.YtdkgehhlikaocaaGreat
namespace Go.Proofs.YtdkgehhlikaocaaGreat
open Go Go.RowKit Go.Shelf Go.Lib

end Go.Proofs.YtdkgehhlikaocaaGreat
namespace Go.Proofs.YtdkgehhlikaocaaGreat
open Go Go.RowKit Go.Shelf

theorem str_size8 (l : List UInt8) : (str l).size = l.length := by simp [str, ByteArray.size]
end Go.Proofs.YtdkgehhlikaocaaGreat
namespace Go.Proofs.YtdkgehhlikaocaaGreat
open Go Go.RowKit Go.Shelf

/-- What an Op names, by letters. -/
def lettN : Nat → List UInt8
  | 1 => [97, 105] | 2 => [97, 98] | 3 => [97, 98, 99, 107] | 4 => [105] | 5 => [97, 105] | 6 => [97, 98] | 7 => [97, 98] | 8 => [97, 98, 110, 102] | 9 => [97] | 10 => [98, 110, 102]
  | 11 => [97] | 12 => [97] | 13 => [97] | 14 => [97] | 15 => [97] | 16 => [97] | 17 => [97, 98] | 18 => [97] | 19 => [] | _ => [45]
theorem lett_cell (w : World) (k : Nat) (h : k < 19) : (w.alloc (.cells #[.string ⟨#[97, 105]⟩, .string ⟨#[97, 98]⟩, .string ⟨#[97, 98, 99, 107]⟩, .string ⟨#[105]⟩, .string ⟨#[97, 105]⟩, .string ⟨#[97, 98]⟩, .string ⟨#[97, 98]⟩, .string ⟨#[97, 98, 110, 102]⟩, .string ⟨#[97]⟩, .string ⟨#[98, 110, 102]⟩, .string ⟨#[97]⟩, .string ⟨#[97]⟩, .string ⟨#[97]⟩, .string ⟨#[97]⟩, .string ⟨#[97]⟩, .string ⟨#[97]⟩, .string ⟨#[97, 98]⟩, .string ⟨#[97]⟩, .string ⟨#[]⟩] 9)).cell? ⟨w.heap.size, k, none⟩ = some (.string (str (lettN (k + 1)))) := by
  rw [cell_of_row _ w.heap.size k _ _ _ (heap_new w _)]
  match k, h with
  | 0, _ | 1, _ | 2, _ | 3, _ | 4, _ | 5, _ | 6, _ | 7, _ | 8, _ | 9, _ | 10, _ | 11, _ | 12, _ | 13, _ | 14, _ | 15, _ | 16, _ | 17, _ | 18, _ => rfl
  | k + 19, h => exact absurd h (by omega)
set_option maxRecDepth 100000 in
set_option maxHeartbeats 4000000 in
theorem refNamesI_any (op : Nat) (h1 : 1 ≤ op) (h2 : op ≤ 19) (w : World) : Calls Tryz.prog 104 #[.int .i64 op] w fun e w' => e = .returned (.string (str (lettN op))) ∧ Adds w w' := by
  obtain ⟨k, rfl⟩ : ∃ k, op = k + 1 := ⟨op - 1, by omega⟩
  obtain ⟨w1, hw1⟩ : ∃ w1, w.alloc (.cells #[.string ⟨#[97, 105]⟩, .string ⟨#[97, 98]⟩, .string ⟨#[97, 98, 99, 107]⟩, .string ⟨#[105]⟩, .string ⟨#[97, 105]⟩, .string ⟨#[97, 98]⟩, .string ⟨#[97, 98]⟩, .string ⟨#[97, 98, 110, 102]⟩, .string ⟨#[97]⟩, .string ⟨#[98, 110, 102]⟩, .string ⟨#[97]⟩, .string ⟨#[97]⟩, .string ⟨#[97]⟩, .string ⟨#[97]⟩, .string ⟨#[97]⟩, .string ⟨#[97]⟩, .string ⟨#[97, 98]⟩, .string ⟨#[97]⟩, .string ⟨#[]⟩] 9) = w1 := ⟨_, rfl⟩
  have c := lett_cell w k (by omega)
  rw [hw1] at c
  have HA := Lib.hid (show Adds w w1 by rw [← hw1]; exact Adds.new _ _)
  obtain ⟨s, hs⟩ : ∃ s, str (lettN (k + 1)) = s := ⟨_, rfl⟩
  rw [hs] at c ⊢
  have e : ((k + 1 : Nat) : Int) - 1 = (k : Int) := by omega
  have l1 : ¬ ((k + 1 : Nat) : Int) < 1 := by omega
  have l2 : ¬ (19 : Int) < ((k + 1 : Nat) : Int) := by omega
  have l3 : (k : Int) < 19 := by omega
  clear h1 h2 hs
  go_enter Tryz.func104, Tryz.ntmps104
  go_wp2
  go_ret
  exact ⟨rfl, HA.out⟩
theorem str_at (l : List UInt8) (j : Nat) (_hj : j < l.length) (h : j < (str l).size) : (str l)[j]'h = l[j] := by
  rfl
theorem has_take {l : List UInt8} {b c : UInt8} {j : Nat} (hj : l[j]? = some b) (h : (l.take j).contains c = false) (hne : b ≠ c) : (l.take (j + 1)).contains c = false := by
  rw [List.take_add_one, hj]
  show (l.take j ++ [b]).contains c = false
  simp only [List.contains_eq_mem, List.mem_append, List.mem_singleton, decide_eq_false_iff_not] at h ⊢
  rintro (h2 | h2)
  · exact h h2
  · exact hne h2.symm
set_option maxRecDepth 100000 in
set_option maxHeartbeats 4000000 in
theorem refIn_any (op : Nat) (h1 : 1 ≤ op) (h2 : op ≤ 19) (c : UInt8) (w : World) : Calls Tryz.prog 92 #[.int .i64 op, .int .u8 c.toNat] w fun e w' => e = .returned (.bool ((lettN op).contains c)) ∧ Adds w w' := by
  have HN := Lib.hid (refNamesI_any op h1 h2 w)
  have hlen : (lettN op).length ≤ 4 := by
    have h : ∀ k : Fin 20, (lettN k.val).length ≤ 4 := by decide
    exact h ⟨op, by omega⟩
  generalize lettN op = l at HN hlen ⊢
  obtain ⟨s, hs⟩ : ∃ s, str l = s := ⟨_, rfl⟩
  rw [hs] at HN
  have hsz : (s.size : Int) = (l.length : Nat) := by rw [← hs, str_size8]
  have HSt := Lib.hid hs
  have HLen := Lib.hid hlen
  clear h1 h2 hs hlen
  go_enter Tryz.func92, Tryz.ntmps92
  go_wp2_with (go_at_call 104; refine HN.out.mono ?_; rintro e w1 ⟨rfl, q⟩; have HA := Lib.hid q; clear q)
  go_loopw [6] (fun i wr => ∃ j : Nat, i = .int .i64 j ∧ j ≤ l.length ∧ wr = w1 ∧ Hid ((l.take j).contains c = false)) (fun i _ => l.length + 1 - (intOf i).toNat)
  case atStart => exact ⟨0, rfl, Nat.zero_le _, rfl, Lib.hid (by simp)⟩
  case round =>
    obtain ⟨j, rfl, hj, rfl, HT⟩ := hrel
    have hj4 : (j : Int) ≤ 4 := by have := HLen.out; omega
    by_cases hlt : j < l.length
    · have hltI : (j : Int) < (l.length : Nat) := by omega
      have hb : ∀ h : j < s.size, s[j]'h = l[j] := fun h => by
        have := HSt.out
        subst this
        exact str_at l j hlt h
      obtain ⟨b, hbb⟩ : ∃ b, l[j] = b := ⟨_, rfl⟩
      rw [hbb] at hb
      have HB := Lib.hid (show l[j]? = some b by rw [← hbb]; exact List.getElem?_eq_getElem hlt)
      have HLt := Lib.hid hlt
      have hj2 : j < s.size := by omega
      have hbx : (s[j]'hj2).toNat = b.toNat := by rw [hb]
      by_cases he : b = c
      · subst he
        have HR := Lib.hid (show l.contains b = true by have := List.mem_of_getElem? HB.out; simpa using this)
        clear hbb hlt hb
        go_wp2
        go_ret
        rw [HR.out]
        exact ⟨rfl, HA.out⟩
      · have hne : ((b.toNat : Int) == (c.toNat : Int)) = false := by
          rw [beq_eq_false_iff_ne]
          intro h
          exact he (UInt8.toNat_inj.1 (by omega))
        have HT2 := Lib.hid (has_take HB.out HT.out he)
        clear hbb hlt hb he
        go_wp2
        go_roundw
        case rel => exact ⟨j + 1, by go_num, HLt.out, (by first | rfl | trivial), HT2⟩
        case measure => simp [intOf]; have := HLt.out; omega
    · have HR := Lib.hid (show l.contains c = false by have := HT.out; rwa [List.take_of_length_le (by omega)] at this)
      have hjn : (j : Int) = (l.length : Nat) := by omega
      clear hlt
      go_wp2
      go_ret
      rw [HR.out]
      exact ⟨rfl, HA.out⟩
set_option maxRecDepth 100000 in
theorem refReg_any (n : Int) (z : Bool) (w : World) : Calls Tryz.prog 91 #[.int .i64 n, .bool z] w fun e w' => e = .returned (.bool (decide (n = 0) || (z && decide (0 ≤ n ∧ n ≤ 15)))) ∧ w = w' := by
  by_cases h0 : n = 0
  · subst h0
    cases z <;> (
      go_enter Tryz.func91, Tryz.ntmps91
      go_wp2
      go_ret
      exact ⟨by simp, rfl⟩)
  · have hz : (n == 0) = false := beq_eq_false_iff_ne.2 h0
    cases z
    · go_enter Tryz.func91, Tryz.ntmps91
      go_wp2
      go_ret
      exact ⟨by simp [h0], rfl⟩
    · by_cases h1 : 0 ≤ n
      · by_cases h2 : n ≤ 15
        · go_enter Tryz.func91, Tryz.ntmps91
          go_wp2
          go_ret
          exact ⟨by simp [h0, h1, h2], rfl⟩
        · go_enter Tryz.func91, Tryz.ntmps91
          go_wp2
          go_ret
          exact ⟨by simp []; omega, rfl⟩
      · go_enter Tryz.func91, Tryz.ntmps91
        go_wp2
        go_ret
        exact ⟨by simp []; omega, rfl⟩
end Go.Proofs.YtdkgehhlikaocaaGreat
