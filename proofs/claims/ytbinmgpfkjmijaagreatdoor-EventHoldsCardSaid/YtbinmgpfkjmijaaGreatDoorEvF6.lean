/- The bytes of parts: contract. (genF6.py wrote this.) -/
import Derived.Test.YtbinmgpfkjmijaaGreatDoorEvF4
import Derived.Test.YtbinmgpfkjmijaaGreatDoorEvCat
namespace Go.Proofs.YtbinmgpfkjmijaaGreatDoor
open Go Go.RowKit Go.Shelf

theorem num_fit {p : Nat} {x : Ev} (hx : OkE x) (h : mayQ p x = true) (hp : p < 6) : numE p x < 256 ^ widE p ∧ (0 ≤ getE p x → getE p x = (numE p x : Nat)) ∧ (getE p x < 0 → p = 4 ∧ getE p x + 4294967296 = (numE p x : Nat)) := by
  have h1 := hx.adr
  clear hx
  match p, hp with
  | 0, _ => simp only [mayQ, decide_eq_true_eq] at h; simp only [numE, getE, widE]; split <;> (refine ⟨?_, fun _ => ?_, fun h2 => ?_⟩ <;> omega)
  | 1, _ => simp only [numE, getE, widE]; split <;> (refine ⟨?_, fun _ => ?_, fun h2 => ?_⟩ <;> omega)
  | 2, _ => simp only [mayQ, decide_eq_true_eq] at h; simp only [numE, getE, widE]; split <;> (refine ⟨?_, fun _ => ?_, fun h2 => ?_⟩ <;> omega)
  | 3, _ => simp only [mayQ, decide_eq_true_eq] at h; simp only [numE, getE, widE]; split <;> (refine ⟨?_, fun _ => ?_, fun h2 => ?_⟩ <;> omega)
  | 4, _ => simp only [mayQ, decide_eq_true_eq] at h; simp only [numE, getE, widE]; split <;> (refine ⟨?_, fun _ => ?_, fun h2 => ⟨trivial, ?_⟩⟩ <;> omega)
  | 5, _ => simp only [mayQ, decide_eq_true_eq] at h; simp only [numE, getE, widE]; split <;> (refine ⟨?_, fun _ => ?_, fun h2 => ?_⟩ <;> omega)
theorem fix_fit {m wd : Nat} (h : m < 256 ^ wd) (hw : wd = 1 ∨ wd = 2 ∨ wd = 4) : fixE m wd = 0 ∧ fixB m wd = leB wd m := by
  have e : fixE m wd = 0 := by
    unfold fixE
    rw [if_pos (by rcases hw with rfl | rfl | rfl <;> decide), if_pos (by simpa using h)]
  refine ⟨e, ?_⟩
  unfold fixB
  rw [if_pos e]
  simp
theorem wid_cases (p : Nat) : widE p = 1 ∨ widE p = 2 ∨ widE p = 4 := by
  unfold widE
  split <;> simp
theorem bytE_take {l : List Nat} {x : Ev} {k : Nat} (h : k < l.length) : bytE (l.take (k + 1)) x = bytE (l.take k) x ++ leB (widE (l.getD k 0)) (numE (l.getD k 0) x) := by
  unfold bytE
  rw [List.take_succ_eq_append_getElem h, List.flatMap_append]
  simp [List.getD_eq_getElem?_getD, h]
theorem bytE_short : ∀ (l : List Nat) (x : Ev), (bytE l x).length ≤ 4 * l.length
  | [], x => by simp [bytE]
  | p :: l, x => by
    have h1 := bytE_short l x
    have : bytE (p :: l) x = leB (widE p) (numE p x) ++ bytE l x := rfl
    rw [this, List.length_append, leB_length, List.length_cons]
    have := wid_cases p
    omega
set_option maxRecDepth 100000 in
set_option maxHeartbeats 4000000 in
theorem written_any (l : List Nat) (hl : okL l) (v : Value) (x : Ev) (hx : OkE x) (hM : ∀ p ∈ l, mayQ p x = true) (w : World) (hv : PartsAt w v l) (hw : Widths w) : Calls Tryz.prog 46 #[evV x, v] w (GivesQB (bytE l x) w) := by
  have HX := Lib.hid hx
  have HL := Lib.hid hl
  have HMay := Lib.hid hM
  obtain ⟨w1, hw1⟩ : ∃ w1, w.alloc (.cells (evC x).toArray 28) = w1 := ⟨_, rfl⟩
  have HA1 := Lib.hid (show Adds w w1 by rw [← hw1]; exact (Gr.new _ _).adds)
  have HB1 := Lib.hid (show BkS 28 w1 w.heap.size (evC x) by rw [← hw1]; exact BkS.new _ _ _)
  have HSz := Lib.hid (show w1.heap.size = w.heap.size + 1 by rw [← hw1]; simp)
  have HW1 := Lib.hid (show Widths w1 from hw.below HA1.out)
  obtain ⟨ao, cv, hvv, hrow⟩ : ∃ ao cv, v = .slice ao l.length cv ∧ (∀ i, i < l.length → ∃ gg, ao = some ⟨gg, 0, none⟩ ∧ RowQ w1 gg l) := by
    rcases hv with ⟨rfl, rfl⟩ | ⟨gg, cc, rfl, h1, h2, h3, h4⟩
    · exact ⟨none, 0, rfl, fun i hi => absurd hi (by simp)⟩
    · exact ⟨_, cc, rfl, fun i hi => ⟨gg, rfl, h4.adds HA1.out⟩⟩
  subst hvv
  have HRow := Lib.hid hrow
  have HLen := Lib.hid (show l.length ≤ 2 from hl.2)
  clear hrow hv hw hM hl hx
  obtain ⟨g, k, f, p, a, c, o, n, t⟩ := x
  go_enter Tryz.func46, Tryz.ntmps46
  go_wp2_with fail
  obtain ⟨n1, hn1⟩ : ∃ n1, w.heap.size = n1 := ⟨_, rfl⟩
  have HN1 := Lib.hid hn1
  rw [hn1] at HB1 HSz ⊢
  clear hn1 hw1
  go_loopw [5, 13] (fun s5 s13 wr => ∃ q : Nat, s13 = .int .i64 q ∧ q ≤ l.length ∧ Hid (OwnB wr w1.heap.size s5 (bytE (l.take q) ⟨g, k, f, p, a, c, o, n, t⟩)) ∧ Hid (Adds w1 wr)) (fun _ s13 _ => l.length + 1 - (RowKit.intOf s13).toNat)
  case atStart => exact ⟨0, rfl, Nat.zero_le _, Lib.hid (OwnB.nil _ _), Lib.hid (Adds.refl _)⟩
  case round =>
    obtain ⟨q, rfl, hk, HO, HA⟩ := hrel
    have hkI : (q : Int) ≤ 2 := by have := HLen.out; omega
    have HBr := Lib.hid (HB1.out.adds HA.out)
    have c0 : wr.cell? ⟨n1, 0, none⟩ = some (.int .i64 g) := HBr.out.cell 0; have c1 : wr.cell? ⟨n1, 1, none⟩ = some (.int .i64 k) := HBr.out.cell 1; have c2 : wr.cell? ⟨n1, 2, none⟩ = some (.int .i64 f) := HBr.out.cell 2; have c3 : wr.cell? ⟨n1, 3, none⟩ = some (.int .i64 p) := HBr.out.cell 3; have c4 : wr.cell? ⟨n1, 4, none⟩ = some (.int .u32 a) := HBr.out.cell 4; have c5 : wr.cell? ⟨n1, 5, none⟩ = some (.int .i64 c) := HBr.out.cell 5; have c6 : wr.cell? ⟨n1, 6, none⟩ = some (.int .i64 o) := HBr.out.cell 6; have c7 : wr.cell? ⟨n1, 7, none⟩ = some (.int .i64 n) := HBr.out.cell 7; have c8 : wr.cell? ⟨n1, 8, none⟩ = some (.int .i64 t) := HBr.out.cell 8
    have ln1 : n1 < wr.heap.size := HBr.out.lt
    by_cases hlt : q < l.length
    · have hltI : (q : Int) < (l.length : Int) := by omega
      obtain ⟨gg, hgg, hrw⟩ := HRow.out q hlt
      subst hgg
      have hrow := (hrw.adds HA.out).2 q hlt
      have d0 := hrow 0 (by omega); have d1 := hrow 1 (by omega); have d2 := hrow 2 (by omega); have d3 := hrow 3 (by omega); have d4 := hrow 4 (by omega)
      have HP6 := Lib.hid (HL.out.1 _ (memQ hlt))
      have HNf := Lib.hid (num_fit (x := ⟨g, k, f, p, a, c, o, n, t⟩) HX.out (HMay.out _ (memQ hlt)) HP6.out)
      have HTk := Lib.hid (bytE_take (x := ⟨g, k, f, p, a, c, o, n, t⟩) hlt)
      have HLt := Lib.hid hlt
      have HSh := Lib.hid (show (bytE (l.take q) ⟨g, k, f, p, a, c, o, n, t⟩).length ≤ 8 by have := bytE_short (l.take q) ⟨g, k, f, p, a, c, o, n, t⟩; rw [List.length_take] at this; have := HLen.out; omega)
      clear hrow hrw hlt hk
      obtain ⟨pp, hp⟩ : ∃ pp, l.getD q 0 = pp := ⟨_, rfl⟩
      rw [hp] at d0 d1 d2 d3 d4 HP6 HTk HNf
      clear hp
      simp only [ptE, List.getElem?_cons_zero, List.getElem?_cons_succ, Nat.add_zero, fnE] at d0 d1 d2 d3 d4
      have HG := Lib.hid (fun W => (getQ_any pp HP6.out ⟨g, k, f, p, a, c, o, n, t⟩ HX.out W).mono fun _ _ h => (⟨h.1, h.2.adds⟩ : _ ∧ Adds W _))
      have eg := fun v => enter_getQ pp HP6.out v
      obtain ⟨m, hm⟩ : ∃ m, numE pp ⟨g, k, f, p, a, c, o, n, t⟩ = m := ⟨_, rfl⟩
      rw [hm] at HTk HNf
      have HFx := Lib.hid (fix_fit HNf.out.1 (wid_cases pp))
      have HFix := Lib.hid (fun W (h : Adds w1 W) => fixed_any m (widE pp) W (HW1.out.below h))
      have hmb : m < 4294967296 := by have h := HNf.out.1; rcases wid_cases pp with e | e | e <;> rw [e] at h <;> omega
      have HWd := Lib.hid (And.intro (wid_cases pp) hmb)
      clear hm
      by_cases hneg : getE pp ⟨g, k, f, p, a, c, o, n, t⟩ < 0
      · obtain ⟨rfl, hval⟩ := HNf.out.2.2 hneg
        obtain ⟨z, hz⟩ : ∃ z, getE 4 ⟨g, k, f, p, a, c, o, n, t⟩ = z := ⟨_, rfl⟩
        rw [hz] at HG hneg hval
        have hzr : z = (m : Int) - 4294967296 := by omega
        have ew := u64_in (a := m) (by omega)
        have hs2 : wrap64 (z + 4294967296) = (m : Int) := by unfold wrap64; omega
        have hs3 : z + 4294967296 = (m : Int) := by omega
        clear hz hzr hval hmb
        simp only [widE] at d0 HFix HFx HTk
        generalize getF 4 = fg at d1 HG eg
        generalize putF 4 = fp at d2
        generalize mayF 4 = fm at d3
        generalize wordF 4 = fw at d4
        go_wp2_with (first
          | (go_at_fn fg; refine (HG.out _).mono ?_; rintro e w5 ⟨rfl, q5⟩; have A5 := Lib.hid (Adds.trans (Gr.new wr _).adds q5); have b5 := (BkS.new 70 wr [.int .i64 ((4 : Nat) : Int), .func (.func fg) #[] #[], .func (.func fp) #[] #[], .func (.func fm) #[] #[], .func (.func fw) #[] #[]]).adds q5; have e0 : w5.cell? ⟨wr.heap.size, 0, none⟩ = some (.int .i64 4) := b5.cell 0; clear q5 b5)
          | (go_at_call 76; refine (HFix.out _ (Adds.trans HA.out A5.out)).mono ?_; rintro e w6 ⟨v6, rfl, h1, h2⟩; have H6 := Lib.hid h1; have A6 := Lib.hid (Adds.trans A5.out h2); clear h1 h2)
          | (at_builtin; refine wp_append_bytes rfl _ _ rfl w1.heap.size u5 _ rfl (HO.out.adds A6.out) v6 _ _ rfl H6.out.bytes (by rw [HFx.out.2, leB_length]; have := HSh.out; omega) (Adds.trans HA.out A6.out).size ?_; intro v8 w8 o8 b8; have O8 := Lib.hid o8; have B8 := Lib.hid (Below.trans (Adds.trans HA.out A6.out) b8); clear o8 b8))
        go_roundw
        case rel => exact ⟨q + 1, rfl, HLt.out, Lib.hid (by rw [HTk.out, ← HFx.out.2]; exact O8.out), B8⟩
        case measure => simp [RowKit.intOf]; have := HLt.out; omega
      · obtain hval := HNf.out.2.1 (by omega)
        rw [hval] at HG hneg
        have ew := u64_in (a := m) (by omega)
        have hneg2 : ¬ ((m : Int) < 0) := by omega
        obtain ⟨wd, hwd⟩ : ∃ wd, widE pp = wd := ⟨_, rfl⟩
        rw [hwd] at d0 HFix HFx HTk HWd
        clear hwd hval hmb hneg
        generalize getF pp = fg at d1 HG eg
        generalize putF pp = fp at d2
        generalize mayF pp = fm at d3
        generalize wordF pp = fw at d4
        go_wp2_with (first
          | (go_at_fn fg; refine (HG.out _).mono ?_; rintro e w5 ⟨rfl, q5⟩; have A5 := Lib.hid (Adds.trans (Gr.new wr _).adds q5); have b5 := (BkS.new 70 wr [.int .i64 (wd : Nat), .func (.func fg) #[] #[], .func (.func fp) #[] #[], .func (.func fm) #[] #[], .func (.func fw) #[] #[]]).adds q5; have e0 : w5.cell? ⟨wr.heap.size, 0, none⟩ = some (.int .i64 (wd : Nat)) := b5.cell 0; clear q5 b5)
          | (go_at_call 76; refine (HFix.out _ (Adds.trans HA.out A5.out)).mono ?_; rintro e w6 ⟨v6, rfl, h1, h2⟩; have H6 := Lib.hid h1; have A6 := Lib.hid (Adds.trans A5.out h2); clear h1 h2)
          | (at_builtin; refine wp_append_bytes rfl _ _ rfl w1.heap.size u5 _ rfl (HO.out.adds A6.out) v6 _ _ rfl H6.out.bytes (by rw [HFx.out.2, leB_length]; have := HSh.out; have := HWd.out; omega) (Adds.trans HA.out A6.out).size ?_; intro v8 w8 o8 b8; have O8 := Lib.hid o8; have B8 := Lib.hid (Below.trans (Adds.trans HA.out A6.out) b8); clear o8 b8))
        go_roundw
        case rel => exact ⟨q + 1, rfl, HLt.out, Lib.hid (by rw [HTk.out, ← HFx.out.2]; exact O8.out), B8⟩
        case measure => simp [RowKit.intOf]; have := HLt.out; omega
    · obtain rfl : q = l.length := by omega
      have HOe := Lib.hid (show OwnB wr w1.heap.size u5 (bytE l ⟨g, k, f, p, a, c, o, n, t⟩) by have := HO.out; rwa [List.take_length] at this)
      clear HO hlt hk
      go_wp2_with fail
      go_ret
      exact ⟨_, rfl, HOe.out.lower HA1.out.size, Adds.trans HA1.out HA.out⟩
end Go.Proofs.YtbinmgpfkjmijaaGreatDoor
