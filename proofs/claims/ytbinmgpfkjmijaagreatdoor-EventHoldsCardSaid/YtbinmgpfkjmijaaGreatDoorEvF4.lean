/- What is given up with: an event that may not be: contract. (genF4.py wrote this.) -/
import Derived.Test.YtbinmgpfkjmijaaGreatDoorEvF3
import Derived.Test.YtbinmgpfkjmijaaGreatDoorSF11
namespace Go.Proofs.YtbinmgpfkjmijaaGreatDoor
open Go Go.RowKit Go.Shelf

theorem holdsQ_any (l : List Nat) (hl : okL l) (v : Value) (x : Ev) (hx : OkE x) (w : World) (hv : PartsAt w v l) : Calls Tryz.prog 62 #[evV x, v] w fun e w' => e = .returned (.bool (holdsE l x)) ∧ Adds w w' := by
  cases hg : mayQ 0 x
  · exact holds_no_g l v x hg w
  · cases hs : rightS (x.f, x.p)
    · exact holds_no_s l v x hg hs w
    · exact holds_yes l hl v x hx hg hs w hv
/-- What hold does: it tells the parts where the event may be, else it gives up with ErrArg. -/
def HoldPost (x : Ev) (w : World) (e : Ending) (w' : World) : Prop :=
  (if mayE x then ∃ v, e = .returned v ∧ PartsAt w' v (partsE x.k.toNat) else e = .panicked [{ v := .iface 97 (.int .i64 2), recovered := false }]) ∧ Adds w w'
set_option maxRecDepth 100000 in
set_option maxHeartbeats 4000000 in
theorem hold_none (x : Ev) (hx : OkE x) (hk : ¬ (1 ≤ x.k ∧ x.k ≤ 14)) (w : World) : Calls Tryz.prog 31 #[evV x] w (HoldPost x w) := by
  have hmx : Tryz.prog.follows .mixedOrders = true := by kernel_rfl
  obtain ⟨w1, hw1⟩ : ∃ w1, w.alloc (.cells (evC x).toArray 28) = w1 := ⟨_, rfl⟩
  have HA1 := Lib.hid (show Adds w w1 by rw [← hw1]; exact (Gr.new _ _).adds)
  have HB1 := Lib.hid (show BkS 28 w1 w.heap.size (evC x) by rw [← hw1]; exact BkS.new _ _ _)
  have hm : mayE x = false := by unfold mayE; rw [decide_eq_false hk]; rfl
  have HM := Lib.hid hm
  have HK := Lib.hid (And.intro hx.kin hk)
  clear hm hk hx
  obtain ⟨g, k, f, p, a, c, o, n, t⟩ := x
  simp only at HK
  go_enter Tryz.func31, Tryz.ntmps31
  go_wp2_with fail
  obtain ⟨n1, hn1⟩ : ∃ n1, w.heap.size = n1 := ⟨_, rfl⟩
  rw [hn1] at HB1 ⊢
  clear hn1 hw1
  have i1 : w1.drew.cell? ⟨n1, 1, none⟩ = some (.int .i64 k) := (HB1.out.adds (Adds.drew _)).cell 1
  have ln : n1 < w1.drew.heap.size := (HB1.out.adds (Adds.drew _)).lt
  refine wp_calmS ?_
  go_region_with (go_at_call 61; refine (named_any _).mono ?_; rintro e w2 ⟨b9, rfl, _, hN, hA⟩; have hl := look_none hN k HK.out.1 HK.out.2 w2 (Adds.refl _); have HA2 := Lib.hid (Adds.trans (Adds.drew _) hA); have HB2 := Lib.hid (HB1.out.adds (Adds.trans (Adds.drew _) hA)); have j1 : w2.cell? ⟨n1, 1, none⟩ = some (.int .i64 k) := HB2.out.cell 1; have ln2 : n1 < w2.heap.size := HB2.out.lt; clear hN hA)
  all_goals (simp only [Exit.then]; go_simp)
  all_goals (
    go_wp2
    exact ⟨rfl, by unfold HoldPost; rw [HM.out]; exact ⟨rfl, Adds.trans HA1.out HA2.out⟩⟩)
set_option maxRecDepth 100000 in
set_option maxHeartbeats 4000000 in
theorem hold_some (x : Ev) (hx : OkE x) (m : Nat) (hm : x.k = m) (h1 : 1 ≤ m) (h2 : m ≤ 14) (w : World) : Calls Tryz.prog 31 #[evV x] w (HoldPost x w) := by
  have hmx : Tryz.prog.follows .mixedOrders = true := by kernel_rfl
  obtain ⟨w1, hw1⟩ : ∃ w1, w.alloc (.cells (evC x).toArray 28) = w1 := ⟨_, rfl⟩
  have HA1 := Lib.hid (show Adds w w1 by rw [← hw1]; exact (Gr.new _ _).adds)
  have HB1 := Lib.hid (show BkS 28 w1 w.heap.size (evC x) by rw [← hw1]; exact BkS.new _ _ _)
  have hm2 : mayE x = holdsE (partsE m) x := by unfold mayE; rw [decide_eq_true (by omega), hm]; rfl
  have HM := Lib.hid hm2
  have HX := Lib.hid hx
  have HK := Lib.hid (And.intro h1 h2)
  have HE := Lib.hid (show x.k.toNat = m by omega)
  clear hm2 h1 h2 hx
  obtain ⟨r, hr⟩ : ∃ r, holdsE (partsE m) x = r := ⟨_, rfl⟩
  have HR := Lib.hid hr
  clear hr
  obtain ⟨g, k, f, p, a, c, o, n, t⟩ := x
  obtain rfl : k = m := hm
  go_enter Tryz.func31, Tryz.ntmps31
  go_wp2_with fail
  obtain ⟨n1, hn1⟩ : ∃ n1, w.heap.size = n1 := ⟨_, rfl⟩
  rw [hn1] at HB1 ⊢
  clear hn1 hw1
  have i1 : w1.drew.cell? ⟨n1, 1, none⟩ = some (.int .i64 (m : Nat)) := (HB1.out.adds (Adds.drew _)).cell 1
  have ln : n1 < w1.drew.heap.size := (HB1.out.adds (Adds.drew _)).lt
  refine wp_calmS ?_
  go_region_with (go_at_call 61; refine (named_any _).mono ?_; rintro e w2 ⟨b9, rfl, _, hN, hA⟩; obtain ⟨vv, hp, hl⟩ := look_kind hN m HK.out.1 HK.out.2; have hl := hl w2 (Adds.refl _); have HP2 := Lib.hid hp; clear hp; have HA2 := Lib.hid (Adds.trans (Adds.drew _) hA); have HB2 := Lib.hid (HB1.out.adds (Adds.trans (Adds.drew _) hA)); have j1 : w2.cell? ⟨n1, 1, none⟩ = some (.int .i64 (m : Nat)) := HB2.out.cell 1; have ln2 : n1 < w2.heap.size := HB2.out.lt; clear hN hA)
  all_goals (simp only [Exit.then]; go_simp)
  all_goals (
    have HH := Lib.hid (holdsQ_any (partsE m) (okL_kind m) vv ⟨g, m, f, p, a, c, o, n, t⟩ HX.out w2 HP2.out)
    rw [HR.out] at HH
    have c0 : w2.cell? ⟨n1, 0, none⟩ = some (.int .i64 g) := HB2.out.cell 0
    have c1 : w2.cell? ⟨n1, 1, none⟩ = some (.int .i64 (m : Nat)) := HB2.out.cell 1
    have c2 : w2.cell? ⟨n1, 2, none⟩ = some (.int .i64 f) := HB2.out.cell 2
    have c3 : w2.cell? ⟨n1, 3, none⟩ = some (.int .i64 p) := HB2.out.cell 3
    have c4 : w2.cell? ⟨n1, 4, none⟩ = some (.int .u32 a) := HB2.out.cell 4
    have c5 : w2.cell? ⟨n1, 5, none⟩ = some (.int .i64 c) := HB2.out.cell 5
    have c6 : w2.cell? ⟨n1, 6, none⟩ = some (.int .i64 o) := HB2.out.cell 6
    have c7 : w2.cell? ⟨n1, 7, none⟩ = some (.int .i64 n) := HB2.out.cell 7
    have c8 : w2.cell? ⟨n1, 8, none⟩ = some (.int .i64 t) := HB2.out.cell 8
    cases r)
  all_goals (
    go_wp2_with (go_at_call 62; refine HH.out.mono ?_; rintro e w3 ⟨rfl, q⟩; have HA3 := Lib.hid q; clear q))
  all_goals first
    | exact ⟨rfl, by unfold HoldPost; rw [HM.out, HR.out]; exact ⟨rfl, Adds.trans HA1.out (Adds.trans HA2.out HA3.out)⟩⟩
    | (go_ret; unfold HoldPost; rw [HM.out, HR.out]; exact ⟨⟨_, rfl, by rw [HE.out]; exact HP2.out.adds HA3.out⟩, Adds.trans HA1.out (Adds.trans HA2.out HA3.out)⟩)
theorem hold_any (x : Ev) (hx : OkE x) (w : World) : Calls Tryz.prog 31 #[evV x] w (HoldPost x w) := by
  by_cases h : 1 ≤ x.k ∧ x.k ≤ 14
  · exact hold_some x hx x.k.toNat (by omega) (by omega) (by omega) w
  · exact hold_none x hx h w
end Go.Proofs.YtbinmgpfkjmijaaGreatDoor
