/- Merged: Z1, Z3. -/
import Derived.Test.YthhegcngkpfcoaaGreatY10
import Derived.Test.YthhegcngkpfcoaaGreatY2
import Derived.Test.YthhegcngkpfcoaaGreatY20
import Derived.Test.YthhegcngkpfcoaaGreatY6
import Derived.Deep.QuietTactic
import Derived.BigQuiet
namespace Go.Proofs.YthhegcngkpfcoaaGreat
open Go Go.RowKit Go.Shelf Go.Lib

abbrev refuV (e : Int) : Value := .iface 104 (.int .i64 e)
set_option maxRecDepth 100000 in
theorem must_yes (e : Int) (w : World) : Calls Tryz.prog 34 #[.bool true, .int .i64 e] w fun r w' => r = .returned (.tuple #[]) ∧ w = w' := by
  go_enter Tryz.func34, Tryz.ntmps34
  go_wp2
  go_end0
  exact ⟨by simp, rfl⟩
set_option maxRecDepth 100000 in
theorem must_no (e : Int) (w : World) : Calls Tryz.prog 34 #[.bool false, .int .i64 e] w fun r w' => r = .panicked [{ v := refuV e, recovered := false }] ∧ w = w' := by
  go_enter Tryz.func34, Tryz.ntmps34
  go_wp2
  exact ⟨rfl, rfl, rfl⟩
set_option maxRecDepth 100000 in
theorem told12 (v : Int) (w : World) : Calls Tryz.prog 31 #[refuV v] w fun e w' => e = .returned (.int .i64 v) ∧ w = w' := by
  have ht : ∀ w : World, (Instr.typeAssert (.iface 104 (.int .i64 v)) 20 104 false).run Tryz.prog w = .ok (.int .i64 v) w := fun _ => by kernel_rfl
  go_enter Tryz.func31, Tryz.ntmps31
  go_wp2
  go_ret
  exact ⟨rfl, rfl⟩
def inBd (a b x : Int) : Bool := decide (a ≤ x ∧ x ≤ b)
set_option maxRecDepth 100000 in
theorem hold_bd (a b x : Int) (w : World) : Calls Tryz.prog 40 #[.agg #[.int .i64 a, .int .i64 b], .int .i64 x] w fun e w' => e = .returned (.bool (inBd a b x)) ∧ Adds w w' := by
  obtain ⟨w1, hw1⟩ : ∃ w1, w.alloc (.cells #[.int .i64 a, .int .i64 b] 90) = w1 := ⟨_, rfl⟩
  have A1 := Lib.hid (show Adds w w1 by rw [← hw1]; exact Adds.new _ _)
  have B1 : BkS 90 w1 w.heap.size [.int .i64 a, .int .i64 b] := by rw [← hw1]; exact BkS.new _ _ _
  have b0 := B1.cell 0
  have b1 := B1.cell 1
  clear B1
  by_cases h1 : a ≤ x
  · by_cases h2 : x ≤ b
    · rw [show inBd a b x = true by unfold inBd; exact decide_eq_true ⟨h1, h2⟩]
      go_enter Tryz.func40, Tryz.ntmps40
      go_wp2
      go_ret
      exact ⟨rfl, A1.out⟩
    · rw [show inBd a b x = false by unfold inBd; exact decide_eq_false (by omega)]
      go_enter Tryz.func40, Tryz.ntmps40
      go_wp2
      go_ret
      exact ⟨rfl, A1.out⟩
  · rw [show inBd a b x = false by unfold inBd; exact decide_eq_false (by omega)]
    go_enter Tryz.func40, Tryz.ntmps40
    go_wp2
    go_ret
    exact ⟨rfl, A1.out⟩
end Go.Proofs.YthhegcngkpfcoaaGreat
namespace Go.Proofs.YthhegcngkpfcoaaGreat
open Go Go.RowKit Go.Shelf

/-- It answers, and nothing but the draw has gone on. -/
def Drs (v : Value) (w : World) (e : Ending) (w' : World) : Prop := e = .returned v ∧ ∃ m, w' = w.drewN m
theorem res_box1 {P : Program} {fn : Func} {p : Tmp} {ty : TypeId} (h : fn.results = #[.cell p ty]) (tmps : Array Value) (w : World) (g : Nat) (cs : Array Value) (t : TypeId) (fr : Nat × Nat) (d : TypeDesc) (hp : tmps.getD p undef = .pointer (some ⟨g, 0, none⟩))
    (hg : w.heap[g]? = some (.cells cs t fr)) (hu : P.underlying ty = some d) (hd : (match d with | .struct _ | .array _ _ => true | _ => false) = true) (hi : (P.info? ty).map (·.size) = some cs.size) : (results fn tmps).run P w = .ok (.agg cs) w := by
  have hp' : tmps[p]?.getD undef = .pointer (some ⟨g, 0, none⟩) := by simpa using hp
  simp [results, h, hp', asAddr, run_loadVar_row (P := P) w g t ty cs fr d hg hu hd hi]
section
variable {t : TypeId} {n b g cap : Nat} {w : World} {p : Pg} {fv lv : Value} {R : List (Fr × Value)} {x : Fr × Value} {res : UInt32}
/-- The top, where its list has an address. -/
abbrev TopO (t : TypeId) (n : Nat) (w : World) (b : Nat) (p : Pg) (fv : Value) (g cap : Nat) (R : List (Fr × Value)) (x : Fr × Value) (res : UInt32) : Prop := PileO t n w b p fv (.slice (some ⟨g, 0, none⟩) (R.length + 1) cap) (R ++ [x]) res
theorem TopO.cells (h : TopO t n w b p fv g cap R x res) : (w.cell? ⟨b, 4, none⟩ = some (.slice (some ⟨g, 0, none⟩) (R.length + 1) cap) ∧ R.length + 1 ≤ cap ∧ cap ≤ maxLen) ∧
    w.cell? ⟨g, R.length * 4, none⟩ = some (.int .i64 (x.1.1 : Int)) ∧ w.cell? ⟨g, R.length * 4 + 1, none⟩ = some (.int .i64 (x.1.2.1 : Int)) ∧ w.cell? ⟨g, R.length * 4 + 2, none⟩ = some (.int .i64 x.1.2.2.1) ∧ w.cell? ⟨g, R.length * 4 + 3, none⟩ = some x.2 ∧ ∀ i, w.frozen? ⟨g, i, none⟩ = false := by
  obtain ⟨g', cap', cur, e, _, h2, h3, _, h4⟩ := h.lo.top
  simp only [Value.slice.injEq, Option.some.injEq, Addr.mk.injEq, and_true, true_and] at e
  obtain ⟨rfl, rfl⟩ := e
  exact ⟨⟨h.bx.cell 4, h2, h3⟩, h4⟩
theorem TopO.reg (h : TopO t n w b p fv g cap R x res) : RegO n w x.2 x.1.2.2.2 := h.lo.reg x (by simp)
theorem PileO.open (h : PileO t n w b p fv lv (R ++ [x]) res) : ∃ g cap, lv = .slice (some ⟨g, 0, none⟩) (R.length + 1) cap := by
  obtain ⟨g, cap, cur, e, _⟩ := h.lo.top
  exact ⟨g, cap, e⟩
theorem PileO.low {fv lv : Value} {R : List (Fr × Value)} (h : PileO t n w b p fv lv R res) : n ≤ w.heap.size := Nat.le_trans h.hn (Nat.le_of_lt h.bx.lt)
theorem drewN_below (n : Nat) (w : World) (m : Nat) : Below n w (w.drewN m) := ⟨rfl, rfl, rfl, Nat.le_refl _, fun _ _ => rfl⟩
set_option maxRecDepth 100000 in
set_option maxHeartbeats 1000000 in
theorem topS_any (h : TopO t n w b p fv g cap R x res) : Calls Tryz.prog 51 #[.pointer (some ⟨b, 0, none⟩)] w (Drs (.pointer (some ⟨g, R.length * 4, none⟩)) w) := by
  obtain ⟨⟨c0, h1, h2⟩, _⟩ := h.cells
  unfold maxLen at h2
  clear h
  obtain ⟨k, hk⟩ : ∃ k, R.length = k := ⟨_, rfl⟩
  rw [hk] at c0 h1 ⊢
  clear hk
  have hkI : (k : Int) + 1 ≤ 9223372036854775807 := by omega
  have hcI : (cap : Int) ≤ 9223372036854775807 := by omega
  clear h1 h2
  have hw : wrap64 ((k : Int) + 1 - 1) = (k : Int) := by unfold wrap64; omega
  go_enter Tryz.func51, Tryz.ntmps51
  go_wp2_with fail
  go_quiet (fail)
  go_wp2
  go_ret
  exact ⟨rfl, _, rfl⟩
set_option maxRecDepth 100000 in
theorem endedS_any (h : PileO t n w b p fv lv R res) : Calls Tryz.prog 25 #[.pointer (some ⟨b, 0, none⟩)] w fun e w' => e = .returned (.bool (decide (R.length = 0))) ∧ w = w' := by
  obtain ⟨ao, cap, rfl, h1, h2⟩ := h.lo.form
  have c0 : w.cell? ⟨b, 4, none⟩ = some (.slice ao R.length cap) := h.bx.cell 4
  clear h
  obtain ⟨k, hk⟩ : ∃ k, R.length = k := ⟨_, rfl⟩
  rw [hk] at c0 ⊢
  clear hk h1 h2
  by_cases h0 : k = 0
  · subst h0
    go_enter Tryz.func25, Tryz.ntmps25
    go_wp2
    go_ret
    exact ⟨rfl, rfl⟩
  · have hk0 : ((k : Int) == 0) = false := by rw [beq_eq_false_iff_ne]; omega
    rw [decide_eq_false h0]
    clear h0
    go_enter Tryz.func25, Tryz.ntmps25
    go_wp2
    go_ret
    exact ⟨rfl, rfl⟩
set_option maxRecDepth 100000 in
set_option maxHeartbeats 1000000 in
theorem regsS_any (h : TopO t n w b p fv g cap R x res) (least : Int) : Calls Tryz.prog 39 #[.pointer (some ⟨b, 0, none⟩), .int .i64 least] w fun e w' => e = .returned (.agg #[.int .i64 least, .int .i64 ((x.1.2.2.2.length : Int) - 1)]) ∧ Adds w w' := by
  have HT := Lib.hid (fun (W : World) (ha : Adds w W) => topS_any (h.adds ha))
  obtain ⟨ao, rc, hrv, hr1, hr2⟩ := h.reg.form0
  unfold maxLen at hr2
  have HC := Lib.hid (fun (W : World) (ha : Adds w W) => show W.cell? ⟨g, R.length * 4 + 3, none⟩ = some (.slice ao x.1.2.2.2.length rc) from by rw [(TopO.cells (h.adds ha)).2.2.2.2.1, hrv])
  obtain ⟨k, hk⟩ : ∃ k, R.length = k := ⟨_, rfl⟩
  obtain ⟨rl, hrl⟩ : ∃ rl, x.1.2.2.2.length = rl := ⟨_, rfl⟩
  rw [hk] at HT HC
  rw [hrl] at HC hr1 ⊢
  clear h hrv hk hrl
  have hrI : (rl : Int) ≤ 9223372036854775807 := by omega
  have hw : wrap64 ((rl : Int) - 1) = (rl : Int) - 1 := by unfold wrap64; omega
  clear hr1 hr2
  obtain ⟨w1, hw1⟩ : ∃ w1, w.alloc (.cells #[.int .i64 0, .int .i64 0] 90) = w1 := ⟨_, rfl⟩
  have A1 := Lib.hid (show Adds w w1 by rw [← hw1]; exact Adds.new _ _)
  have B1 := Lib.hid (show BkS 90 w1 w.heap.size [.int .i64 0, .int .i64 0] by rw [← hw1]; exact BkS.new _ _ _)
  go_enter Tryz.func39, Tryz.ntmps39
  go_wp2_with (go_at_call 51; refine (HT.out _ A1.out).mono ?_; rintro e w2 ⟨rfl, m, rfl⟩; have A2 := Lib.hid (Adds.trans A1.out (Adds.drewN w1 m)); have c0 := HC.out _ A2.out; have B2 := Lib.hid (B1.out.adds (Adds.drewN w1 m)); have z0 := B2.out.cell 0; have z1 := B2.out.cell 1; have y0 := B2.out.free 0; have y1 := B2.out.free 1)
  refine bodyPost_ret (res_box1 rfl _ _ _ _ _ _ _ rfl ((B2.out.set 0 (.int .i64 least)).set 1 (.int .i64 ((rl : Int) - 1))) Tryz.underlying90 rfl (by kernel_rfl)) rfl ?_
  exact ⟨rfl, Adds.set (Adds.set A2.out (Nat.le_refl _) _ _) (Nat.le_refl _) _ _⟩
theorem RegO.word {v : Value} {rs : List UInt32} (h : RegO n w v rs) {i : Nat} (hi : i < rs.length) : ∃ q c, v = .slice (some ⟨q, 0, none⟩) rs.length c ∧ n ≤ q ∧ rs.length ≤ c ∧ c ≤ maxLen ∧ w.cell? ⟨q, i, none⟩ = some (.int .u32 ((rs.getD i 0).toNat : Nat)) ∧ w.frozen? ⟨q, i, none⟩ = false := by
  obtain ⟨q, c, rfl, h1, h2, h3, _⟩ := h.form (by rintro rfl; simp at hi)
  exact ⟨q, c, rfl, h1, h2, h3, h.cell hi, h.free i⟩
set_option maxRecDepth 100000 in
set_option maxHeartbeats 1000000 in
theorem regS_any (h : TopO t n w b p fv g cap R x res) (i : Nat) (hi : i < x.1.2.2.2.length) : Calls Tryz.prog 41 #[.pointer (some ⟨b, 0, none⟩), .int .i64 (i : Int)] w (Drs (.int .u32 ((x.1.2.2.2.getD i 0).toNat : Nat)) w) := by
  have HT := Lib.hid (topS_any h)
  obtain ⟨q, c, hrv, hq, hr1, hr2, hw1, _⟩ := h.reg.word hi
  unfold maxLen at hr2
  have hc3 := h.cells.2.2.2.2.1
  rw [hrv] at hc3
  have HC := Lib.hid (fun (m : Nat) => And.intro ((Adds.drewN w m).cellAt hc3) ((Adds.drewN w m).cellAt hw1))
  obtain ⟨k, hk⟩ : ∃ k, R.length = k := ⟨_, rfl⟩
  obtain ⟨rl, hrl⟩ : ∃ rl, x.1.2.2.2.length = rl := ⟨_, rfl⟩
  obtain ⟨u, hu⟩ : ∃ u, (x.1.2.2.2.getD i 0).toNat = u := ⟨_, rfl⟩
  rw [hk] at HT HC
  rw [hrl] at HC hr1 hi
  rw [hu] at HC ⊢
  clear h hrv hk hrl hc3 hw1 hu
  have hiI : (i : Int) < (rl : Int) := by omega
  have hcI : (rl : Int) ≤ 9223372036854775807 := by omega
  clear hr1 hr2 hi hq
  go_enter Tryz.func41, Tryz.ntmps41
  go_wp2_with (go_at_call 51; refine HT.out.mono ?_; rintro e w2 ⟨rfl, m, rfl⟩; obtain ⟨c0, c1⟩ := HC.out m)
  go_ret
  exact ⟨rfl, _, rfl⟩
/-- A register of the top, or none, is written. -/
def putR (reg : Int) (u : UInt32) (x : Fr × Value) : Fr × Value := if reg = -1 then x else ((x.1.1, x.1.2.1, x.1.2.2.1, x.1.2.2.2.set reg.toNat u), x.2)
set_option maxRecDepth 100000 in
set_option maxHeartbeats 1000000 in
theorem putS_any (h : TopO t n w b p fv g cap R x res) (reg : Int) (hr : reg = -1 ∨ 0 ≤ reg ∧ reg < x.1.2.2.2.length) (u : UInt32) : Calls Tryz.prog 60 #[.pointer (some ⟨b, 0, none⟩), .int .i64 reg, .int .u32 (u.toNat : Nat)] w fun e w' => e = .returned (.tuple #[]) ∧ TopO t n w' b p fv g cap R (putR reg u x) res ∧ Low n w w' := by
  have HH := Lib.hid h
  by_cases h1 : reg = -1
  · subst h1
    unfold putR
    rw [if_pos rfl]
    go_enter Tryz.func60, Tryz.ntmps60
    go_wp2
    go_end0
    exact ⟨by simp, HH.out, Low.refl _ _⟩
  · obtain ⟨i, rfl⟩ : ∃ i : Nat, reg = i := ⟨reg.toNat, by omega⟩
    have hi : i < x.1.2.2.2.length := by omega
    have HT := Lib.hid (topS_any h)
    obtain ⟨⟨f, pc, d, rs⟩, rv⟩ := x
    obtain ⟨q, c, hrv, hq, hr1, hr2, hw1, hf1⟩ := h.reg.word hi
    simp only at hrv hr1 hw1
    subst hrv
    unfold maxLen at hr2
    have hc3 := h.cells.2.2.2.2.1
    have HC := Lib.hid (fun (m : Nat) => And.intro ((Adds.drewN w m).cellAt hc3) (And.intro ((Adds.drewN w m).cellAt hw1) (show (w.drewN m).frozen? ⟨q, i, none⟩ = false from hf1)))
    obtain ⟨curq, hgq⟩ := ownB (show RegO n w (.slice (some ⟨q, 0, none⟩) rs.length c) rs from h.reg) (g := q) rfl
    have HP := Lib.hid (fun (m : Nat) => And.intro (PileO.setReg (h.adds (Adds.drewN w m)) i u) (show Low n w ((w.drewN m).setCell ⟨q, i, none⟩ (.int .u32 (u.toNat : Nat))) from (Low.mono (Adds.drewN w m) h.low).set (hgq.adds (Adds.drewN w m)) (.inr (.inr (.inr rfl))) hq _))
    clear hgq
    unfold putR
    rw [if_neg h1]
    have hne : ((i : Int) != -1) = true := by simp
    obtain ⟨k, hk⟩ : ∃ k, R.length = k := ⟨_, rfl⟩
    obtain ⟨rl, hrl⟩ : ∃ rl, rs.length = rl := ⟨_, rfl⟩
    have HK := Lib.hid hk
    have HRl := Lib.hid hrl
    simp only [hk, hrl] at HT HC HP hr1 hi
    have hiI : (i : Int) < (rl : Int) := by omega
    have hcI : (rl : Int) ≤ 9223372036854775807 := by omega
    clear h hk hrl hc3 hw1 hf1 hr1 hr2 hi hq h1 hr HH
    go_enter Tryz.func60, Tryz.ntmps60
    go_wp2_with (go_at_call 51; refine HT.out.mono ?_; rintro e w2 ⟨rfl, m, rfl⟩; obtain ⟨c0, c1, f1⟩ := HC.out m; have HQ := Lib.hid (HP.out m))
    go_end0
    have hq := HQ.out
    rw [← HK.out, ← HRl.out] at hq
    exact ⟨by simp, hq.1, hq.2⟩
set_option maxRecDepth 100000 in
set_option maxHeartbeats 1000000 in
theorem behindS_any {f pc : Nat} {d : Int} {rs : List UInt32} {rv : Value} (h : TopO t n w b p fv g cap R ((f, pc, d, rs), rv) res) (hpc : pc < 9223372036854775807) : Calls Tryz.prog 61 #[.pointer (some ⟨b, 0, none⟩)] w fun e w' => e = .returned (.tuple #[]) ∧ TopO t n w' b p fv g cap R ((f, pc + 1, d, rs), rv) res ∧ Low n w w' := by
  have HT := Lib.hid (topS_any h)
  have hc := h.cells
  have hng := (World.ownsRow.lt h.lo.row g rfl).1
  have HC := Lib.hid (fun (m : Nat) => And.intro ((Adds.drewN w m).cellAt hc.2.2.1) (show (w.drewN m).frozen? ⟨g, R.length * 4 + 1, none⟩ = false from hc.2.2.2.2.2 _))
  obtain ⟨curq, hgq⟩ := ownB h.lo.row (g := g) rfl
  have HP := Lib.hid (fun (m : Nat) => And.intro (PileO.setPc (h.adds (Adds.drewN w m)) (pc + 1)) (show Low n w ((w.drewN m).setCell ⟨g, R.length * 4 + 1, none⟩ (.int .i64 ((pc + 1 : Nat) : Int))) from (Low.mono (Adds.drewN w m) h.low).set (hgq.adds (Adds.drewN w m)) (.inr (.inr (.inl rfl))) hng _))
  clear hgq
  obtain ⟨k, hk⟩ : ∃ k, R.length = k := ⟨_, rfl⟩
  have HK := Lib.hid hk
  simp only [hk] at HT HC HP
  have hpI : (pc : Int) < 9223372036854775807 := by omega
  clear h hc hng hpc hk
  go_enter Tryz.func61, Tryz.ntmps61
  go_wp2_with (go_at_call 51; refine HT.out.mono ?_; rintro e w2 ⟨rfl, m, rfl⟩; obtain ⟨c0, f0⟩ := HC.out m; have HQ := Lib.hid (HP.out m))
  go_end0
  have e1 : ((pc : Int) + 1) = ((pc + 1 : Nat) : Int) := by omega
  rw [e1]
  have hq := HQ.out
  rw [← HK.out] at hq ⊢
  exact ⟨by simp, hq.1, hq.2⟩
end
end Go.Proofs.YthhegcngkpfcoaaGreat
