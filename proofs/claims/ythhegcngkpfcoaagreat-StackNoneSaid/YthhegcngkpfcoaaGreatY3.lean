/- Merged: IF2. -/
import Derived.Lib.SlKept
import Derived.Lib.SliceRun
import Derived.Test.YthhegcngkpfcoaaGreatY2
namespace Go.Proofs.YthhegcngkpfcoaaGreat
open Go Go.RowKit Go.Shelf Go.Lib

def widN : Nat → Int | 3 => 4 | _ => 1
/-- A part: what it may be (0: none), which it is. -/
abbrev Pt := Nat × Nat
def ptC (p : Pt) : List Value := [slotV p.1, .int .i64 (widN p.2), fnV (getF p.2), fnV (putF p.2)]
def flatI (l : List Pt) : List Value := l.flatMap ptC
theorem flatI_get : ∀ (l : List Pt) (i q : Nat), q < 4 → i < l.length → (flatI l)[i * 4 + q]? = (ptC (l.getD i (0, 0)))[q]?
  | [], _, _, _, h => by simp at h
  | x :: t, 0, q, hq, _ => by
    show (ptC x ++ flatI t)[0 * 4 + q]? = _
    rw [List.getElem?_append_left (by simp [ptC]; omega)]
    simp
  | x :: t, i + 1, q, hq, h => by
    show (ptC x ++ flatI t)[(i + 1) * 4 + q]? = _
    rw [List.getElem?_append_right (by simp [ptC]; omega), show (i + 1) * 4 + q - (ptC x).length = i * 4 + q by simp [ptC]; omega, flatI_get t i q hq (by simpa using h)]
    simp
def setP (l : List Value) (o : Nat) (a b c d : Value) : List Value := (((l.set o a).set (o + 1) b).set (o + 2) c).set (o + 3) d
theorem setP_left (x l : List Value) (o : Nat) (a b c d : Value) (h : x.length ≤ o) : setP (x ++ l) o a b c d = x ++ setP l (o - x.length) a b c d := by
  unfold setP
  rw [List.set_append_right _ _ h, List.set_append_right _ _ (by omega), List.set_append_right _ _ (by omega), List.set_append_right _ _ (by omega), show o + 1 - x.length = o - x.length + 1 by omega, show o + 2 - x.length = o - x.length + 2 by omega, show o + 3 - x.length = o - x.length + 3 by omega]
theorem flatI_set (p : Pt) : ∀ (l : List Pt) (i : Nat), i < l.length → setP (flatI l) (i * 4) (slotV p.1) (.int .i64 (widN p.2)) (fnV (getF p.2)) (fnV (putF p.2)) = flatI (l.set i p)
  | [], _, h => by simp at h
  | x :: t, 0, _ => rfl
  | x :: t, i + 1, h => by
    show setP (ptC x ++ flatI t) ((i + 1) * 4) _ _ _ _ = ptC x ++ flatI (t.set i p)
    rw [setP_left _ _ _ _ _ _ _ (by simp [ptC]; omega), show (i + 1) * 4 - (ptC x).length = i * 4 by simp [ptC]; omega, flatI_set p t i (by simpa using h)]
theorem BkS.setP {t : TypeId} {w : World} {b : Nat} {l : List Value} (h : BkS t w b l) (o : Nat) (x y z u : Value) : BkS t ((((w.setCell ⟨b, o, none⟩ x).setCell ⟨b, o + 1, none⟩ y).setCell ⟨b, o + 2, none⟩ z).setCell ⟨b, o + 3, none⟩ u) b (setP l o x y z u) :=
  (((h.set o x).set (o + 1) y).set (o + 2) z).set (o + 3) u

theorem fn_nil (f : FuncId) (w : World) : (binOp .eql 164 (fnV f) .nilFunc).run Tryz.prog w = .ok (.bool false) w := by kernel_rfl
theorem nil_nil (w : World) : (binOp .eql 164 .nilFunc .nilFunc).run Tryz.prog w = .ok (.bool true) w := by kernel_rfl
theorem isNil_any (p : Pt) (w : World) : Calls Tryz.prog 153 #[.agg (ptC p).toArray] w fun e w' => e = .returned (.bool (p.1 == 0)) ∧ Gr w w' := by
  obtain ⟨s, k⟩ := p
  have h1 := nil_nil
  cases s with
  | zero =>
    simp only [ptC, slotV]
    change Calls _ _ _ _ fun e w' => e = .returned (.bool true) ∧ Gr w w'
    generalize fnV (getF k) = u
    generalize fnV (putF k) = v
    go_enter Tryz.func153, Tryz.ntmps153
    go_wp2
    go_ret
    exact ⟨rfl, Gr.new _ _⟩
  | succ n =>
    simp only [ptC, slotV]
    have h2 := fn_nil (isF n)
    generalize fnV (getF k) = u
    generalize fnV (putF k) = v
    unfold fnV at h2 ⊢
    generalize isF n = f at h2 ⊢
    go_enter Tryz.func153, Tryz.ntmps153
    go_wp2
    go_ret
    exact ⟨by simp, Gr.new _ _⟩

def all4 (s : Sh) : List Pt := [(s.1, 0), (s.2.1, 1), (s.2.2.1, 2), (s.2.2.2, 3)]
def atI (s : Sh) (i : Nat) : Pt := (all4 s).getD i (0, 0)
def firstNil (s : Sh) : Int := if s.1 = 0 then 0 else if s.2.1 = 0 then 1 else if s.2.2.1 = 0 then 2 else if s.2.2.2 = 0 then 3 else -1
theorem firstNil_at {s : Sh} {k : Nat} (hk : k < 4) (h0 : ∀ j, j < k → (atI s j).1 ≠ 0) (h : (atI s k).1 = 0) : firstNil s = k := by
  have e0 : (atI s 0).1 = s.1 := rfl
  have e1 : (atI s 1).1 = s.2.1 := rfl
  have e2 : (atI s 2).1 = s.2.2.1 := rfl
  have e3 : (atI s 3).1 = s.2.2.2 := rfl
  match k, hk with
  | 0, _ => rw [e0] at h; simp [firstNil, h]
  | 1, _ => have a0 := h0 0 (by omega); rw [e0] at a0; rw [e1] at h; simp [firstNil, h, a0]
  | 2, _ => have a0 := h0 0 (by omega); have a1 := h0 1 (by omega); rw [e0] at a0; rw [e1] at a1; rw [e2] at h; simp [firstNil, h, a0, a1]
  | 3, _ => have a0 := h0 0 (by omega); have a1 := h0 1 (by omega); have a2 := h0 2 (by omega); rw [e0] at a0; rw [e1] at a1; rw [e2] at a2; rw [e3] at h; simp [firstNil, h, a0, a1, a2]
theorem firstNil_none {s : Sh} (h0 : ∀ j, j < 4 → (atI s j).1 ≠ 0) : firstNil s = -1 := by
  have a0 : s.1 ≠ 0 := h0 0 (by omega)
  have a1 : s.2.1 ≠ 0 := h0 1 (by omega)
  have a2 : s.2.2.1 ≠ 0 := h0 2 (by omega)
  have a3 : s.2.2.2 ≠ 0 := h0 3 (by omega)
  simp [firstNil, a0, a1, a2, a3]
set_option maxRecDepth 100000 in
theorem indexF_any (s : Sh) (g : Nat) (w : World) (h : BkS 175 w g (flatI (all4 s))) :
    Calls Tryz.prog 154 #[.slice (some ⟨g, 0, none⟩) 4 4, .func (.func 153) #[] #[]] w fun e w' => e = .returned (.int .i64 (firstNil s)) ∧ Gr w w' := by
  have HB := Lib.hid h
  clear h
  go_enter Tryz.func154, Tryz.ntmps154
  go_wp2_with fail
  go_loopw [8] (fun i wr => ∃ k : Nat, i = .int .i64 k ∧ k ≤ 4 ∧ Gr w wr ∧ ∀ j, j < k → (atI s j).1 ≠ 0) (fun i _ => 5 - (intOf i).toNat)
  case atStart => exact ⟨0, rfl, by omega, Gr.refl _, fun j h => by omega⟩
  case round =>
    obtain ⟨k, rfl, hk, hg, hno⟩ := hrel
    have HG := Lib.hid hg; have HNo := Lib.hid hno
    clear hg hno
    have hkI : (k : Int) ≤ 4 := by omega
    by_cases hlt : k < 4
    · have hltI : (k : Int) < 4 := by omega
      have b2 := HB.out.adds HG.out.adds
      have c : ∀ q, q < 4 → wr.cell? ⟨g, k * 4 + q, none⟩ = (ptC (atI s k))[q]? := fun q hq => (b2.cell _).trans (flatI_get _ k q hq (by simpa [all4] using hlt))
      have c0 := c 0 (by omega); have c1 := c 1 (by omega); have c2 := c 2 (by omega); have c3 := c 3 (by omega)
      have HN := Lib.hid (isNil_any (atI s k) wr)
      simp only [ptC, List.getElem?_cons_zero, List.getElem?_cons_succ, Nat.add_zero] at c0 c1 c2 c3 HN
      have HLt := Lib.hid hlt; have HK := Lib.hid hk
      clear c b2 hlt hk
      obtain ⟨x0, hx0⟩ : ∃ x, slotV (atI s k).1 = x := ⟨_, rfl⟩
      obtain ⟨x1, hx1⟩ : ∃ x, widN (atI s k).2 = x := ⟨_, rfl⟩
      obtain ⟨x2, hx2⟩ : ∃ x, fnV (getF (atI s k).2) = x := ⟨_, rfl⟩
      obtain ⟨x3, hx3⟩ : ∃ x, fnV (putF (atI s k).2) = x := ⟨_, rfl⟩
      rw [hx0, hx1, hx2, hx3] at HN
      rw [hx0] at c0; rw [hx1] at c1; rw [hx2] at c2; rw [hx3] at c3
      clear hx0 hx1 hx2 hx3
      cases hz : ((atI s k).1 == 0)
      · rw [hz] at HN
        have HZ := Lib.hid hz
        clear hz
        go_wp2_with (go_at_call 153; refine HN.out.mono ?_; rintro e w2 ⟨rfl, q⟩; have HG2 := Lib.hid (HG.out.trans q); clear q)
        go_roundw
        case rel => exact ⟨k + 1, rfl, HLt.out, HG2.out, fun j hj => by
          by_cases e : j = k
          · subst e; have := HZ.out; simpa using this
          · exact HNo.out j (by omega)⟩
        case measure => simp [intOf]; have := HLt.out; omega
      · rw [hz] at HN
        have HZ := Lib.hid hz
        clear hz
        go_wp2_with (go_at_call 153; refine HN.out.mono ?_; rintro e w2 ⟨rfl, q⟩; have HG2 := Lib.hid (HG.out.trans q); clear q)
        go_ret
        exact ⟨by rw [firstNil_at HLt.out HNo.out (by have := HZ.out; simpa using this)]; rfl, HG2.out⟩
    · obtain rfl : k = 4 := by omega
      go_wp2_with fail
      go_ret
      exact ⟨by rw [firstNil_none HNo.out]; rfl, HG.out⟩
end Go.Proofs.YthhegcngkpfcoaaGreat
