/- Groups, plainly: counts; and in memory. -/
import Derived.Test.YtedllkahalfjgaaWMem
namespace Go.Proofs.Ytedllkahalfjgaa
open Go Go.RowKit

/-- The count at i, 0 of one that is not there. -/
def atQ (l : List Int) (i : Int) : Int := if 0 ≤ i ∧ i < l.length then l.getD i.toNat 0 else 0
def addE (l : List Int) (i n : Int) : Int := if 0 ≤ i ∧ i < l.length then (if -(atQ l i) ≤ n ∧ n ≤ 2147483647 - atQ l i then 0 else 250) else 4
def addL (l : List Int) (i n : Int) : List Int := if addE l i n = 0 then l.set i.toNat (atQ l i + n) else l
def addW (l : List Int) (i n : Int) : Int := if addE l i n = 0 then atQ l i + n else 0
def hasQ (l : List Int) (i : Int) : Bool := decide (0 ≤ i ∧ i < l.length)
def doneQ (l : List Int) (i : Int) : Bool := hasQ l i && decide (atQ l i = 0)
def OkQ (l : List Int) : Prop := ∀ x ∈ l, 0 ≤ x ∧ x ≤ 2147483647
theorem atQ_nat (l : List Int) (k : Nat) : atQ l (k : Int) = l.getD k 0 := by
  unfold atQ
  by_cases h : k < l.length
  · rw [if_pos ⟨by omega, by omega⟩, Int.toNat_natCast]
  · rw [if_neg (by omega), List.getD_eq_getElem?_getD, List.getElem?_eq_none (by omega)]
    rfl
theorem atQ_no {l : List Int} {i : Int} (h : ¬ (0 ≤ i ∧ i < l.length)) : atQ l i = 0 := by unfold atQ; rw [if_neg h]
theorem atQ_may {l : List Int} (h : OkQ l) (i : Int) : 0 ≤ atQ l i ∧ atQ l i ≤ 2147483647 := by
  unfold atQ
  split
  · rename_i hi
    have hk : i.toNat < l.length := by omega
    rw [List.getD_eq_getElem?_getD, List.getElem?_eq_getElem hk]
    exact h _ (List.getElem_mem hk)
  · omega
theorem addE_good {l : List Int} {i n : Int} (h : addE l i n = 0) : (0 ≤ i ∧ i < l.length) ∧ -(atQ l i) ≤ n ∧ n ≤ 2147483647 - atQ l i := by
  unfold addE at h
  split at h
  · rename_i h1
    split at h
    · rename_i h2; exact ⟨h1, h2⟩
    · omega
  · omega
theorem addL_len (l : List Int) (i n : Int) : (addL l i n).length = l.length := by unfold addL; split <;> simp
theorem addL_ok {l : List Int} (h : OkQ l) (i n : Int) : OkQ (addL l i n) := by
  unfold addL
  split
  · rename_i he
    obtain ⟨h1, h2, h3⟩ := addE_good he
    intro x hx
    rcases List.mem_or_eq_of_mem_set hx with h4 | rfl
    · exact h x h4
    · omega
  · exact h
theorem atQ_set {l : List Int} {k : Nat} (hk : k < l.length) (x : Int) : atQ (l.set k x) (k : Int) = x := by
  rw [atQ_nat, List.getD_eq_getElem?_getD, List.getElem?_set_self hk]
  rfl

/-! ### memory -/
def intQ (x : Int) : Value := .int .i64 x
def arrQ (l : List Int) : List Value := (l ++ List.replicate (64 - l.length) 0).map intQ
def cntC (l : List Int) : List Value := arrQ l ++ [.int .i64 ((l.length : Nat) : Int)]
theorem arrQ_len {l : List Int} (h : l.length ≤ 64) : (arrQ l).length = 64 := by unfold arrQ; simp; omega
theorem cntC_len {l : List Int} (h : l.length ≤ 64) : (cntC l).length = 65 := by unfold cntC; simp [arrQ_len h]
theorem arrQ_at {l : List Int} (h : l.length ≤ 64) {k : Nat} (hk : k < 64) : (arrQ l)[k]? = some (.int .i64 (l.getD k 0)) := by
  unfold arrQ
  rw [List.getElem?_map]
  by_cases h1 : k < l.length
  · rw [List.getElem?_append_left h1, List.getElem?_eq_getElem h1, List.getD_eq_getElem?_getD, List.getElem?_eq_getElem h1]; rfl
  · rw [List.getElem?_append_right (by omega), List.getElem?_replicate, if_pos (by omega), List.getD_eq_getElem?_getD, List.getElem?_eq_none (by omega)]; rfl
theorem cntC_at {l : List Int} (h : l.length ≤ 64) {k : Nat} (hk : k < 64) : (cntC l)[k]? = some (.int .i64 (l.getD k 0)) := by
  unfold cntC
  rw [List.getElem?_append_left (by rw [arrQ_len h]; exact hk), arrQ_at h hk]
theorem cntC_many {l : List Int} (h : l.length ≤ 64) : (cntC l)[64]? = some (.int .i64 ((l.length : Nat) : Int)) := by
  unfold cntC
  rw [List.getElem?_append_right (by rw [arrQ_len h]; omega), arrQ_len h]
  rfl
theorem cntC_set {l : List Int} (h : l.length ≤ 64) {k : Nat} (hk : k < l.length) (x : Int) : (cntC l).set k (.int .i64 x) = cntC (l.set k x) := by
  unfold cntC
  rw [List.set_append_left _ _ (by rw [arrQ_len h]; omega), List.length_set]
  congr 1
  unfold arrQ
  rw [List.length_set, ← List.set_append_left _ _ hk, List.map_set]
  rfl
theorem cntC_zero (n : Nat) (h : n ≤ 64) : cntC (List.replicate n 0) = List.replicate 64 (.int .i64 0) ++ [.int .i64 (n : Int)] := by
  unfold cntC arrQ
  rw [List.length_replicate, List.replicate_append_replicate, show n + (64 - n) = 64 by omega, List.map_replicate]
  rfl
theorem cntC_inj {l l' : List Int} (h : l.length ≤ 64) (h' : l'.length ≤ 64) (e : cntC l = cntC l') : l = l' := by
  have e1 := congrArg (fun x => x[64]?) e
  rw [cntC_many h, cntC_many h'] at e1
  simp only [Option.some.injEq, Value.int.injEq, true_and] at e1
  have hl : l.length = l'.length := by omega
  apply List.ext_getElem hl
  intro k h1 h2
  have e2 := congrArg (fun x => x[k]?) e
  rw [cntC_at h (by omega), cntC_at h' (by omega)] at e2
  simp only [Option.some.injEq, Value.int.injEq, true_and] at e2
  rw [List.getD_eq_getElem?_getD, List.getD_eq_getElem?_getD, List.getElem?_eq_getElem h1, List.getElem?_eq_getElem h2] at e2
  exact e2
/-- No groups: nil, or ones that New did not make. -/
def NoG (w : World) (v : Value) : Prop := v = .pointer none ∨ ∃ b, v = .pointer (some ⟨b, 0, none⟩) ∧ BkS 69 w b [.pointer none]
theorem NoG.adds {w w' : World} {v : Value} (h : NoG w v) (ha : Adds w w') : NoG w' v := h.imp id fun ⟨b, e, k⟩ => ⟨b, e, k.adds ha⟩
/-- Groups that read l: counts in a block of their own. -/
structure HolG (w : World) (v : Value) (bc : Nat) (l : List Int) : Prop where
  blk : ∃ bp, v = .pointer (some ⟨bp, 0, none⟩) ∧ BkS 69 w bp [.pointer (some ⟨bc, 0, none⟩)]
  cnt : BkS 115 w bc (cntC l)
  len : l.length ≤ 64
  ok : OkQ l
section
variable {w w' : World} {v : Value} {bc : Nat} {l : List Int}
theorem HolG.adds (h : HolG w v bc l) (ha : Adds w w') : HolG w' v bc l := ⟨let ⟨bp, e, k⟩ := h.blk; ⟨bp, e, k.adds ha⟩, h.cnt.adds ha, h.len, h.ok⟩
theorem BkS.same {t u : TypeId} {b : Nat} {c d : List Value} (h : BkS t w b c) (k : BkS u w b d) : t = u := by
  unfold BkS at h k
  rw [h] at k
  simp only [Option.some.injEq, Obj.cells.injEq] at k
  exact k.2.1
theorem BkS.apart {t u : TypeId} {b c : Nat} {d e : List Value} (h : BkS t w b d) (k : BkS u w c e) (ht : t ≠ u) : b ≠ c := fun hb => by
  subst hb
  exact ht (h.same k)
/-- A block turns that is not the counts'. -/
theorem HolG.turn (h : HolG w v bc l) {b : Nat} {l2 : List Int} (hb : BkS 115 w b (cntC l2)) (hne : bc ≠ b) (ht : TnS b w w') : HolG w' v bc l := by
  obtain ⟨bp, e, k⟩ := h.blk
  refine ⟨⟨bp, e, (ht.block bp k.lt (fun c => ?_)).trans k⟩, (ht.block bc h.cnt.lt (fun c => hne (Option.some.inj c))).trans h.cnt, h.len, h.ok⟩
  exact (k.apart hb (by decide)) (Option.some.inj c)
/-- Some other block's cell is written. -/
theorem HolG.far (h : HolG w v bc l) {t : TypeId} {b : Nat} {c : List Value} (hb : BkS t w b c) (h1 : t ≠ 69) (h2 : t ≠ 115) (i : Nat) (x : Value) : HolG (w.setCell ⟨b, i, none⟩ x) v bc l := by
  obtain ⟨bp, e, k⟩ := h.blk
  exact ⟨⟨bp, e, k.other (hb.apart k h1) x⟩, h.cnt.other (hb.apart h.cnt h2) x, h.len, h.ok⟩
/-- The counts' own block is written. -/
theorem HolG.put (h : HolG w v bc l) {k : Nat} (hk : k < l.length) {x : Int} (hx : 0 ≤ x ∧ x ≤ 2147483647) : HolG (w.setCell ⟨bc, k, none⟩ (.int .i64 x)) v bc (l.set k x) := by
  obtain ⟨bp, e, q⟩ := h.blk
  refine ⟨⟨bp, e, q.other (fun c => (q.apart h.cnt (by decide)) c.symm) _⟩, ?_, by simpa using h.len, fun y hy => ?_⟩
  · have := h.cnt.set k (.int .i64 x)
    rwa [cntC_set h.len hk] at this
  · rcases List.mem_or_eq_of_mem_set hy with h4 | rfl
    · exact h.ok y h4
    · exact hx
theorem HolG.c0 (h : HolG w v bc l) : ∃ bp, v = .pointer (some ⟨bp, 0, none⟩) ∧ w.cell? ⟨bp, 0, none⟩ = some (.pointer (some ⟨bc, 0, none⟩)) := let ⟨bp, e, k⟩ := h.blk; ⟨bp, e, k.cell 0⟩
theorem HolG.cell (h : HolG w v bc l) {k : Nat} (hk : k < 64) : w.cell? ⟨bc, k, none⟩ = some (.int .i64 (l.getD k 0)) := (h.cnt.cell k).trans (cntC_at h.len hk)
theorem HolG.many (h : HolG w v bc l) : w.cell? ⟨bc, 64, none⟩ = some (.int .i64 ((l.length : Nat) : Int)) := (h.cnt.cell 64).trans (cntC_many h.len)
end
/-- What turns a block's counts alone: another block stays. -/
theorem BkS.turnG {t : TypeId} {w w' : World} {b c : Nat} {d : List Value} {l : List Int} (h : BkS t w c d) (hb : BkS 115 w b (cntC l)) (ht : t ≠ 115) (k : TnS b w w') : BkS t w' c d := (k.block c h.lt (fun e => (h.apart hb ht) (Option.some.inj e))).trans h
end Go.Proofs.Ytedllkahalfjgaa
