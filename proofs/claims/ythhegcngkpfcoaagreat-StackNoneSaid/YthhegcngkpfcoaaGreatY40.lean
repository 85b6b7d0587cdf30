/- Merged: ZPl, Z12. -/
import Derived.Test.YthhegcngkpfcoaaGreatY33
import Derived.Test.YthhegcngkpfcoaaGreatY15
import Derived.Test.YthhegcngkpfcoaaGreatY22
import Derived.Test.YthhegcngkpfcoaaGreatY38
import Derived.Test.YthhegcngkpfcoaaGreatY39
namespace Go.Proofs.YthhegcngkpfcoaaGreat
open Go Go.RowKit

/-- What an Op's registers are, and its number. -/
structure OpF (x : In) (r : Int) : Prop where
  o1 : x.1 = 1 → 0 ≤ x.2.1 ∧ x.2.1 < r
  o2 : x.1 = 2 → (0 ≤ x.2.1 ∧ x.2.1 < r) ∧ 0 ≤ x.2.2.1 ∧ x.2.2.1 < r
  o3 : x.1 = 3 → (0 ≤ x.2.1 ∧ x.2.1 < r) ∧ (0 ≤ x.2.2.1 ∧ x.2.2.1 < r) ∧ (0 ≤ x.2.2.2.1 ∧ x.2.2.2.1 < r) ∧ 1 ≤ x.2.2.2.2 ∧ x.2.2.2.2 ≤ 12
  o5 : x.1 = 5 → 0 ≤ x.2.1 ∧ x.2.1 < r
  o8 : x.1 = 8 → (0 ≤ x.2.1 ∧ x.2.1 < r) ∧ 0 ≤ x.2.2.1 ∧ 0 ≤ x.2.2.2.1 ∧ x.2.2.1 + x.2.2.2.1 ≤ r
  o9 : x.1 = 9 → 0 ≤ x.2.1 ∧ x.2.1 < r
  op : 1 ≤ x.1 ∧ x.1 ≤ 19
  im : 0 ≤ x.2.2.2.2 ∧ x.2.2.2.2 < 4294967296
end Go.Proofs.YthhegcngkpfcoaaGreat
namespace Go.Proofs.YthhegcngkpfcoaaGreat
open Go Go.RowKit Go.Shelf

/-- A pile whose frames, without where they lie, are these. -/
def PileP (t : TypeId) (n : Nat) (w : World) (b : Nat) (p : Pg) (L : List Fr) (res : UInt32) : Prop := ∃ fv lv R, PileO t n w b p fv lv R res ∧ R.map Prod.fst = L
def putW (d : Int) (u : UInt32) (x : Fr) : Fr := if d = -1 then x else (x.1, x.2.1, x.2.2.1, x.2.2.2.set d.toNat u)
theorem putR_fst (d : Int) (u : UInt32) (x : Fr × Value) : (putR d u x).1 = putW d u x.1 := by unfold putR putW; split <;> rfl
/-- What a local operation leaves: frames, the result, an error. -/
def deedP (p : Pg) (L : List Fr) (x : Fr) (i : In) (res : UInt32) : List Fr × UInt32 × Int :=
  if i.1 = 1 then (L ++ [(x.1, x.2.1 + 1, x.2.2.1, x.2.2.2.set i.2.1.toNat (UInt32.ofNat i.2.2.2.2.toNat))], res, 0)
  else if i.1 = 2 then (L ++ [(x.1, x.2.1 + 1, x.2.2.1, x.2.2.2.set i.2.1.toNat (x.2.2.2.getD i.2.2.1.toNat 0))], res, 0)
  else if i.1 = 3 then (if (doX i.2.2.2.2 (x.2.2.2.getD i.2.2.1.toNat 0).toNat (x.2.2.2.getD i.2.2.2.1.toNat 0).toNat).2 = 0 then (L ++ [(x.1, x.2.1 + 1, x.2.2.1, x.2.2.2.set i.2.1.toNat (UInt32.ofNat (doX i.2.2.2.2 (x.2.2.2.getD i.2.2.1.toNat 0).toNat (x.2.2.2.getD i.2.2.2.1.toNat 0).toNat).1))], res, 0)
    else (L ++ [x], res, (doX i.2.2.2.2 (x.2.2.2.getD i.2.2.1.toNat 0).toNat (x.2.2.2.getD i.2.2.2.1.toNat 0).toNat).2))
  else if i.1 = 4 then (L ++ [(x.1, i.2.2.2.2.toNat, x.2.2.1, x.2.2.2)], res, 0)
  else if i.1 = 5 then (L ++ [(x.1, if x.2.2.2.getD i.2.1.toNat 0 = 0 then x.2.1 + 1 else i.2.2.2.2.toNat, x.2.2.1, x.2.2.2)], res, 0)
  else if i.1 = 8 then ((L ++ [(x.1, x.2.1 + 1, x.2.2.1, x.2.2.2)]) ++ [(i.2.2.2.2.toNat, 0, i.2.1, newR ((x.2.2.2.drop i.2.2.1.toNat).take i.2.2.2.1.toNat) (p.1.getD i.2.2.2.2.toNat zF).1.toNat)], res, 0)
  else if i.1 = 9 then (match L.getLast? with
    | none => ([], x.2.2.2.getD i.2.1.toNat 0, 0)
    | some y => (L.dropLast ++ [putW x.2.2.1 (x.2.2.2.getD i.2.1.toNat 0) y], res, 0))
  else (L ++ [(x.1, x.2.1 + 1, x.2.2.1, x.2.2.2)], res, 0)
/-- What of the program and the frames an operation under way is told of. -/
structure DeedOk (p : Pg) (L : List Fr) (x : Fr) (i : In) : Prop where
  ok : ∀ f ∈ p.1, ∀ i ∈ f.2, OkIn i
  op : OpF i x.2.2.2.length
  rs : x.2.2.2 ≠ []
  pc : x.2.1 < 9223372036854775807
  deep : L.length < 1000000
  call : i.1 = 8 → i.2.2.2.2.toNat < p.1.length ∧ 0 ≤ (p.1.getD i.2.2.2.2.toNat zF).1 ∧ (p.1.getD i.2.2.2.2.toNat zF).1 ≤ 65536 ∧ i.2.2.2.1 ≤ (p.1.getD i.2.2.2.2.toNat zF).1
  dest : ∀ y, L.getLast? = some y → x.2.2.1 = -1 ∨ 0 ≤ x.2.2.1 ∧ x.2.2.1 < y.2.2.2.length
  loc : localB i.1 = true
section
variable {t : TypeId} {n b g cap : Nat} {w : World} {p : Pg} {fv lv : Value} {R : List (Fr × Value)} {x : Fr} {rv : Value} {res : UInt32}
def DeedE (t : TypeId) (n : Nat) (w : World) (b : Nat) (p : Pg) (q : List Fr × UInt32 × Int) (e : Ending) (w' : World) : Prop :=
  (q.2.2 = 0 → e = .returned (.tuple #[]) ∧ PileP t n w' b p q.1 q.2.1 ∧ Low n w w') ∧ (q.2.2 ≠ 0 → e = .panicked [{ v := refuV q.2.2, recovered := false }] ∧ Adds w w')
theorem DeedE.done {q : List Fr × UInt32 × Int} {e : Ending} {w' : World} (hq : q.2.2 = 0) (h : e = .returned (.tuple #[]) ∧ PileP t n w' b p q.1 q.2.1 ∧ Low n w w') : DeedE t n w b p q e w' := ⟨fun _ => h, fun h0 => absurd hq h0⟩
theorem deed_any (h : TopO t n w b p fv g cap R (x, rv) res) (i : In) (hD : DeedOk p (R.map Prod.fst) x i) :
    Calls Tryz.prog (deedF i.1.toNat) #[.pointer (some ⟨b, 0, none⟩), insV i] w (DeedE t n w b p (deedP p (R.map Prod.fst) x i res)) := by
  obtain ⟨f, pc, d, rs⟩ := x
  obtain ⟨i0, i1, i2, i3, i4⟩ := i
  obtain ⟨hok, hop, hrs, hpc, hdeep, hcall, hdest, hloc⟩ := hD
  simp only at hop hrs hpc hcall hdest hloc ⊢
  have him := hop.im
  simp only at him
  obtain ⟨k, rfl⟩ : ∃ k : Nat, i4 = k := ⟨i4.toNat, by omega⟩
  have hk : k < 4294967296 := by omega
  have hu : ((UInt32.ofNat k).toNat : Nat) = k := by rw [UInt32.toNat_ofNat']; omega
  unfold localB at hloc
  simp only [List.mem_cons, List.not_mem_nil, or_false, decide_eq_true_eq] at hloc
  have one : ∀ {W' : World} {y : Fr} {g' cap' : Nat} {rv' : Value}, TopO t n W' b p fv g' cap' R (y, rv') res → PileP t n W' b p (R.map Prod.fst ++ [y]) res := fun hT => ⟨_, _, _, hT, by simp⟩
  rcases hloc with rfl | rfl | rfl | rfl | rfl | rfl | rfl | rfl
  · have o := hop.o1 rfl
    simp only at o
    have hC := constantS_any h hpc 1 i1 i2 i3 o (UInt32.ofNat k)
    rw [hu] at hC
    refine hC.mono ?_
    rintro e w' ⟨rfl, hT, hb⟩
    exact DeedE.done (by simp [deedP]) ⟨rfl, by simpa [deedP] using one hT, hb⟩
  · have o := hop.o2 rfl
    simp only at o
    refine (moveS_any h hpc 2 i1 i2 i3 k o.1 o.2).mono ?_
    rintro e w' ⟨rfl, hT, hb⟩
    exact DeedE.done (by simp [deedP]) ⟨rfl, by simpa [deedP] using one hT, hb⟩
  · have o := hop.o3 rfl
    simp only at o
    refine (reckonS_any h hpc 3 i1 i2 i3 k (by omega) o.1 o.2.1 o.2.2.1 _ rfl).mono ?_
    rintro e w' ⟨hy, hn⟩
    by_cases h0 : (doX (k : Int) (rs.getD i2.toNat 0).toNat (rs.getD i3.toNat 0).toNat).2 = 0
    · obtain ⟨he, hT, hb⟩ := hy h0
      have e1 : deedP p (R.map Prod.fst) (f, pc, d, rs) (3, i1, i2, i3, (k : Int)) res = (R.map Prod.fst ++ [(f, pc + 1, d, rs.set i1.toNat (UInt32.ofNat (doX k (rs.getD i2.toNat 0).toNat (rs.getD i3.toNat 0).toNat).1))], res, 0) := by
        unfold deedP
        simp only
        rw [if_neg (by decide), if_neg (by decide), if_pos trivial, if_pos h0]
      rw [e1]
      exact DeedE.done rfl ⟨he, one hT, hb⟩
    · have e1 : deedP p (R.map Prod.fst) (f, pc, d, rs) (3, i1, i2, i3, (k : Int)) res = (R.map Prod.fst ++ [(f, pc, d, rs)], res, (doX k (rs.getD i2.toNat 0).toNat (rs.getD i3.toNat 0).toNat).2) := by
        unfold deedP
        simp only
        rw [if_neg (by decide), if_neg (by decide), if_pos trivial, if_neg h0]
      rw [e1]
      exact ⟨fun h => absurd h h0, fun _ => hn h0⟩
  · refine (jumpS_any h 4 i1 i2 i3 k hk).mono ?_
    rintro e w' ⟨rfl, hT, hb⟩
    exact DeedE.done (by simp [deedP]) ⟨rfl, by simpa [deedP] using one hT, hb⟩
  · have o := hop.o5 rfl
    simp only at o
    refine (branchS_any h hpc 5 i1 i2 i3 k hk o).mono ?_
    rintro e w' ⟨rfl, hT, hb⟩
    exact DeedE.done (by simp [deedP]) ⟨rfl, by simpa [deedP] using one hT, hb⟩
  · have o := hop.o8 rfl
    simp only at o
    obtain ⟨c1, c2, c3, c4⟩ := hcall rfl
    simp only [Int.toNat_natCast] at c1 c2 c3 c4
    obtain ⟨r, hr⟩ : ∃ r : Nat, (p.1.getD k zF).1 = r := ⟨(p.1.getD k zF).1.toNat, by omega⟩
    rw [hr] at c2 c3 c4
    refine (callS_any h hok hpc (by simpa using hdeep) 8 i1 i2 i3 k hrs ⟨o.2.1, o.2.2.1, o.2.2.2⟩ c1 hk r hr (by omega) c4).mono ?_
    rintro e w' ⟨rfl, ⟨lv', rv', hT⟩, hb⟩
    have e1 : deedP p (R.map Prod.fst) (f, pc, d, rs) (8, i1, i2, i3, (k : Int)) res = ((R.map Prod.fst ++ [(f, pc + 1, d, rs)]) ++ [(k, 0, i1, newR ((rs.drop i2.toNat).take i3.toNat) r)], res, 0) := by
      unfold deedP
      simp only [Int.toNat_natCast, hr]
      rfl
    rw [e1]
    exact DeedE.done rfl ⟨rfl, ⟨_, _, _, hT, by simp⟩, hb⟩
  · have o := hop.o9 rfl
    simp only at o
    rcases List.eq_nil_or_concat R with rfl | ⟨R', y, rfl⟩
    · refine (leaveS_end h 9 i1 i2 i3 k o).mono ?_
      rintro e w' ⟨rfl, hT, hb⟩
      exact DeedE.done (by simp [deedP]) ⟨rfl, ⟨_, _, _, by simpa [deedP] using hT, by simp [deedP]⟩, hb⟩
    · rw [List.concat_eq_append] at h hdest ⊢
      refine (leaveS_on h (hdest y.1 (by simp)) 9 i1 i2 i3 k o).mono ?_
      rintro e w' ⟨rfl, hT, hb⟩
      have e1 : deedP p ((R' ++ [y]).map Prod.fst) (f, pc, d, rs) (9, i1, i2, i3, (k : Int)) res = (R'.map Prod.fst ++ [putW d (rs.getD i1.toNat 0) y.1], res, 0) := by
        unfold deedP
        simp
      rw [e1]
      exact DeedE.done rfl ⟨rfl, ⟨_, _, _, hT, by simp [putR_fst]⟩, hb⟩
  · refine (yieldS_any h hpc 19 i1 i2 i3 k).mono ?_
    rintro e w' ⟨rfl, hT, hb⟩
    exact DeedE.done (by simp [deedP]) ⟨rfl, by simpa [deedP] using one hT, hb⟩
theorem enter_deed (k : Nat) (hk : k ∈ ([1, 2, 3, 4, 5, 8, 9, 19] : List Nat)) (u v : Value) (w : World) : (callFunc (deedF k) #[u, v]).run Tryz.prog w = .ok (.enter (deedF k) #[u, v]) w := by
  simp only [List.mem_cons, List.not_mem_nil, or_false] at hk
  rcases hk with rfl | rfl | rfl | rfl | rfl | rfl | rfl | rfl
  · exact enters_of Tryz.func71 (by kernel_rfl) rfl _ _
  · exact enters_of Tryz.func72 (by kernel_rfl) rfl _ _
  · exact enters_of Tryz.func73 (by kernel_rfl) rfl _ _
  · exact enters_of Tryz.func74 (by kernel_rfl) rfl _ _
  · exact enters_of Tryz.func75 (by kernel_rfl) rfl _ _
  · exact enters_of Tryz.func76 (by kernel_rfl) rfl _ _
  · exact enters_of Tryz.func77 (by kernel_rfl) rfl _ _
  · exact enters_of Tryz.func78 (by kernel_rfl) rfl _ _
end
end Go.Proofs.YthhegcngkpfcoaaGreat
