/- Merged: MR4. -/
import Derived.Test.YthhegcngkpfcoaaGreatDoorF29
import Derived.Test.YthhegcngkpfcoaaGreatDoorF31
import Derived.Test.YthhegcngkpfcoaaGreatDoorF39
import Derived.Test.YthhegcngkpfcoaaGreatDoorF46
import Derived.Test.YthhegcngkpfcoaaGreatDoorF45
namespace Go.Proofs.YthhegcngkpfcoaaGreatDoor
open Go Go.RowKit Go.Shelf Go.Lib

theorem numQ_le {l : List UInt8} {s : St} {wd : Nat} (h : s.1 ≤ l.length) : (numQ l s wd).1.1 ≤ l.length := by
  unfold numQ
  split
  · split
    · exact h
    · simp only; omega
  · exact h
theorem numQ_lt {l : List UInt8} {s : St} : (numQ l s 1).2 < 256 := by
  unfold numQ
  split
  · split
    · simp
    · rename_i h
      have h0 := unB_lt ((l.drop s.1).take 1)
      have h1 : 256 ^ ((l.drop s.1).take 1).length ≤ 256 ^ 1 := Nat.pow_le_pow_right (by omega) (by simp; omega)
      simp only; omega
  · simp
theorem begS_le {l : List UInt8} {s : St} {c : UInt8} (h : s.1 ≤ l.length) : (begS l s c).1 ≤ l.length := by
  unfold begS
  split
  · exact numQ_le h
  · exact numQ_le h
theorem begQ_le {l : List UInt8} : ∀ (cs : List UInt8) (s : St), s.1 ≤ l.length → (begQ l cs s).1 ≤ l.length
  | [], _, h => h
  | _ :: cs, _, h => begQ_le cs _ (begS_le h)
theorem begQ_snoc {l : List UInt8} : ∀ (cs : List UInt8) (c : UInt8) (s : St), begQ l (cs ++ [c]) s = begS l (begQ l cs s) c
  | [], _, _ => rfl
  | _ :: cs, c, _ => begQ_snoc cs c _
/-- What stands while an image is read. -/
structure PSt (w : World) (v : Value) (s : St) (pv : Value) (y1 y2 y3 : Int) (w' : World) : Prop where
  rd : BkS 75 w' w.heap.size (rnC v s.1 s.2)
  r2 : BkS 75 w' (w.heap.size + 1) (rnC (.slice none 0 0) 0 0)
  p2 : BkS 24 w' (w.heap.size + 1 + 1) [.slice none 0 0, .int .i64 0, .int .i64 0, .int .i64 0]
  pg : BkS 24 w' (w.heap.size + 1 + 1 + 1) [pv, .int .i64 y1, .int .i64 y2, .int .i64 y3]
  ad : Adds w w'
section
variable {w : World} {v : Value} {s : St} {pv : Value} {y1 y2 y3 : Int} {w' : World}
theorem PSt.adds {w2 : World} (h : PSt w v s pv y1 y2 y3 w') (ha : Adds w' w2) : PSt w v s pv y1 y2 y3 w2 :=
  ⟨h.rd.adds ha, h.r2.adds ha, h.p2.adds ha, h.pg.adds ha, h.ad.trans ha⟩
theorem PSt.put (h : PSt w v s pv y1 y2 y3 w') (k : Nat) (b : Int) : PSt w v (k, b) pv y1 y2 y3 (((w'.setCell ⟨w.heap.size, 0, none⟩ v).setCell ⟨w.heap.size, 1, none⟩ (.int .i64 (k : Int))).setCell ⟨w.heap.size, 2, none⟩ (.int .i64 b)) :=
  ⟨((h.rd.set 0 v).set 1 _).set 2 _, ((h.r2.other (by omega) _).other (by omega) _).other (by omega) _, ((h.p2.other (by omega) _).other (by omega) _).other (by omega) _, ((h.pg.other (by omega) _).other (by omega) _).other (by omega) _, Adds.set (Adds.set (Adds.set h.ad (Nat.le_refl _) _ _) (Nat.le_refl _) _ _) (Nat.le_refl _) _ _⟩
theorem PSt.bad (h : PSt w v s pv y1 y2 y3 w') (b : Int) : PSt w v (s.1, b) pv y1 y2 y3 (w'.setCell ⟨w.heap.size, 2, none⟩ (.int .i64 b)) :=
  ⟨h.rd.set 2 _, h.r2.other (by omega) _, h.p2.other (by omega) _, h.pg.other (by omega) _, Adds.set h.ad (Nat.le_refl _) _ _⟩
theorem PSt.y (h : PSt w v s pv y1 y2 y3 w') (c : Int) :
    PSt w v s pv c y2 y3 (w'.setCell ⟨w.heap.size + 1 + 1 + 1, 1, none⟩ (.int .i64 c)) ∧ PSt w v s pv y1 c y3 (w'.setCell ⟨w.heap.size + 1 + 1 + 1, 2, none⟩ (.int .i64 c)) ∧ PSt w v s pv y1 y2 c (w'.setCell ⟨w.heap.size + 1 + 1 + 1, 3, none⟩ (.int .i64 c)) :=
  ⟨⟨h.rd.other (by omega) _, h.r2.other (by omega) _, h.p2.other (by omega) _, h.pg.set 1 _, Adds.set h.ad (by omega) _ _⟩, ⟨h.rd.other (by omega) _, h.r2.other (by omega) _, h.p2.other (by omega) _, h.pg.set 2 _, Adds.set h.ad (by omega) _ _⟩, ⟨h.rd.other (by omega) _, h.r2.other (by omega) _, h.p2.other (by omega) _, h.pg.set 3 _, Adds.set h.ad (by omega) _ _⟩⟩
end
theorem put_tn (w' : World) (b : Nat) (x y z : Value) : TnS b w' (((w'.setCell ⟨b, 0, none⟩ x).setCell ⟨b, 1, none⟩ y).setCell ⟨b, 2, none⟩ z) := ((TnS.setCell _ _ _ _).trans (TnS.setCell _ _ _ _)).trans (TnS.setCell _ _ _ _)
theorem insQ_le {l : List UInt8} {s : St} (h : s.1 ≤ l.length) : (insQ l s).1.1 ≤ l.length := by
  unfold insQ
  split
  · have := readI_le (l.drop s.1)
    rw [List.length_drop] at this
    simp only; omega
  · exact h
theorem four_row (w : World) (a b c d : List Value) (s t u x : TypeId) :
    BkS s ((((w.alloc (.cells a.toArray s)).alloc (.cells b.toArray t)).alloc (.cells c.toArray u)).alloc (.cells d.toArray x)) w.heap.size a ∧ BkS t ((((w.alloc (.cells a.toArray s)).alloc (.cells b.toArray t)).alloc (.cells c.toArray u)).alloc (.cells d.toArray x)) (w.heap.size + 1) b ∧ BkS u ((((w.alloc (.cells a.toArray s)).alloc (.cells b.toArray t)).alloc (.cells c.toArray u)).alloc (.cells d.toArray x)) (w.heap.size + 1 + 1) c ∧ BkS x ((((w.alloc (.cells a.toArray s)).alloc (.cells b.toArray t)).alloc (.cells c.toArray u)).alloc (.cells d.toArray x)) (w.heap.size + 1 + 1 + 1) d := by
  obtain ⟨h1, h2, h3⟩ := three_row w a b c s t u
  refine ⟨h1.adds (Adds.new _ _), h2.adds (Adds.new _ _), h3.adds (Adds.new _ _), ?_⟩
  have h := BkS.new x (((w.alloc (.cells a.toArray s)).alloc (.cells b.toArray t)).alloc (.cells c.toArray u)) d
  simpa using h
theorem PSt.start (w : World) (v : Value) : PSt w v (0, 0) (.slice none 0 0) 0 0 0 ((((w.alloc (.cells #[v, .int .i64 0, .int .i64 0] 75)).alloc (.cells #[.slice none 0 0, .int .i64 0, .int .i64 0] 75)).alloc (.cells #[.slice none 0 0, .int .i64 0, .int .i64 0, .int .i64 0] 24)).alloc (.cells #[.slice none 0 0, .int .i64 0, .int .i64 0, .int .i64 0] 24)) := by
  obtain ⟨h1, h2, h3, h4⟩ := four_row w [v, .int .i64 0, .int .i64 0] [.slice none 0 0, .int .i64 0, .int .i64 0] [.slice none 0 0, .int .i64 0, .int .i64 0, .int .i64 0] [.slice none 0 0, .int .i64 0, .int .i64 0, .int .i64 0] 75 75 24 24
  exact ⟨h1, h2, h3, h4, Adds.trans (Adds.trans (two_adds _ _ _) (Adds.new _ _)) (Adds.new _ _)⟩
/-- A function under way, in the document's reader. -/
structure ISt (w w0 : World) (v : Value) (s : St) (pv : Value) (y1 y2 y3 : Int) (bf : Nat) (r : Int) (cv : Value) (c : List In) (wr : World) : Prop where
  ps : PSt w v s pv y1 y2 y3 wr
  bx : BkS 55 wr bf [.int .i64 r, cv]
  ow : CodeO bf wr cv c
  tn : TnS w.heap.size w0 wr
  hb : w0.heap.size = bf
  hr : w.heap.size + 3 < bf
section
variable {w w0 : World} {v : Value} {s : St} {pv : Value} {y1 y2 y3 : Int} {bf : Nat} {r : Int} {cv : Value} {c : List In} {wr : World}
theorem ISt.adds {w2 : World} (h : ISt w w0 v s pv y1 y2 y3 bf r cv c wr) (ha : Adds wr w2) : ISt w w0 v s pv y1 y2 y3 bf r cv c w2 :=
  ⟨h.ps.adds ha, h.bx.adds ha, h.ow.adds ha, h.tn.trans (TnS.of_adds _ ha), h.hb, h.hr⟩
theorem ISt.put (h : ISt w w0 v s pv y1 y2 y3 bf r cv c wr) (k : Nat) (b : Int) : ISt w w0 v (k, b) pv y1 y2 y3 bf r cv c (((wr.setCell ⟨w.heap.size, 0, none⟩ v).setCell ⟨w.heap.size, 1, none⟩ (.int .i64 (k : Int))).setCell ⟨w.heap.size, 2, none⟩ (.int .i64 b)) := by
  have hr := h.hr
  have t : TnS w.heap.size wr (((wr.setCell ⟨w.heap.size, 0, none⟩ v).setCell ⟨w.heap.size, 1, none⟩ (.int .i64 (k : Int))).setCell ⟨w.heap.size, 2, none⟩ (.int .i64 b)) :=
    ((TnS.setCell _ _ _ _).trans (TnS.setCell _ _ _ _)).trans (TnS.setCell _ _ _ _)
  exact ⟨h.ps.put k b, h.bx.tn t (by omega), h.ow.tn t (by omega), h.tn.trans t, h.hb, h.hr⟩
theorem ISt.far (h : ISt w w0 v s pv y1 y2 y3 bf r cv c wr) {kz i : Nat} (u : Value) (h1 : bf < kz) (h2 : cv.ownBlock ≠ some kz) : ISt w w0 v s pv y1 y2 y3 bf r cv c (wr.setCell ⟨kz, i, none⟩ u) := by
  have hr := h.hr
  have hb := h.hb
  have p := h.ps
  exact ⟨⟨p.rd.other (by omega) _, p.r2.other (by omega) _, p.p2.other (by omega) _, p.pg.other (by omega) _, Adds.set p.ad (by omega) _ _⟩, h.bx.other (by omega) _, ownsRow_tn h.ow (TnS.setCell _ _ _ _) h2, h.tn.mine (by omega) (TnS.setCell _ _ _ _), h.hb, h.hr⟩
theorem ISt.app {w' : World} {cv' : Value} {c' : List In} (h : ISt w w0 v s pv y1 y2 y3 bf r cv c wr) (hg : wr.grownBy w' cv.ownBlock) (ho : CodeO bf w' cv' c') :
    ISt w w0 v s pv y1 y2 y3 bf r cv' c' (w'.setCell ⟨bf, 1, none⟩ cv') := by
  have hr := h.hr
  have hb := h.hb
  have p := h.ps
  have hne : ∀ c, cv.ownBlock = some c → w0.heap.size ≤ c := fun c e => by have := (World.ownsRow.lt h.ow c e).1; omega
  have b1 : Adds w w' := ⟨hg.os.trans p.ad.os, hg.tape.trans p.ad.tape, hg.output.trans p.ad.output, Nat.le_trans p.ad.size hg.size, fun i hi => (hg.block i (Nat.lt_of_lt_of_le hi p.ad.size) (fun e => by have := hne i e.symm; omega)).trans (p.ad.block i hi)⟩
  have bx := h.bx.grown hg (own_neT h.ow h.bx (by decide))
  have rd := p.rd.grown hg (own_neT h.ow p.rd (by decide))
  have r2 := p.r2.grown hg (own_neT h.ow p.r2 (by decide))
  have p2 := p.p2.grown hg (own_neT h.ow p.p2 (by decide))
  have pg := p.pg.grown hg (own_neT h.ow p.pg (by decide))
  have hnf : cv'.ownBlock ≠ some bf := own_neT ho bx (by decide)
  exact ⟨⟨rd.other (by omega) _, r2.other (by omega) _, p2.other (by omega) _, pg.other (by omega) _, Adds.set b1 (by omega) _ _⟩, bx.set 1 cv', ownsRow_tn ho (TnS.setCell _ _ _ _) hnf, (h.tn.grown hne hg).mine (by omega) (TnS.setCell _ _ _ _), hb, hr⟩
end
theorem numQ_lt2 {l : List UInt8} {s : St} : (numQ l s 2).2 < 65536 := by
  unfold numQ
  split
  · split
    · simp
    · rename_i h
      have h0 := unB_lt ((l.drop s.1).take 2)
      have h1 : 256 ^ ((l.drop s.1).take 2).length ≤ 256 ^ 2 := Nat.pow_le_pow_right (by omega) (by simp; omega)
      simp only; omega
  · simp
theorem insQ_okin {l : List UInt8} {k : Nat} (h : (insQ l (k, 0)).1.2 = 0) : OkIn (insQ l (k, 0)).2 := by
  unfold insQ at h ⊢
  rw [if_pos rfl] at h ⊢
  simp only at h ⊢
  have h0 : (readI (l.drop k)).2.2 = 0 := by
    split at h
    · cases h
    · split at h
      · assumption
      · cases h
  exact (rdok _ h0).2.1
theorem codeQ_okin {l : List UInt8} : ∀ (m : Nat) (s : St) (c : List In), (∀ x ∈ c, OkIn x) → (codeQ l m s c).1.2 = 0 → ∀ x ∈ (codeQ l m s c).2, OkIn x
  | 0, _, _, hc, _ => hc
  | m + 1, (k, e), c, hc, h => by
    by_cases he : e = 0
    · subst he
      rw [codeQ, if_pos rfl] at h ⊢
      by_cases h1 : (insQ l (k, 0)).1.2 = 0
      · refine codeQ_okin m _ _ (fun x hx => ?_) h
        rcases List.mem_append.1 hx with hx | hx
        · exact hc x hx
        · obtain rfl := List.mem_singleton.1 hx
          exact insQ_okin h1
      · exfalso
        obtain ⟨⟨⟨k1, e1⟩, x⟩, hX⟩ : ∃ X, insQ l (k, 0) = X := ⟨_, rfl⟩
        rw [hX] at h h1
        simp only at h h1
        rw [codeQ_bad m k1 _ h1] at h
        exact h1 h
    · rw [codeQ_bad _ k c he] at h
      exact absurd h he
theorem funcsQ_okin {l : List UInt8} : ∀ (m : Nat) (s : St) (c : List Fu), (∀ f ∈ c, ∀ x ∈ f.2, OkIn x) → (funcsQ l m s c).1.2 = 0 → ∀ f ∈ (funcsQ l m s c).2, ∀ x ∈ f.2, OkIn x
  | 0, _, _, hc, _ => hc
  | m + 1, (k, e), c, hc, h => by
    by_cases he : e = 0
    · subst he
      rw [funcsQ, if_pos rfl] at h ⊢
      by_cases h1 : (funcQ l (k, 0)).1.2 = 0
      · refine funcsQ_okin m _ _ (fun f hx => ?_) h
        rcases List.mem_append.1 hx with hx | hx
        · exact hc f hx
        · obtain rfl := List.mem_singleton.1 hx
          exact codeQ_okin _ _ [] (fun _ h => by cases h) h1
      · exfalso
        obtain ⟨⟨⟨k1, e1⟩, x⟩, hX⟩ : ∃ X, funcQ l (k, 0) = X := ⟨_, rfl⟩
        rw [hX] at h h1
        simp only at h h1
        rw [funcsQ_bad m k1 _ h1] at h
        exact h1 h
    · rw [funcsQ_bad _ k c he] at h
      exact absurd h he
theorem slice_preB (ao : Option Addr) (len cap m : Nat) (hm : m ≤ cap) (w : World) :
    (Instr.slice 27 (.slice ao len cap) none (some (.int .i64 (m : Int))) none).run Tryz.prog w = .ok (.slice ao m cap) w := by
  have h := run_slice_h (P := Tryz.prog) w 27 ao len cap (by kernel_rfl) .i64 m (by omega) (by omega)
  rw [h]
  have hs : (sizeOf (Tryz.prog.elem 27)).run Tryz.prog w = .ok 1 w := by
    obtain ⟨i0, hi, hz0, hz1, hz2⟩ := info_parts info8
    have e : Tryz.prog.elem 27 = 5 := by kernel_rfl
    rw [e]
    simp [sizeOf, typeInfo, hi, hz1]
  rw [hs]
  simp only [Result.andThen, sliced, Int.toNat_natCast, Nat.zero_mul, Nat.sub_zero]
  have ea : ao.map (·.add 0) = ao := by cases ao <;> simp [Addr.add]
  rw [ea]
  split <;> rfl
theorem str_neB {a b : List UInt8} (h : a ≠ b) : ((str a).toList == (str b).toList) = false := by
  rw [Lib.toList_data, Lib.toList_data]
  simpa [str] using h
theorem PSt.at1 {w : World} {v : Value} {s : St} {pv : Value} {y1 y2 y3 : Int} {w' : World} (h : PSt w v s pv y1 y2 y3 w') (k : Nat) : PSt w v (k, s.2) pv y1 y2 y3 (w'.setCell ⟨w.heap.size, 1, none⟩ (.int .i64 (k : Int))) :=
  ⟨h.rd.set 1 _, h.r2.other (by omega) _, h.p2.other (by omega) _, h.pg.other (by omega) _, Adds.set h.ad (Nat.le_refl _) _ _⟩
theorem PSt.app {w : World} {v : Value} {s : St} {pv pv' : Value} {y1 y2 y3 : Int} {wr w' : World} {fs fs' : List Fu} (h : PSt w v s pv y1 y2 y3 wr) (hown : CopyO (w.heap.size + 1 + 1 + 1 + 1) wr pv fs) (hg : wr.grownBy w' pv.ownBlock) (ho : CopyO (w.heap.size + 1 + 1 + 1 + 1) w' pv' fs') :
    PSt w v s pv' y1 y2 y3 (w'.setCell ⟨w.heap.size + 1 + 1 + 1, 0, none⟩ pv') ∧ CopyO (w.heap.size + 1 + 1 + 1 + 1) (w'.setCell ⟨w.heap.size + 1 + 1 + 1, 0, none⟩ pv') pv' fs' ∧ w'.cell? ⟨w.heap.size + 1 + 1 + 1, 0, none⟩ = some pv ∧ w'.frozen? ⟨w.heap.size + 1 + 1 + 1, 0, none⟩ = false := by
  have hne := hown.lt
  have b1 : Adds w w' := ⟨hg.os.trans h.ad.os, hg.tape.trans h.ad.tape, hg.output.trans h.ad.output, Nat.le_trans h.ad.size hg.size, fun i hi => (hg.block i (Nat.lt_of_lt_of_le hi h.ad.size) (fun e => by have := hne i e.symm; omega)).trans (h.ad.block i hi)⟩
  have rd := h.rd.grown hg (hown.neT h.rd (by decide))
  have r2 := h.r2.grown hg (hown.neT h.r2 (by decide))
  have p2 := h.p2.grown hg (hown.neT h.p2 (by decide))
  have pg := h.pg.grown hg (hown.neT h.pg (by decide))
  exact ⟨⟨rd.other (by omega) _, r2.other (by omega) _, p2.other (by omega) _, pg.set 0 pv', Adds.set b1 (by omega) _ _⟩, ho.blk pg (by decide) (by decide) (TnS.setCell _ _ _ _), pg.cell 0, pg.free 0⟩
end Go.Proofs.YthhegcngkpfcoaaGreatDoor
