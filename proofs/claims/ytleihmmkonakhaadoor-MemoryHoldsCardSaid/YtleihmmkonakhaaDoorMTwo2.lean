/- A store in a region that draws its order: what such a region may do to two memories. -/
import Derived.Test.YtleihmmkonakhaaDoorMTwo
import Derived.Test.YtleihmmkonakhaaDoorLoose2
namespace Go.Proofs.YtleihmmkonakhaaDoor
open Go Go.RowKit Go.Shelf Go.Maps

section
variable {P : Program} {ops : Array Oper} {C : World → Prop} {R : World → World → Prop} {keys : List Tmp} {F : Tmp → Value → World → Prop}
/-- A call that is handed one slot of which the predicate alone is known, and of whose value the predicate alone is known. -/
theorem stepL_key1 {o : Oper} {A : Act} {K : Act → Prop} {f : FuncId} (d0 d : Tmp) (args : Value → Array Value) (hd : o.dst = some d) (hk : isKey keys o = true) (hl : lk ops keys o = [d0])
    (hrun : ∀ w u, C w → F d0 u w → Region.wanted o (yielded ops (A.put (some d0) u).tmps) = true ∧ (execOp (A.put (some d0) u).eval o).run P w = .ok (.enter f (args u)) w)
    (hc : ∀ w u, C w → F d0 u w → Calls P f (args u) w fun e w' => ∃ x, e = .returned x ∧ F d x w' ∧ R w w') (h : K A) : stepL P ops C R keys F o A K := by
  unfold stepL
  rw [if_pos hk]
  refine ⟨fun w hcw => ?_, h⟩
  rw [hl, hd]
  intro u hu
  obtain ⟨h1, h2⟩ := hrun w u hcw hu
  refine ⟨h1, ?_⟩
  rw [h2]
  exact (hc w u hcw hu).mono fun e w' ⟨x, he, hf, hr⟩ => ⟨x, he, hf, hr⟩
end

def KeepA (x y : World) : Prop := ∀ (g : Nat) (vals : Array Value), x.heap[g]? = some (.cells vals 31 (0, 0)) → y.heap[g]? = some (.cells vals 31 (0, 0))
theorem KeepA.of_adds {x y : World} (h : Adds x y) : KeepA x y := fun g _ hg => (h.block g (Array.getElem?_eq_some_iff.1 hg).1).trans hg
theorem foot_not_cell {w : World} {b : Nat} {S : Nat → Nat} {L : List (Nat × Nat)} (h : MemL w b S L) {g : Nat} {vals : Array Value} (hg : w.heap[g]? = some (.cells vals 31 (0, 0))) : ¬ foot b L g := by
  rintro (rfl | hk)
  · obtain ⟨n, es, ⟨es0, clock, h0, _⟩, _⟩ := h.map
    rw [h0] at hg; cases hg
  · obtain ⟨x, hx, rfl⟩ := List.mem_map.1 hk
    have hp := (h.page x hx).2.1
    unfold PBlk at hp
    rw [hp] at hg
    have h2 : (76 : Nat) = 31 := by
      have := Option.some.inj hg
      injection this
    exact absurd h2 (by decide)
def flatC (l : List (Nat × Nat)) : Array Value := (l.flatMap fun x => [u32V x.1, u32V x.2]).toArray
theorem flatC_at : ∀ (l : List (Nat × Nat)) (i : Nat), i < l.length → (l.flatMap fun x => [u32V x.1, u32V x.2])[i * 2]? = some (u32V (l.getD i (0, 0)).1) ∧ (l.flatMap fun x => [u32V x.1, u32V x.2])[i * 2 + 1]? = some (u32V (l.getD i (0, 0)).2)
  | x :: t, 0, _ => by simp
  | x :: t, i + 1, h => by
    have ih := flatC_at t i (by simpa using h)
    simp only [List.flatMap_cons, List.cons_append, List.nil_append, List.getD_cons_succ]
    rw [show (i + 1) * 2 = i * 2 + 1 + 1 by omega]
    simpa using ih
theorem cells_flat {w : World} {g : Nat} {l : List (Nat × Nat)} (B : Nat → Prop) (hB : B g) (h : w.heap[g]? = some (.cells (flatC l) 31 (0, 0))) (hn : l.length ≤ 1000) : CellsW B w (.slice (some ⟨g, 0, none⟩) l.length l.length) l := by
  refine ⟨_, l.length, rfl, Nat.le_refl _, by unfold maxLen; omega, fun _ => ⟨g, 0, rfl, hB, fun i hi => ?_⟩⟩
  obtain ⟨h1, h2⟩ := flatC_at l i hi
  rw [cell_of_row w g _ _ _ _ h, cell_of_row w g _ _ _ _ h, Nat.zero_add]
  unfold flatC
  exact ⟨by simpa using h1, by simpa using h2⟩
theorem storeAll_in : ∀ (c : List (Nat × Nat)) (U V : Nat → Nat) (a : Nat), a ∈ c.map (·.1) → storeAll U c a = storeAll V c a
  | x :: t, U, V, a, h => by
    rw [storeAll_cons, storeAll_cons]
    by_cases hm : a ∈ t.map (·.1)
    · exact storeAll_in t _ _ a hm
    · rw [storeAll_not _ _ _ hm, storeAll_not _ _ _ hm]
      have : a = x.1 := by
        rcases List.mem_cons.1 h with h | h
        · exact h
        · exact absurd h hm
      simp [setW, this]
theorem storeAll_idem (U : Nat → Nat) (c : List (Nat × Nat)) : storeAll (storeAll U c) c = storeAll U c := by
  funext a
  by_cases h : a ∈ c.map (·.1)
  · exact storeAll_in c _ _ a h
  · rw [storeAll_not _ _ _ h]

theorem frm_keepA {w w' : World} {b : Nat} {S : Nat → Nat} {L : List (Nat × Nat)} (h : MemL w b S L) (f : Frm (foot b L) w w') : KeepA w w' := fun g _ hg =>
  (f.block g (Array.getElem?_eq_some_iff.1 hg).1 (foot_not_cell h hg)).trans hg
/-- A store into the second one, the cells in a block of cells. -/
theorem TwoM.storedA {w0 w : World} {vm vo : Value} {S T : Nat → Nat} {c : List (Nat × Nat)} {g : Nat} (h : TwoM w0 w vm vo S T) (hg : w.heap[g]? = some (.cells (flatC c) 31 (0, 0))) (hok : cellsOk c) (hn : c.length ≤ 1000) :
    Calls Tryd.prog 12 #[vo, .slice (some ⟨g, 0, none⟩) c.length c.length] w fun e w' => e = .returned (.int .i64 0) ∧ TwoM w0 w' vm vo S (storeAll T c) ∧ KeepA w w' := by
  obtain ⟨⟨bm, b, L, bo, bb, K, h1, h2, h3, h4, h5⟩, h6⟩ := h
  have hnf : ¬ footP bo bb K g := by
    rintro (rfl | hf)
    · rw [h2.cell] at hg
      have h9 : (52 : Nat) = 31 := by
        have := Option.some.inj hg
        injection this
      exact absurd h9 (by decide)
    · exact foot_not_cell h2.mem hg hf
  refine (storeM_any bo bb vo _ c T K w h2 (cells_flat _ hnf hg hn) hok).mono ?_
  rintro e w' ⟨he, K', m1, f1, n1⟩
  refine ⟨he, ⟨⟨bm, b, L, bo, bb, K', h1.frm f1 (fun k hk hf => h5 k hk (.inr hf)), m1, h3, fun k hk => ?_, fun k hk hf => ?_⟩, Frm.adds h6 f1 (fun i hi => h4 i (.inr hi))⟩, frm_keepA h2.mem f1⟩
  · rcases hk with rfl | hk
    · exact h4 _ (.inl rfl)
    · rcases n1 k hk with hk | hk
      · exact h4 k (.inr hk)
      · exact Nat.le_trans h6.size hk
  · rcases hf with rfl | hf
    · exact h5 _ hk (.inl rfl)
    · rcases n1 k hf with hf | hf
      · exact h5 k hk (.inr hf)
      · have := h1.foot_lt hk; omega

/-- What a region that stores c may do. -/
structure RelS (w0 : World) (vm vo : Value) (S T : Nat → Nat) (c : List (Nat × Nat)) (x y : World) : Prop where
  zero : TwoM w0 x vm vo S T → TwoM w0 y vm vo S T ∨ TwoM w0 y vm vo S (storeAll T c)
  one : TwoM w0 x vm vo S (storeAll T c) → TwoM w0 y vm vo S (storeAll T c)
  keep : KeepA x y
theorem RelS.of_adds {w0 : World} {vm vo : Value} {S T : Nat → Nat} {c : List (Nat × Nat)} {x y : World} (h : Adds x y) : RelS w0 vm vo S T c x y := ⟨fun hU => .inl (hU.adds h), fun hU => hU.adds h, KeepA.of_adds h⟩
theorem RelS.trans {w0 : World} {vm vo : Value} {S T : Nat → Nat} {c : List (Nat × Nat)} {x y z : World} (h : RelS w0 vm vo S T c x y) (k : RelS w0 vm vo S T c y z) : RelS w0 vm vo S T c x z :=
  ⟨fun hU => (h.zero hU).elim k.zero fun h1 => .inr (k.one h1), fun hU => k.one (h.one hU), fun g vals hg => k.keep g vals (h.keep g vals hg)⟩
/-- What is known of the slots of such a region: the slice d0, the answer d1. -/
def KeyS (d0 d1 : Nat) (w0 : World) (vm vo : Value) (S T : Nat → Nat) (c : List (Nat × Nat)) (d : Tmp) (u : Value) (w : World) : Prop :=
  (d = d0 → ∃ g, u = .slice (some ⟨g, 0, none⟩) c.length c.length ∧ w.heap[g]? = some (.cells (flatC c) 31 (0, 0))) ∧ (d = d1 → u = .int .i64 0 ∧ TwoM w0 w vm vo S (storeAll T c))
theorem KeyS.stay {d0 d1 : Nat} {w0 : World} {vm vo : Value} {S T : Nat → Nat} {c : List (Nat × Nat)} (d : Tmp) (u : Value) (x y : World) (h : RelS w0 vm vo S T c x y) (k : KeyS d0 d1 w0 vm vo S T c d u x) : KeyS d0 d1 w0 vm vo S T c d u y :=
  ⟨fun e => by obtain ⟨g, h1, h2⟩ := k.1 e; exact ⟨g, h1, h.keep g _ h2⟩, fun e => ⟨(k.2 e).1, h.one (k.2 e).2⟩⟩
theorem low_in {w0 V W : World} {vm vo : Value} {S T : Nat → Nat} {c : List (Nat × Nat)} (h : TwoM w0 V vm vo S T) (r : RelS w0 vm vo S T c V W) : Adds w0 W := (r.zero h).elim (·.low) (·.low)
theorem load_in {w0 V W : World} {vm vo : Value} {S T : Nat → Nat} {c : List (Nat × Nat)} (h : TwoM w0 V vm vo S T) (r : RelS w0 vm vo S T c V W) (a : Nat) (ha : a < 4294967296) :
    Calls Tryd.prog 22 #[vm, .int .u32 ((a : Nat) : Int)] W fun e w' => e = .returned (.int .u32 ((S a : Nat) : Int)) ∧ RelS w0 vm vo S T c W w' := by
  have h1 : ∃ U, TwoM w0 W vm vo S U := (r.zero h).elim (fun h => ⟨_, h⟩) (fun h => ⟨_, h⟩)
  obtain ⟨U, hU⟩ := h1
  exact (hU.load a ha).mono fun e w' ⟨he, hw⟩ => ⟨he, hw ▸ RelS.of_adds (Adds.refl _)⟩
theorem mk_in {d0 d1 : Nat} {w0 W : World} {vm vo : Value} {S T : Nat → Nat} {c : List (Nat × Nat)} (hne : d0 ≠ d1) : KeyS d0 d1 w0 vm vo S T c d0 (.slice (some ⟨W.heap.size, 0, none⟩) c.length c.length) (W.alloc (.cells (flatC c) 31)) :=
  ⟨fun _ => ⟨_, rfl, heap_alloc_new W _⟩, fun e => absurd e hne⟩
theorem storedS {w0 V W : World} {vm vo u : Value} {S T : Nat → Nat} {c : List (Nat × Nat)} {d0 d1 : Nat} (hne : d0 ≠ d1) (h : TwoM w0 V vm vo S T) (r : RelS w0 vm vo S T c V W) (hk : KeyS d0 d1 w0 vm vo S T c d0 u W) (hok : cellsOk c) (hn : c.length ≤ 1000) :
    Calls Tryd.prog 12 #[vo, u] W fun e w' => ∃ x, e = .returned x ∧ KeyS d0 d1 w0 vm vo S T c d1 x w' ∧ RelS w0 vm vo S T c W w' := by
  obtain ⟨g, rfl, hg⟩ := hk.1 rfl
  have fin : ∀ (e : Ending) (w' : World), e = .returned (.int .i64 0) → TwoM w0 w' vm vo S (storeAll T c) → KeepA W w' → ∃ x, e = .returned x ∧ KeyS d0 d1 w0 vm vo S T c d1 x w' ∧ RelS w0 vm vo S T c W w' :=
    fun e w' he hT hK => ⟨_, he, ⟨fun e => absurd e.symm hne, fun _ => ⟨rfl, hT⟩⟩, ⟨fun _ => .inr hT, fun _ => hT, hK⟩⟩
  rcases r.zero h with hT | hT
  · exact (hT.storedA hg hok hn).mono fun e w' ⟨he, h1, h2⟩ => fin e w' he h1 h2
  · exact (hT.storedA hg hok hn).mono fun e w' ⟨he, h1, h2⟩ => fin e w' he (by rw [storeAll_idem] at h1; exact h1) h2
end Go.Proofs.YtleihmmkonakhaaDoor
