/- The word with which an instruction's text begins; appending a text to a row of the call's own. -/
import Derived.Test.YtkodjmdghjcndaaGreatDoorIR5
import Derived.Test.YtkodjmdghjcndaaGreatDoorILib
namespace Go.Proofs.YtkodjmdghjcndaaGreatDoor
open Go Go.RowKit Go.Shelf Go.Lib

theorem NamesI.adds {w w' : World} (h : NamesI w) (ha : Adds w w') : NamesI w' := fun i hi => ha.cellAt (h i hi)
theorem IVars.adds {w w' : World} (h : IVars w) (ha : Adds w w') : IVars w' := h.below ha
theorem first_name (op : Nat) (ho : op ≠ 3) (h2 : op ≤ 19) (xa xb xc xi : Int) (w : World) (hN : NamesI w) :
    Calls Tryz.prog 32 #[insV ((op : Int), xa, xb, xc, xi)] w fun e w' => e = .returned (.string (str (nmIB.getD op []))) ∧ Adds w w' := by
  obtain ⟨w1, hw1⟩ : ∃ w1, w.alloc (.cells (insC ((op : Int), xa, xb, xc, xi)).toArray 25) = w1 := ⟨_, rfl⟩
  have HA1 := Lib.hid (show Adds w w1 by rw [← hw1]; exact (Gr.new _ _).adds)
  have HB1 := Lib.hid (show BkS 25 w1 w.heap.size (insC ((op : Int), xa, xb, xc, xi)) by rw [← hw1]; exact BkS.new _ _ _)
  have c := (hN.adds HA1.out) op (by omega)
  have i0 : w1.cell? ⟨w.heap.size, 0, none⟩ = some (.int .i64 (op : Int)) := HB1.out.cell 0
  have hn : ¬ (op : Int) = 3 := by omega
  have hg : (op : Int) < 20 := by omega
  generalize str (nmIB.getD op []) = nv at c ⊢
  clear hN ho h2
  go_enter Tryz.func32, Tryz.ntmps32
  go_wp2
  go_ret
  exact ⟨rfl, HA1.out⟩
theorem first_kind (k : Nat) (h1 : 1 ≤ k) (h2 : k ≤ 12) (xa xb xc : Int) (w : World) (hN : NamesW w) :
    Calls Tryz.prog 32 #[insV (3, xa, xb, xc, (k : Int))] w fun e w' => e = .returned (.string (str (nmB.getD (k - 1) []))) ∧ Adds w w' := by
  obtain ⟨w1, hw1⟩ : ∃ w1, w.alloc (.cells (insC (3, xa, xb, xc, (k : Int))).toArray 25) = w1 := ⟨_, rfl⟩
  have HA1 := Lib.hid (show Adds w w1 by rw [← hw1]; exact (Gr.new _ _).adds)
  have HB1 := Lib.hid (show BkS 25 w1 w.heap.size (insC (3, xa, xb, xc, (k : Int))) by rw [← hw1]; exact BkS.new _ _ _)
  have i0 : w1.cell? ⟨w.heap.size, 0, none⟩ = some (.int .i64 3) := HB1.out.cell 0
  have i4 : w1.cell? ⟨w.heap.size, 4, none⟩ = some (.int .u32 (k : Int)) := HB1.out.cell 4
  have HN := Lib.hid (name_yes k h1 h2 w1 (hN.adds HA1.out))
  have hk : (k : Int) ≤ 12 := by omega
  unfold nmV nm at HN
  generalize str (nmB.getD (k - 1) []) = nv at HN ⊢
  clear hN h1 h2
  go_enter Tryz.func32, Tryz.ntmps32
  go_wp2_with (go_at_call 68; refine HN.out.mono ?_; rintro e w2 ⟨rfl, rfl⟩)
  go_ret
  exact ⟨rfl, HA1.out⟩
/-- The text of an instruction that may be begins so. -/
theorem first8 (x : In) (hm : mayI x = true) (w : World) (hv : IVars w) : Calls Tryz.prog 32 #[insV x] w fun e w' => e = .returned (.string (str (firstI x))) ∧ Adds w w' := by
  obtain ⟨op, hop, o1, o2, hl⟩ := mayI_op hm
  obtain ⟨xo, xa, xb, xc, xi⟩ := x
  obtain rfl : xo = op := hop
  unfold firstI
  by_cases h3 : op = 3
  · subst h3
    have h := holdsL_all hl 3 (by simp [partsN])
    have h4 : (1 : Int) ≤ xi ∧ xi ≤ 12 := by simpa [partsN, holdsP, loN, hiN, getP] using h
    obtain ⟨k, rfl⟩ : ∃ k : Nat, xi = k := ⟨xi.toNat, by omega⟩
    have e : ((k : Int) - 1).toNat = k - 1 := by omega
    have e3 : ((3 : Nat) : Int) = 3 := rfl
    rw [e3, if_pos rfl]
    show Calls Tryz.prog _ _ w fun e w' => e = .returned (.string (str (nmB.getD ((k : Int) - 1).toNat []))) ∧ _
    rw [e]
    exact first_kind k (by omega) (by omega) xa xb xc w hv.kin
  · have e : ¬ (op : Int) = 3 := by omega
    simp only [e, if_false, Int.toNat_natCast]
    exact first_name op h3 o2 xa xb xc xi w hv.nam

def strV (s : List UInt8) : Value := .string (str s)
/-- A row of texts that is the call's own. -/
def OwnT (w : World) (base : Nat) (v : Value) (l : List (List UInt8)) : Prop := w.ownsRow base 9 1 v l.length (l.map strV)
theorem info_str : (Tryz.prog.info? 9).map (fun i => (i.zero, i.size, i.bytes)) = some (some (.string ByteArray.empty), 1, 16) := by kernel_rfl
theorem OwnT.adds {w w' : World} {b : Nat} {v : Value} {l : List (List UInt8)} (h : OwnT w b v l) (ha : Adds w w') : OwnT w' b v l := by
  refine ⟨h.1, ?_⟩
  rcases h.2 with hn | ⟨g, cap, cur, rfl, hbg, hgg, rest⟩
  · exact .inl hn
  · exact .inr ⟨g, cap, cur, rfl, hbg, by rw [ha.block g (World.ownsRow.lt h g rfl).2]; exact hgg, rest⟩
theorem OwnT.cells {w : World} {b : Nat} {v : Value} {l : List (List UInt8)} (h : OwnT w b v l) (h0 : 0 < l.length) : ∃ g c, v = .slice (some ⟨g, 0, none⟩) l.length c ∧ g < w.heap.size ∧ l.length ≤ c ∧ ∀ (j : Nat) x, l[j]? = some x → w.cell? ⟨g, j, none⟩ = some (.string (str x)) := by
  rcases h.2 with ⟨_, hn⟩ | ⟨g, cap, cur, rfl, hbg, hgg, hnc, hcm, hcs, ht⟩
  · omega
  · refine ⟨g, cap, rfl, (World.ownsRow.lt h g rfl).2, hnc, fun j x hx => ?_⟩
    have hx2 : (l.map strV)[j]? = some (strV x) := by rw [List.getElem?_map, hx]; rfl
    have hj : j < l.length := (List.getElem?_eq_some_iff.1 hx).1
    rw [← ht, List.getElem?_take, if_pos (by omega)] at hx2
    rw [cell_of_row w g j cur _ _ hgg]
    simpa [strV] using hx2
theorem run_append_t {w : World} (ty : TypeId) (base : Nat) (v : Value) (pre : List (List UInt8)) (hown : OwnT w base v pre) (b : Nat) (s : List UInt8) (hc : w.cell? ⟨b, 0, none⟩ = some (.string (str s)))
    (hlen : pre.length + 1 ≤ 1000000) (hbase : base ≤ w.heap.size) :
    ∃ v' w', (Builtin.append_ #[72, 72] ty #[v, .slice (some ⟨b, 0, none⟩) 1 1]).run Tryz.prog w = .ok v' w' ∧ OwnT w' base v' (pre ++ [s]) ∧ w.grownBy w' v.ownBlock := by
  obtain ⟨i0, hi, hz0, hz1, hz2⟩ := info_parts info_str
  obtain ⟨v', w', hr, r1, r2, _⟩ := run_append_own (P := Tryz.prog) w base 72 ty 9 i0 (.string ByteArray.empty) 1 16 Tryz.underlying72 hi hz0 hz1 hz2 rfl (by decide) v pre.length (pre.map strV) hown ⟨b, 0, none⟩ 1 1 [strV s] (by simp)
    (fun j u hu => by
      rcases j with _ | j
      · obtain rfl : strV s = u := by simpa using hu
        exact hc
      · simp at hu)
    (fun u hu => by obtain rfl : u = strV s := by simpa using hu
                    rfl) (by unfold maxLen; omega) (by omega) hbase
  refine ⟨v', w', hr, ?_, r2⟩
  unfold OwnT
  rw [List.length_append, List.map_append]
  exact r1
theorem wpIn_append_t {F : Fence} {n : Nat} {w : World} {ops : Array Oper} {rest : List Oper} {o : Oper} {a : Act} {Q : Exit → Act → World → Prop} (hgd : o.guard = none) (s x : Operand)
    (ho : o.op = .call { callee := .builtin .append, args := #[s, x], argTypes := #[72, 72] }) (base : Nat) (v : Value) (pre : List (List UInt8)) (hs : a.eval s = v) (hown : OwnT w base v pre)
    (b : Nat) (t : List UInt8) (hx : a.eval x = .slice (some ⟨b, 0, none⟩) 1 1) (hc : w.cell? ⟨b, 0, none⟩ = some (.string (str t))) (hlen : pre.length + 1 ≤ 1000000) (hbase : base ≤ w.heap.size)
    (h : ∀ v' w', OwnT w' base v' (pre ++ [t]) → w.grownBy w' v.ownBlock → wpListIn F n Tryz.prog ops Q rest (a.put o.dst v') w') : wpListIn F n Tryz.prog ops Q (o :: rest) a w := by
  obtain ⟨v', w', hr, r1, r2⟩ := run_append_t o.type base v pre hown b t hc hlen hbase
  refine wpListIn_plain hgd fun K hK => ?_
  unfold Oper.wpIn
  refine ⟨?_, ?_⟩
  · simp [Oper.about, ho, resolve, Target.leads, Sem.run_pure]
  · rw [Oper.semAt_plain F _ _ (by rw [ho]; intro c hc'; cases hc')]
    simp [execOp, ho, resolve, invoke, builtin, hs, hx, hr, Result.andThen]
    exact hK _ _ (h v' w' r1 r2)
theorem OwnT.lit (w : World) (s : List UInt8) : OwnT (w.alloc (.cells #[.string (str s)] 9)) w.heap.size (.slice (some ⟨w.heap.size, 0, none⟩) 1 1) [s] := by
  have := World.ownsRow_lit (size := 1) (e := 9) w #[.string (str s)] 1 (Nat.le_refl _) (by simp [maxLen]) (by simp)
  exact this
theorem OwnT.lower {w : World} {base b : Nat} {v : Value} {l : List (List UInt8)} (h : OwnT w base v l) (hb : b ≤ base) : OwnT w b v l := by
  refine ⟨h.1, ?_⟩
  rcases h.2 with hn | ⟨g, cap, cur, rfl, hbg, rest⟩
  · exact .inl hn
  · exact .inr ⟨g, cap, cur, rfl, by omega, rest⟩
/-- A block that holds no text is not a row of texts. -/
theorem own_notT {w : World} {g base : Nat} {v u : Value} {b : List UInt8} {l : List (List UInt8)} (hc : w.cell? ⟨g, 0, none⟩ = some u) (hu : ∀ x, u ≠ .string x) (ho : OwnT w base v (b :: l)) : v.ownBlock ≠ some g := by
  obtain ⟨g', c, rfl, _, _, h⟩ := ho.cells (by simp)
  intro e
  have e2 : g' = g := by simpa [Value.ownBlock] using e
  subst e2
  have h1 := h 0 b rfl
  rw [hc] at h1
  exact hu _ (Option.some.inj h1)
end Go.Proofs.YtkodjmdghjcndaaGreatDoor
