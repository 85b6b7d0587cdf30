/- From; tell and Digest: their contracts. -/
import Derived.Test.YtleihmmkonakhaaDoorMCells
import Derived.Test.YtleihmmkonakhaaDoorDOf
namespace Go.Proofs.YtleihmmkonakhaaDoor
open Go Go.RowKit Go.Shelf Go.Maps
attribute [local go_sem] Oper.semAt_some

theorem from_seqS (n : Nat) (hn : 6 ≤ n) (B1 B2 b : Nat) (M : Nat → Prop) (S : Nat → Nat) (L : List (Nat × Nat)) (a : Nat) (ha : a < 4294967296) (w : World)
    (hMb : ∀ k, M k → k < w.heap.size) (hB1 : ¬ M B1) (hB2 : ¬ M B2) (hfoot : ∀ x ∈ L, ¬ M x.2)
    (c1 : w.cell? ⟨B1, 0, none⟩ = some (.map (some b))) (c2 : w.cell? ⟨B2, 0, none⟩ = some (.int .u32 ((a : Nat) : Int))) (hM : MemL w b S L) :
    SeqS Fence.wide n Tryd.prog 49 #[.pointer (some ⟨B1, 0, none⟩), .pointer (some ⟨B2, 0, none⟩)] cellV (KeepF M b) (fun xs => xs = psL S a (sortU (L.map (·.1)))) (PreOf (psL S a (sortU (L.map (·.1))))) (NextOf (psL S a (sortU (L.map (·.1))))) w :=
  fun l J Jx W hb hJ hJx hY h0 => from1_in n hn l B1 B2 b M S L a ha J Jx W hJ hJx hY (fun k h => Nat.lt_of_lt_of_le (hMb k h) hb.size) hB1 hB2 hfoot (Adds.cellAt hb c1) (Adds.cellAt hb c2) (hM.adds hb) h0

/-- What From hands back: an iterator over words S, from a on; all its memory is new. -/
def IterAt (w : World) (n0 : Nat) (fv : Value) (S : Nat → Nat) (a : Nat) : Prop :=
  ∃ b L B1 B2, fv = .func (.func 49) #[] #[.pointer (some ⟨B1, 0, none⟩), .pointer (some ⟨B2, 0, none⟩)] ∧ MemL w b S L ∧ w.cell? ⟨B1, 0, none⟩ = some (.map (some b)) ∧ w.cell? ⟨B2, 0, none⟩ = some (.int .u32 ((a : Nat) : Int)) ∧
    n0 ≤ b ∧ n0 ≤ B1 ∧ n0 ≤ B2 ∧ ∀ x ∈ L, n0 ≤ x.2
theorem IterAt.frm {M : Nat → Prop} {w w' : World} {n0 : Nat} {fv : Value} {S : Nat → Nat} {a : Nat} (h : IterAt w n0 fv S a) (hf : Frm M w w') (hm : ∀ k, n0 ≤ k → k < w.heap.size → ¬ M k) : IterAt w' n0 fv S a := by
  obtain ⟨b, L, B1, B2, h1, h2, h3, h4, h5, h6, h7, h8⟩ := h
  have cell : ∀ {B : Nat} {v : Value}, n0 ≤ B → w.cell? ⟨B, 0, none⟩ = some v → w'.cell? ⟨B, 0, none⟩ = some v := fun {B} {v} hB hc => by
    have hlt := World.block_lt_of_cell? w _ hc
    have hb := hf.block B hlt (hm B hB hlt)
    unfold World.cell? at hc ⊢
    simp only at hc ⊢
    rw [hb]; exact hc
  exact ⟨b, L, B1, B2, h1, h2.frm hf (fun k hk => hm k (by
    rcases hk with rfl | hk
    · exact h5
    · obtain ⟨x, hx, rfl⟩ := List.mem_map.1 hk
      exact h8 x hx) (h2.foot_lt hk)), cell h6 h3, cell h7 h4, h5, h6, h7, h8⟩
theorem IterAt.adds {w w' : World} {n0 : Nat} {fv : Value} {S : Nat → Nat} {a : Nat} (h : IterAt w n0 fv S a) (ha : Adds w w') : IterAt w' n0 fv S a := h.frm (Frm.of_adds (fun _ => False) ha) (fun _ _ _ => id)

def FromPost (S : Nat → Nat) (a : Nat) (w : World) (e : Ending) (w' : World) : Prop := ∃ fv, e = .returned fv ∧ IterAt w' w.heap.size fv S a ∧ Adds w w'

theorem fromM_any (bm b a : Nat) (v : Value) (S : Nat → Nat) (L : List (Nat × Nat)) (w : World) (hM : MemP w v S bm b L) :
    Calls Tryd.prog 18 #[v, .int .u32 ((a : Nat) : Int)] w (FromPost S a w) := by
  obtain rfl := hM.ptr
  have c0 := hM.c0
  have HN := Lib.hid (isNoneM_full bm b w c0)
  have HL := Lib.hid (copied_any b S L w hM.mem)
  have HF := Lib.hid (fun b' W => pagesFrom_any (some b') a W)
  clear hM
  go_enter Tryd.func18, Tryd.ntmps18
  go_wp2_with (first
    | (go_at_call 26; refine HN.out.mono ?_; rintro e w1 ⟨rfl, rfl⟩)
    | (go_at_call 38; refine HL.out.mono ?_; rintro e w1 ⟨b', L', rfl, h1, h2, h3⟩; have H1 := Lib.hid h1; have H2 := Lib.hid h2; have H3 := Lib.hid h3; clear h1 h2 h3)
    | (go_at_call 37; refine (HF.out _ _).mono ?_; rintro e w2 ⟨rfl, h4⟩; have H4 := Lib.hid h4; clear h4))
  go_ret
  have ha : Adds w1 w2 := by rw [← H4.out]; exact (Adds.new _ _).trans (Adds.new _ _)
  have hs := H2.out.size
  exact ⟨_, rfl, ⟨b', L', _, _, rfl, H1.out.adds ha, by rw [← H4.out]; simp, by rw [← H4.out]; simp, H3.out b' (.inl rfl), hs, by omega, fun x hx => H3.out _ (.inr (List.mem_map.2 ⟨x, hx, rfl⟩))⟩, Adds.trans H2.out ha⟩
theorem fromM_no (a : Nat) (v : Value) (w : World) (h : NoMem w v) :
    Calls Tryd.prog 18 #[v, .int .u32 ((a : Nat) : Int)] w (FromPost (fun _ => 0) a w) := by
  have HN := Lib.hid (isNoneM_no v w h)
  have HF := Lib.hid (fun b' W => pagesFrom_any (some b') a W)
  have hmm := @run_makeMap Tryd.prog
  clear h
  go_enter Tryd.func18, Tryd.ntmps18
  go_wp2_with (first
    | (go_at_call 26; refine HN.out.mono ?_; rintro e w1 ⟨rfl, rfl⟩)
    | (go_at_call 37; refine (HF.out _ _).mono ?_; rintro e w2 ⟨rfl, h4⟩; have H4 := Lib.hid h4; clear h4))
  go_ret
  obtain ⟨wa, hwa⟩ : ∃ wa, w.alloc (.map #[] 0) = wa := ⟨_, rfl⟩
  have hA0 : Adds w wa := by rw [← hwa]; exact Adds.new _ _
  have hM0 : MapAt wa w.heap.size [] := by rw [← hwa]; exact MapAt.made w
  have hsz : wa.heap.size = w.heap.size + 1 := by rw [← hwa]; simp
  have H5 := H4.out
  rw [hwa] at H5
  have c1 : w2.cell? ⟨wa.heap.size, 0, none⟩ = some (.map (some w.heap.size)) := by rw [← H5]; simp
  have c2 : w2.cell? ⟨wa.heap.size + 1, 0, none⟩ = some (.int .u32 ((a : Nat) : Int)) := by rw [← H5]; simp
  rw [hsz] at c1 c2
  have ha : Adds wa w2 := by have H4' := H4.out; rw [hwa] at H4'; rw [← H4']; exact (Adds.new _ _).trans (Adds.new _ _)
  exact ⟨_, rfl, ⟨w.heap.size, [], _, _, rfl, ⟨hM0.same (ha.block _ hM0.lt), List.nodup_nil, fun _ h => by simp at h, fun _ _ _ _ _ => rfl, fun _ => by simp⟩, c1, c2, Nat.le_refl _, by omega, by omega, fun x hx => by simp at hx⟩, Adds.trans hA0 ha⟩

/-- The bytes of words: each one's address, then it. -/
def cellB (x : Nat × Nat) : List UInt8 := leB 4 x.1 ++ leB 4 x.2
def cellsB (cs : List (Nat × Nat)) : List UInt8 := cs.flatMap cellB
theorem cellsB_snoc (cs : List (Nat × Nat)) (x : Nat × Nat) : cellsB (cs ++ [x]) = cellsB cs ++ cellB x := by unfold cellsB; simp
theorem cellsB_length : ∀ cs : List (Nat × Nat), (cellsB cs).length = 8 * cs.length
  | [] => rfl
  | x :: t => by
    have ih := cellsB_length t
    unfold cellsB at ih ⊢
    simp only [List.flatMap_cons, List.length_append, ih, List.length_cons]
    unfold cellB
    rw [List.length_append, leB_length, leB_length]
    omega

theorem number4_any (bd : Nat) (l : List UInt8) (x : Nat) (hx : x < 4294967296) (hl : l.length + 8 ≤ 9223372036854775807) (w : World) (hw : Widths w) (hB : Blk w bd (digK 256 (bitsS l) l.length)) :
    Calls Tryd.prog 34 #[.pointer (some ⟨bd, 0, none⟩), .int .u64 ((x : Nat) : Int), .int .i64 4] w fun e w' => e = .returned (.int .i64 0) ∧ Blk w' bd (digK 256 (bitsS (l ++ leB 4 x)) (l ++ leB 4 x).length) ∧ Turns bd w w' := by
  have e1 : fixE x 4 = 0 := by unfold fixE; rw [if_pos (by decide), if_pos (by simpa using hx)]
  have f1 : fixB x 4 = leB 4 x := by unfold fixB; rw [if_pos e1]; rfl
  refine (numberD_any bd _ l.length (show U64 (bitsS l) from bitsS_lt _) x 4 w hw hB hl).mono ?_
  rintro e w' ⟨he, hb, ht⟩
  rw [e1] at he
  rw [f1, ← bitsS_append, ← List.length_append] at hb
  exact ⟨he, hb, ht⟩
theorem turns_cell {b i : Nat} {w w' : World} {k : Nat} {v : Value} (h : Turns b w w') (hne : k ≠ b) (hc : w.cell? ⟨k, i, none⟩ = some v) : w'.cell? ⟨k, i, none⟩ = some v := by
  have hlt := World.block_lt_of_cell? w _ hc
  have hbk := h.block k hlt (fun e => by cases e; exact hne rfl)
  unfold World.cell? at hc ⊢
  simp only at hc ⊢
  rw [hbk]; exact hc

set_option maxRecDepth 100000 in
set_option maxHeartbeats 4000000 in
theorem tell_any (b bd : Nat) (S : Nat → Nat) (L : List (Nat × Nat)) (cs : List (Nat × Nat)) (w : World) (hM : MemL w b S L) (hc : IsCells S cs) (hw : Widths w) (hB : Blk w bd (digK 256 (bitsS []) 0)) (hbd : ¬ foot b L bd) :
    Calls Tryd.prog 33 #[.map (some b), .func (.func 34) #[.pointer (some ⟨bd, 0, none⟩)] #[]] w fun e w' =>
      e = .returned (.tuple #[]) ∧ Blk w' bd (digK 256 (bitsS (cellsB cs)) (cellsB cs).length) ∧ Turns bd w w' := by
  have HM := Lib.hid hM; have HC := Lib.hid hc; have HW := Lib.hid hw; have HB := Lib.hid hB; have HBD := Lib.hid hbd
  have HFull := Lib.hid (show psL S 0 (sortU (L.map (·.1))) = cs by rw [from_cells hM hc 0]; simp)
  have HFew := Lib.hid (cells_few hc)
  clear hM hc hw hB hbd
  refine (callsIn_wide (n := 9)).1 ?_
  refine callsIn_of_wp_marks Tryd.func33 rfl trivial ?_ rfl
  simp only [Tryd.ntmps33, List.size_toArray, List.length_cons, List.length_nil, Nat.reduceAdd, Nat.reduceSub, Array.replicate_succ, Array.replicate_zero, List.push_toArray, List.append_toArray, List.nil_append, List.cons_append]
  have HFr := Lib.hid (fun W => pagesFrom_any (some b) 0 W)
  gi_wp2_with (refine ⟨trivial, ?_⟩; gi_at_call 37; refine (callsIn_wide.2 (HFr.out _)).mono ?_; rintro e w2 ⟨rfl, h4⟩; have H4 := Lib.hid h4; clear h4)
  obtain ⟨Wt, hWt⟩ : ∃ Wt, w.alloc (.cells #[.func (.func 34) #[.pointer (some ⟨bd, 0, none⟩)] #[]] 68) = Wt := ⟨_, rfl⟩
  have HAt := Lib.hid (show Adds w Wt by rw [← hWt]; exact Adds.new _ _)
  have HC3 := Lib.hid (show Wt.cell? ⟨w.heap.size, 0, none⟩ = some (.func (.func 34) #[.pointer (some ⟨bd, 0, none⟩)] #[]) by rw [← hWt]; simp)
  have hst : Wt.heap.size = w.heap.size + 1 := by rw [← hWt]; simp
  have H4' := H4.out
  rw [hWt] at H4'
  have HA2 := Lib.hid (show Adds Wt w2 by rw [← H4']; exact (Adds.new _ _).trans (Adds.new _ _))
  have k1 : w2.cell? ⟨Wt.heap.size, 0, none⟩ = some (.map (some b)) := by rw [← H4']; simp
  have k2 : w2.cell? ⟨Wt.heap.size + 1, 0, none⟩ = some (.int .u32 ((0 : Nat) : Int)) := by rw [← H4']; simp
  have hs2 : w2.heap.size = Wt.heap.size + 2 := by rw [← H4']; simp
  rw [hst] at k1 k2 hs2
  clear hWt H4 H4' hst
  have HA := Lib.hid (Adds.trans HAt.out HA2.out)
  have HC32 := Lib.hid (HA2.out.cellAt HC3.out)
  have HM2 := Lib.hid (HM.out.adds HA.out)
  have HB2 := Lib.hid (HB.out.adds HA.out)
  have HW2 := Lib.hid (HW.out.below HA.out)
  have HBl := Lib.hid HB.out.lt
  have HSQ := Lib.hid (from_seqS 8 (by omega) (w.heap.size + 1) (w.heap.size + 1 + 1) b (fun k => k = bd) S L 0 (by omega) w2 (fun k h => by rw [h]; have := HBl.out; omega) (fun h => by have := HBl.out; omega) (fun h => by have := HBl.out; omega)
    (fun x hx h => HBD.out (.inr (List.mem_map.2 ⟨x, hx, h⟩))) k1 k2 HM2.out)
  rw [HFull.out] at HSQ
  have HS2 := Lib.hid (show w.heap.size < w2.heap.size ∧ bd < w2.heap.size by have := HBl.out; omega)
  have HBb := Lib.hid (show b < w2.heap.size from HM2.out.map.lt)
  clear k1 k2 hs2
  obtain ⟨Z, hZ⟩ : ∃ Z, w.heap.size = Z := ⟨_, rfl⟩
  have HZ := Lib.hid hZ
  rw [hZ] at HC32 HSQ HS2 ⊢
  clear hZ
  refine' rangeFunc_S rfl (by omega) (gf := 49) (lb := #[.pointer (some ⟨Z + 1, 0, none⟩), .pointer (some ⟨Z + 1 + 1, 0, none⟩)]) rfl trivial (enters_of Tryd.func49 (by kernel_rfl) rfl) HSQ.out
    KeepF.trans (fun W l o o' hl h hc _ => KeepF.put W l o o' h hc (by have := HBb.out; omega)) (Below.refl _ _) (fun _ => rfl)
    (fun pre V => Blk V bd (digK 256 (bitsS (cellsB pre)) (cellsB pre).length) ∧ Turns bd w2 V) (fun _ _ _ => False) ?own ?ownx ?h0 _ ?assign ?body ?done ?stop
  case assign =>
    intro l2 x W2 K hK
    have HK := Lib.hid hK; clear hK
    gi_wp2
    exact HK.out
  case own => exact fun z A C hs hb => ⟨(hb.block bd HS2.out.2).trans hs.1, ⟨hb.os.trans hs.2.os, hb.tape.trans hs.2.tape, hb.output.trans hs.2.output, Nat.le_trans hs.2.size hb.size, fun k hk hne => (hb.block k hk).trans (hs.2.block k hk hne)⟩⟩
  case ownx => exact fun cc z A C hs hb => hs.elim
  case h0 => exact ⟨HB2.out, Turns.refl _ _⟩
  case body =>
    rintro l2 pre ⟨x1, x2⟩ W2 ⟨hb2, ht2⟩ ⟨r, hr⟩
    have HXm := Lib.hid ((HC.out.mem (x1, x2)).1 (by rw [hr]; simp))
    have HX2 := Lib.hid (show x2 < 4294967296 by have := HXm.out.2.1; simp only at this; rw [this]; exact HM.out.word _)
    have HLen := Lib.hid (show (cellsB pre).length + 16 ≤ 9223372036854775807 by rw [cellsB_length]; have h1 := HFew.out; have h2 := congrArg List.length hr; simp at h2; omega)
    have HBk := Lib.hid hb2; have HTk := Lib.hid ht2
    have HWk : ∀ V, Turns bd w2 V → Widths V := fun V hV => by
      have hne : 0 ≠ bd := fun e => by
        have h1 := HW2.out.c0
        have h3 := HB2.out.cell 0
        rw [← e, h1, digK_tab 256 (bitsS []) 0 0 (by omega)] at h3
        simp [tabV] at h3
      have hlt := World.block_lt_of_cell? w2 _ HW2.out.c0
      have hbk := hV.block 0 hlt (fun e => by cases e; exact hne rfl)
      have hh : ∀ i v, w2.cell? ⟨0, i, none⟩ = some v → V.cell? ⟨0, i, none⟩ = some v := fun i v h => by
        unfold World.cell? at h ⊢
        simp only at h ⊢
        rw [hbk]; exact h
      exact ⟨hh _ _ HW2.out.c0, hh _ _ HW2.out.c1, hh _ _ HW2.out.c2, hh _ _ HW2.out.c3⟩
    have HWk := Lib.hid HWk
    have b3 : W2.cell? ⟨Z, 0, none⟩ = some (.func (.func 34) #[.pointer (some ⟨bd, 0, none⟩)] #[]) := by
      have hbk := ht2.block Z HS2.out.1 (fun e => by cases e; have := HBl.out; have := HZ.out; omega)
      have h := HC32.out
      unfold World.cell? at h ⊢
      simp only at h ⊢
      rw [hbk]; exact h
    have HN1 := Lib.hid (number4_any bd (cellsB pre) x1 HXm.out.1 (by have := HLen.out; omega) W2 (HWk.out _ HTk.out) HBk.out)
    have HN2 := Lib.hid (fun V (hV : Turns bd w2 V) (hb : Blk V bd (digK 256 (bitsS (cellsB pre ++ leB 4 x1)) (cellsB pre ++ leB 4 x1).length)) => number4_any bd (cellsB pre ++ leB 4 x1) x2 HX2.out (by have := HLen.out; rw [List.length_append, leB_length]; omega) V (HWk.out _ hV) hb)
    have HTr := Lib.hid ht2
    have z1 : IntKind.u64.wrap ((x1 : Nat) : Int) = ((x1 : Nat) : Int) := by have := HXm.out.1; simp only at this; rw [IntKind.wrap_u64]; omega
    have z2 : IntKind.u64.wrap ((x2 : Nat) : Int) = ((x2 : Nat) : Int) := by have := HX2.out; rw [IntKind.wrap_u64]; omega
    clear hr hb2 ht2 HWk
    gi_wp2_with (first
      | (refine ⟨trivial, ?_⟩; gi_at_call 34; refine (callsIn_wide.2 HN1.out).mono ?_; rintro e V1 ⟨rfl, q1, q2⟩; have Q1 := Lib.hid q1; have Q2 := Lib.hid q2; have b4 : V1.cell? ⟨Z, 0, none⟩ = some (.func (.func 34) #[.pointer (some ⟨bd, 0, none⟩)] #[]) := turns_cell q2 (by have := HBl.out; have := HZ.out; omega) b3; clear q1 q2 HN1 b3)
      | (refine ⟨trivial, ?_⟩; gi_at_call 34; refine (callsIn_wide.2 (HN2.out V1 (HTr.out.trans Q2.out) Q1.out)).mono ?_; rintro e V2 ⟨rfl, q1, q2⟩; have Q3 := Lib.hid q1; have Q4 := Lib.hid q2; clear q1 q2 HN2))
    have ht : Turns bd W2 V2 := Q2.out.trans Q4.out
    refine ⟨⟨ht.size, fun k o hk ho hc => (ht.block k (Array.getElem?_eq_some_iff.1 ho).1 (fun e => by cases e; have := HS2.out.2; omega)).trans ho⟩, ⟨fun k c e f hk hc => (ht.block k (Array.getElem?_eq_some_iff.1 hc).1 (fun e => by cases e; exact hk rfl)).trans hc, ht.block b (Nat.lt_of_lt_of_le HBb.out HTr.out.size) (fun e => by cases e; exact HBD.out (.inl rfl))⟩, ?_, HTr.out.trans ht⟩
    have h9 := Q3.out
    rw [cellsB_snoc]
    unfold cellB
    rw [← List.append_assoc]
    exact h9
  case done =>
    rintro D xs W2 hD rfl ⟨hb2, ht2⟩ hK
    have HBk := Lib.hid hb2; have HTk := Lib.hid ht2; have HKD := Lib.hid hK; have HDd := Lib.hid hD
    clear hb2 ht2 hK hD
    gi_wp2
    show LeavesInM _ _ _ _ _ _ _ _ _
    refine marks_leave (B := w2.heap.size) (C := W2.heap.size) _ _ ⟨D, rfl, HDd.out, (Array.getElem?_eq_some_iff.1 HKD.out).1, HKD.out, trivial⟩ fun W' hW' => ⟨_, results_none rfl _ _ _, rfl, (hW'.block bd HS2.out.2).trans HBk.out, ?_⟩
    have h1 : Turns bd w2 W' := ⟨hW'.os.trans HTk.out.os, hW'.tape.trans HTk.out.tape, hW'.output.trans HTk.out.output, Nat.le_trans HTk.out.size hW'.size, fun k hk hne => (hW'.block k hk).trans (HTk.out.block k hk hne)⟩
    exact (Turns.of_adds bd HA.out).trans h1
  case stop => exact fun D c pre W _ _ h => h.elim
end Go.Proofs.YtleihmmkonakhaaDoor
