/- The document's Parse: contract. (genH6.py wrote this.) -/
import Derived.Test.YtkodjmdghjcndaaGreatDoorIH5
import Derived.Test.YtkodjmdghjcndaaGreatDoorIG2
namespace Go.Proofs.YtkodjmdghjcndaaGreatDoor
open Go Go.RowKit Go.Shelf

set_option maxRecDepth 100000 in
set_option maxHeartbeats 2000000 in
theorem refParse_any (s : ByteArray) (r : Nat) (hr : pN s 12 = r) (w : World) : Calls Tryz.prog 42 #[.string s] w fun e w' => e = .returned (.int .i64 r) ∧ Adds w w' := by
  have HR := Lib.hid (refNames_any w)
  have HRR := Lib.hid hr; clear hr
  go_enter Tryz.func42, Tryz.ntmps42
  go_wp2_with (go_at_call 47; refine HR.out.mono ?_; rintro e w1 ⟨v, rfl, ⟨b, rfl, hb, hc⟩, a1⟩; have A1 := Lib.hid a1; have HC := Lib.hid hc; clear a1 hc)
  go_loop [4] (fun i => ∃ m : Nat, m ≤ 12 ∧ i = .int .i64 m ∧ pN s m = 0) (fun i => 12 - (intOf i).toNat)
  case atStart => exact ⟨0, Nat.zero_le _, rfl, rfl⟩
  case round =>
    obtain ⟨m, hm, rfl, hp⟩ := hrel
    have HP := Lib.hid hp; clear hp
    have HM := Lib.hid hm; clear hm
    by_cases hlt : m < 12
    · have hcell := HC.out m hlt
      unfold nmV at hcell
      obtain ⟨y, hy⟩ : ∃ y, nm m = y := ⟨_, rfl⟩
      rw [hy] at hcell
      have HY := Lib.hid hy; clear hy
      have hlt' : (m : Int) < 12 := by omega
      have HLT := Lib.hid hlt; clear hlt hb
      by_cases he : y = s
      · subst he
        have HQ := Lib.hid (pN_hit HLT.out HP.out HY.out)
        have heq : (y.toList == y.toList) = true := by simp
        go_wp2
        go_ret
        have h := HRR.out.symm.trans HQ.out
        exact ⟨ret_int (by rw [h]; simp), A1.out⟩
      · have hne := beq_no he
        have HQ := Lib.hid (pN_no HP.out (by rw [HY.out]; exact he))
        clear he
        go_wp2
        go_round
        case rel => exact ⟨m + 1, HLT.out, by go_num, HQ.out⟩
        case measure => have := HLT.out; simp [intOf]; omega
    · obtain rfl : m = 12 := by have := HM.out; omega
      clear hlt hb
      go_wp2
      go_ret
      have h := HRR.out.symm.trans HP.out
      exact ⟨ret_int (by rw [h]; rfl), A1.out⟩
set_option maxRecDepth 100000 in
theorem refNames0 (w : World) : Calls Tryz.prog 43 #[.int .i64 0] w fun e w' => e = .returned (.string (str [45])) ∧ Adds w w' := by
  go_enter Tryz.func43, Tryz.ntmps43
  go_wp2
  go_ret
  exact ⟨rfl, Adds.refl _⟩
theorem refNamesAll (op : Nat) (h : op ≤ 19) (w : World) : Calls Tryz.prog 43 #[.int .i64 op] w fun e w' => e = .returned (.string (str (lettN op))) ∧ Adds w w' := by
  by_cases h0 : op = 0
  · subst h0; exact refNames0 w
  · exact refNamesI_any op (by omega) h w
theorem opD_le (f : List UInt8) : ∀ k, opD f k ≤ k
  | 0 => Nat.le_refl _
  | k + 1 => by have := opD_le f k; unfold opD; split <;> omega
theorem words_le : ∀ (l w : List UInt8), w ∈ wordsL l → w.length ≤ l.length
  | [], w, h => by
    rw [show wordsL [] = [[]] from rfl, List.mem_singleton] at h
    subst h; simp
  | c :: t, w, h => by
    have ih := words_le t
    unfold wordsL at h
    split at h
    · rcases List.mem_cons.1 h with rfl | h
      · simp
      · have := ih w h; simp; omega
    · split at h
      · rcases List.mem_cons.1 h with rfl | h
        · simp
        · cases h
      · rename_i hd r e
        rcases List.mem_cons.1 h with rfl | h
        · have := ih hd (by rw [e]; exact List.mem_cons_self); simp; omega
        · have := ih w (by rw [e]; exact List.mem_cons_of_mem _ h); simp; omega
theorem numOk_le {l : List UInt8} (h : numOk l = true) : valD l ≤ 4294967295 := by
  unfold numOk at h
  simp only [Bool.and_eq_true, decide_eq_true_eq] at h
  exact h.2
theorem numA_le (m : UInt8) (l : List UInt8) (h : numA m l = true) : numV m l ≤ 4294967295 := by
  unfold numA at h
  unfold numV
  split
  · rename_i h0; rw [if_pos h0] at h; exact numOk_le h
  · rename_i h0
    rw [if_neg h0] at h
    cases l with
    | nil => cases h
    | cons c t =>
      simp only [Bool.and_eq_true] at h
      exact numOk_le h.2
theorem opD_ne3 (f : List UInt8) : ∀ k, opD f k ≠ 3
  | 0 => by show (0 : Nat) ≠ 3; decide
  | k + 1 => by
    have := opD_ne3 f k
    show (if k ≠ 2 ∧ wdB k = f then k + 1 else opD f k) ≠ 3
    split
    · rename_i h; intro e; exact h.1 (by omega)
    · exact this
theorem opD_yes {f : List UInt8} {k : Nat} (h : k ≠ 2 ∧ wdB k = f) : opD f (k + 1) = k + 1 := by
  show (if k ≠ 2 ∧ wdB k = f then k + 1 else opD f k) = _
  exact if_pos h
theorem opD_no {f : List UInt8} {k : Nat} (h : ¬ (k ≠ 2 ∧ wdB k = f)) : opD f (k + 1) = opD f k := by
  show (if k ≠ 2 ∧ wdB k = f then k + 1 else opD f k) = _
  exact if_neg h
theorem WdsO.adds {n : Nat} {w w' : World} {v : Value} {l : List (List UInt8)} (h : WdsO n w v l) (ha : Adds w w') : WdsO n w' v l := by
  obtain ⟨h1, h2⟩ := h
  refine ⟨h1, ?_⟩
  rcases h2 with h2 | ⟨g, cap, cur, hv, hg, hh, r⟩
  · exact Or.inl h2
  · exact Or.inr ⟨g, cap, cur, hv, hg, (ha.block g (Array.getElem?_eq_some_iff.1 hh).1).trans hh, r⟩
theorem WdsO.form {n : Nat} {w : World} {v : Value} {l : List (List UInt8)} (h : WdsO n w v l) (hl : l ≠ []) : ∃ g cap, v = .slice (some ⟨g, 0, none⟩) l.length cap ∧ n ≤ g ∧ ∀ i, i < l.length → w.cell? ⟨g, i, none⟩ = some (.string (str (l.getD i []))) := by
  have h' := h
  rcases h.2 with ⟨_, h0⟩ | ⟨g, cap, cur, rfl, hg, _⟩
  · exact absurd (List.eq_nil_of_length_eq_zero h0) hl
  · refine ⟨g, cap, rfl, hg, fun i hi => ?_⟩
    have hu : (l.map fun x => Value.string (str x))[i]? = some (.string (str (l.getD i []))) := by
      rw [List.getElem?_map, List.getElem?_eq_getElem hi, List.getD_eq_getElem?_getD, List.getElem?_eq_getElem hi]; rfl
    have h2 := World.ownsRow.cells h' (g := g) rfl i _ hu
    have hadd : (⟨g, 0, none⟩ : Addr).add i = ⟨g, i, none⟩ := by unfold Addr.add; split <;> simp_all
    rwa [hadd] at h2
theorem str_eqb6 (a b : List UInt8) (q : Bool) (h : a = b ↔ q = true) : ((str a).toList == (str b).toList) = q := by
  have e : ∀ l, (str l).toList = l := fun l => by rw [ByteArray.toList_eq]; rfl
  rw [e, e]
  cases q
  · rw [beq_eq_false_iff_ne]; intro he; have := h.1 he; cases this
  · rw [beq_iff_eq]; exact h.2 rfl
def sel6 (W0 : World) (k b3 : Nat) (l0 : Bool) (b fr : Act) (w : World) : Prop := b = fr ∧ Adds W0 w ∧ (l0 = true → w.cell? ⟨b3, k, none⟩ = some (.string (str (wdB k))))
set_option maxRecDepth 100000 in
set_option maxHeartbeats 8000000 in
theorem docParse8 (s : ByteArray) (hs : s.size ≤ 1000) (w : World) (hv : IVars w) : Calls Tryz.prog 11 #[.string s] w fun e w' => e = .returned (.tuple #[insV (docI s.data.toList).1, .int .i64 (docI s.data.toList).2]) ∧ Adds w w' := by
  obtain ⟨l, hle⟩ : ∃ l, s.data.toList = l := ⟨_, rfl⟩
  have hsl : s = str l := by rw [← hle]; rfl
  have HSl := Lib.hid hsl
  have hwd := fun W => refwords8 s hs W
  rw [hle] at hwd ⊢
  have HWd := Lib.hid hwd
  obtain ⟨ws, hws⟩ : ∃ ws, wordsL l = ws := ⟨_, rfl⟩
  have hne : ws ≠ [] := by rw [← hws]; exact wordsL_ne l
  have hll : l.length ≤ 1000 := by rw [← hle, ← Lib.size_eq]; exact hs
  rw [hws] at HWd
  have HNe := Lib.hid hne
  have HWs := Lib.hid hws
  have HV := Lib.hid hv
  have HLl := Lib.hid hll
  have hmx : Tryz.prog.follows .mixedOrders = true := by kernel_rfl
  obtain ⟨f, hf⟩ : ∃ f, ws.headD [] = f := ⟨_, rfl⟩
  have hf0 : ws.getD 0 [] = f := by rw [← hf]; cases ws <;> rfl
  have HF := Lib.hid hf
  have HF0 := Lib.hid hf0
  obtain ⟨w1, hw1⟩ : ∃ w1, w.alloc (.cells #[.int .i64 0, .int .i64 0, .int .i64 0, .int .i64 0, .int .u32 0] 25) = w1 := ⟨_, rfl⟩
  have A1 := Lib.hid (show Adds w w1 by rw [← hw1]; exact (Gr.new _ _).adds)
  have B1 := Lib.hid (show BkS 25 w1 w.heap.size (insC (0, 0, 0, 0, 0)) by rw [← hw1]; exact BkS.new _ _ _)
  clear hsl hle hwd hws hne hf hf0 hv hs hll
  go_enter Tryz.func11, Tryz.ntmps11
  go_wp2_with (go_at_call 40; refine (HWd.out _).mono ?_; rintro e w2 ⟨v2, rfl, ho, q2⟩; obtain ⟨g, cap, rfl, hg, hcell⟩ := ho.form HNe.out; have HO := Lib.hid ho; have HG := Lib.hid hg; have A2 := Lib.hid q2; clear ho hg hcell q2)
  obtain ⟨w3, hw3⟩ : ∃ w3, w2.alloc (.cells #[.int .i64 0, .int .i64 0, .int .i64 0, .int .i64 0, .int .u32 0] 25) = w3 := ⟨_, rfl⟩
  have A3 := Lib.hid (show Adds w2 w3 by rw [← hw3]; exact (Gr.new _ _).adds)
  have B3 := Lib.hid (show BkS 25 w3 w2.heap.size (insC (0, 0, 0, 0, 0)) by rw [← hw3]; exact BkS.new _ _ _)
  go_loopw [5, 7] (fun ov iv wr => ∃ k : Nat, iv = .int .i64 k ∧ k ≤ 19 ∧ ov = .int .i64 ((opD f k : Nat) : Int) ∧ Hid (Adds w3 wr)) (fun _ iv _ => 20 - (intOf iv).toNat)
  case atStart => exact ⟨0, rfl, Nat.zero_le _, rfl, by rw [hw3]; exact Lib.hid (Adds.refl _)⟩
  case round =>
    obtain ⟨k, rfl, hk, rfl, HA⟩ := hrel
    by_cases hlt : k < 19
    · have hltI : (k : Int) < 19 := by omega
      have HLt := Lib.hid hlt
      obtain ⟨od, hod⟩ : ∃ z : Nat, opD f k = z := ⟨_, rfl⟩
      have HOd := Lib.hid hod
      rw [hod]
      clear hlt hk hod
      by_cases hk2 : k = 2
      · have HN := Lib.hid (opD_no (f := f) (k := k) (fun h => h.1 hk2))
        have hk2I : (k : Int) = 2 := by omega
        have hkb : ((k : Int) != 2) = false := by simp [hk2I]
        go_wp2
        go_region
        go_wp2
        go_roundw
        case rel => exact ⟨k + 1, by go_num, HLt.out, by rw [HN.out, HOd.out], Lib.hid (Adds.trans HA.out (Adds.drew _))⟩
        case measure => simp [intOf]; have := HLt.out; omega
      · have hkb : ((k : Int) != 2) = true := by simp; omega
        have hkI : ¬ (k : Int) = 2 := by omega
        obtain ⟨qb, hqb⟩ : ∃ z, decide (wdB k = f) = z := ⟨_, rfl⟩
        have heq := str_eqb6 (wdB k) f qb (by rw [← hqb]; simp)
        have HQb := Lib.hid hqb
        have c0 : wr.cell? ⟨g, 0, none⟩ = some (.string (str f)) := by
          obtain ⟨g', cap', e, _, hc⟩ := ((HO.out.adds A3.out).adds HA.out).form HNe.out
          simp only [Value.slice.injEq, Option.some.injEq, Addr.mk.injEq, and_true] at e
          obtain ⟨rfl, _⟩ := e
          have := hc 0 (List.length_pos_iff.2 HNe.out)
          rwa [HF0.out] at this
        obtain ⟨nmk, hnmk⟩ : ∃ z, str (wdB k) = z := ⟨_, rfl⟩
        have HNk := Lib.hid hnmk
        obtain ⟨sf, hsf⟩ : ∃ z, str f = z := ⟨_, rfl⟩
        have HSf := Lib.hid hsf
        rw [hnmk, hsf] at heq
        rw [hsf] at c0
        have HC0 := Lib.hid c0
        have hwl : (0 : Int) < (ws.length : Int) := by have := List.length_pos_iff.2 HNe.out; omega
        clear hqb hnmk hsf c0
        go_wp2
        refine (wpIn_wide (n := 6)).1 ?_
        refine wpIn_region_inv (fun L bb wz => ∃ b3 : Nat, sel6 wr k b3 (L 3) bb ({ tmps := #[Value.string s, undef, Value.pointer (some { block := w.heap.size, off := 0 }), Value.int IntKind.i64 0, Value.slice (some { block := g, off := 0 }) ws.length cap, Value.int IntKind.i64 (od : Int), Value.pointer (some { block := w2.heap.size, off := 0 }), Value.int IntKind.i64 (k : Int), undef, undef, undef, undef, undef, undef, Value.string s, Value.slice (some { block := g, off := 0 }) ws.length cap, Value.agg #[Value.int IntKind.i64 0, Value.int IntKind.i64 0, Value.int IntKind.i64 0, Value.int IntKind.i64 0, Value.int IntKind.u32 0], Value.int IntKind.i64 (k : Int), Value.bool true, u19, u20, sel2 (L 0) (Value.int IntKind.i64 (k : Int)) (u21), sel2 (L 1) (Value.bool true) (u22), sel2 (L 2) (Value.bool true) (u23), sel2 (L 3) (Value.slice (some { block := b3, off := 0 }) 19 19) (u24), sel2 (L 4) (Value.int IntKind.i64 (k : Int)) (u25), sel2 (L 5) (Value.pointer (some { block := b3, off := k })) (u26), sel2 (L 6) (Value.string nmk) (u27), sel2 (L 7) (Value.slice (some { block := g, off := 0 }) ws.length cap) (u28), sel2 (L 8) (Value.pointer (some { block := g, off := 0 })) (u29), sel2 (L 9) (Value.string sf) (u30), sel2 (L 10) (Value.bool qb) (u31), sel2 (L 11) (Value.bool qb) (u32), u33, u34, undef, undef, undef, undef, undef, undef, undef, undef, undef, undef, undef, undef, undef, undef, undef, undef, undef, undef, undef, undef, undef, undef, undef, undef, undef, undef, undef, undef, undef, undef, undef, undef, undef, undef, undef, undef, undef, undef, undef, undef, undef, undef, undef, undef, undef, undef, undef, undef, undef, undef, undef, undef, undef, undef, undef, undef, undef, undef, undef, undef, undef, undef, undef, undef, undef, undef, undef, undef, undef, undef, undef, undef, undef, undef, undef, undef, undef, undef, undef, undef, undef, undef, undef, undef, undef, undef, undef, undef, undef, undef, undef, undef], defers := [] }) wz) hmx (by kernel_rfl) ?inv0 ?step ?fin
        case inv0 => exact ⟨0, rfl, Adds.drew _, fun h => by cases h⟩
        case step =>
          rintro L bb wz i' op' hop hL hC he ⟨b3, rfl, hA, hF⟩
          have q5 := hC 5 _ rfl
          have q6 := hC 6 _ rfl
          simp [Region.binds] at q5 q6
          have HAz := Lib.hid hA
          have HF3 := Lib.hid hF
          clear hA hF
          rcases i' with _ | _ | _ | _ | _ | _ | _ | _ | _ | _ | _ | _ | i'
          · simp only [List.getElem?_cons_zero, Option.some.injEq] at hop
            subst hop
            try simp [Region.binds] at he
            clear q5 q6 hC
            try simp only []
            gi_wp2
            exact ⟨b3, by simp [sel2, *], HAz.out, fun h => HF3.out (by first | exact h | simpa using h)⟩
          · simp only [List.getElem?_cons_zero, List.getElem?_cons_succ, Option.some.injEq] at hop
            subst hop
            try simp [Region.binds] at he
            clear q5 q6 hC
            try simp only [he, sel2_t]
            gi_wp2
            exact ⟨b3, by simp [sel2, *], HAz.out, fun h => HF3.out (by first | exact h | simpa using h)⟩
          · simp only [List.getElem?_cons_zero, List.getElem?_cons_succ, Option.some.injEq] at hop
            subst hop
            try simp [Region.binds] at he
            clear q5 q6 hC
            try simp only [he, sel2_t]
            gi_wp2
            exact ⟨b3, by simp [sel2, *], HAz.out, fun h => HF3.out (by first | exact h | simpa using h)⟩
          · simp only [List.getElem?_cons_zero, List.getElem?_cons_succ, Option.some.injEq] at hop
            subst hop
            try simp [Region.binds] at he
            have z5 : L 5 = false := by cases h : L 5 with | false => rfl | true => (have hq := q5 h; simp [hL] at hq)
            clear q5 q6 hC
            try simp only [he, sel2_t]
            gi_wp2_with (refine ⟨trivial, ?_⟩; gi_at_call 41; refine (callsIn_wide.2 (refWords8 _)).mono ?_; rintro e wy ⟨v3, rfl, ⟨b4, rfl, hc3⟩, q3⟩; have A3y := Lib.hid (Adds.trans HAz.out q3); have HC3 := Lib.hid hc3; clear hc3 q3)
            exact ⟨b4, by simp [sel2, *], A3y.out, fun _ => HC3.out k HLt.out⟩
          · simp only [List.getElem?_cons_zero, List.getElem?_cons_succ, Option.some.injEq] at hop
            subst hop
            try simp [Region.binds] at he
            clear q5 q6 hC
            try simp only [he, sel2_t]
            gi_wp2
            exact ⟨b3, by simp [sel2, *], HAz.out, fun h => HF3.out (by first | exact h | simpa using h)⟩
          · simp only [List.getElem?_cons_zero, List.getElem?_cons_succ, Option.some.injEq] at hop
            subst hop
            try simp [Region.binds] at he
            have p3 : L 3 = true := by simp [he]
            clear q5 q6 hC
            simp only [he, sel2_t]
            gi_wp2
            exact ⟨b3, by simp [sel2, *], HAz.out, fun _ => HF3.out p3⟩
          · simp only [List.getElem?_cons_zero, List.getElem?_cons_succ, Option.some.injEq] at hop
            subst hop
            try simp [Region.binds] at he
            have p5 : L 5 = true := by simp [he]
            have p3 : L 3 = true := by have h := q5 p5; simp [h]
            clear q5 q6 hC
            have cn : wz.cell? ⟨b3, k, none⟩ = some (.string nmk) := by have h := HF3.out p3; rwa [HNk.out] at h
            simp only [he, sel2_t]
            gi_wp2
            exact ⟨b3, by simp [sel2, *], HAz.out, fun _ => HF3.out p3⟩
          · simp only [List.getElem?_cons_zero, List.getElem?_cons_succ, Option.some.injEq] at hop
            subst hop
            try simp [Region.binds] at he
            clear q5 q6 hC
            try simp only [he, sel2_t]
            gi_wp2
            exact ⟨b3, by simp [sel2, *], HAz.out, fun h => HF3.out (by first | exact h | simpa using h)⟩
          · simp only [List.getElem?_cons_zero, List.getElem?_cons_succ, Option.some.injEq] at hop
            subst hop
            try simp [Region.binds] at he
            clear q5 q6 hC
            try simp only [he, sel2_t]
            gi_wp2
            exact ⟨b3, by simp [sel2, *], HAz.out, fun h => HF3.out (by first | exact h | simpa using h)⟩
          · simp only [List.getElem?_cons_zero, List.getElem?_cons_succ, Option.some.injEq] at hop
            subst hop
            try simp [Region.binds] at he
            clear q5 q6 hC
            have c0 : wz.cell? ⟨g, 0, none⟩ = some (.string sf) := HAz.out.cellAt HC0.out
            try simp only [he, sel2_t]
            gi_wp2
            exact ⟨b3, by simp [sel2, *], HAz.out, fun h => HF3.out (by first | exact h | simpa using h)⟩
          · simp only [List.getElem?_cons_zero, List.getElem?_cons_succ, Option.some.injEq] at hop
            subst hop
            try simp [Region.binds] at he
            clear q5 q6 hC
            try simp only [he, sel2_t]
            gi_wp2
            exact ⟨b3, by simp [sel2, *], HAz.out, fun h => HF3.out (by first | exact h | simpa using h)⟩
          · simp only [List.getElem?_cons_zero, List.getElem?_cons_succ, Option.some.injEq] at hop
            subst hop
            try simp [Region.binds] at he
            clear q5 q6 hC
            try simp only [he, sel2_t]
            gi_wp2
            exact ⟨b3, by simp [sel2, *], HAz.out, fun h => HF3.out (by first | exact h | simpa using h)⟩
          · simp at hop
        case fin =>
          rintro bb w4 ⟨b3, rfl, hA, hF⟩
          simp only [List.length_cons, List.length_nil, Nat.reduceAdd, Nat.reduceLT, decide_true, sel2_t]
          have A4 := Lib.hid (Adds.trans HA.out hA)
          clear hA hF
          cases qb
          · have HN := Lib.hid (opD_no (f := f) (k := k) (fun h => by have := HQb.out; rw [decide_eq_false_iff_not] at this; exact this h.2))
            go_wp2
            go_roundw
            case rel => exact ⟨k + 1, by go_num, HLt.out, by rw [HN.out, HOd.out], A4⟩
            case measure => simp [intOf]; have := HLt.out; omega
          · have HN := Lib.hid (opD_yes (f := f) (k := k) ⟨hk2, by have := HQb.out; rwa [decide_eq_true_eq] at this⟩)
            go_wp2
            go_roundw
            case rel => exact ⟨k + 1, by go_num, HLt.out, by rw [HN.out]; go_num, A4⟩
            case measure => simp [intOf]; have := HLt.out; omega
    · obtain rfl : k = 19 := by omega
      obtain ⟨od, hod⟩ : ∃ z : Nat, opD f 19 = z := ⟨_, rfl⟩
      have hod19 : od ≤ 19 := by rw [← hod]; exact opD_le f 19
      have HOd := Lib.hid hod
      rw [hod]
      obtain ⟨pk, hpk⟩ : ∃ z, pN (str f) 12 = z := ⟨_, rfl⟩
      have HPk := Lib.hid hpk
      have hpk12 : pk ≤ 12 := by rw [← hpk]; exact pN_le _ 12
      have HPar := Lib.hid (fun W => refParse_any (str f) pk hpk W)
      have c0 : wr.cell? ⟨g, 0, none⟩ = some (.string (str f)) := by
        obtain ⟨g', cap', e, _, hc⟩ := ((HO.out.adds A3.out).adds HA.out).form HNe.out
        simp only [Value.slice.injEq, Option.some.injEq, Addr.mk.injEq, and_true] at e
        obtain ⟨rfl, _⟩ := e
        have := hc 0 (List.length_pos_iff.2 HNe.out)
        rwa [HF0.out] at this
      obtain ⟨sf, hsf⟩ : ∃ z, str f = z := ⟨_, rfl⟩
      rw [hsf] at HPar c0
      have hwl : (0 : Int) < (ws.length : Int) := by have := List.length_pos_iff.2 HNe.out; omega
      have HN3 := Lib.hid (fun W => refNamesI_any 3 (by omega) (by omega) W)
      have HNo := Lib.hid (fun W => refNamesAll od hod19 W)
      have AW := Lib.hid (Adds.trans A2.out (Adds.trans A3.out HA.out))
      have A2r := Lib.hid (Adds.trans A3.out HA.out)
      have B3r := Lib.hid (B3.out.adds HA.out)
      have h3 : od ≠ 3 := by rw [← HOd.out]; exact opD_ne3 f 19
      have h3I : ((od : Int) == 3) = false := by rw [beq_eq_false_iff_ne]; omega
      clear hlt hk hod hpk hsf
      obtain ⟨pz, hpz⟩ : ∃ z : Int, (pk : Int) = z := ⟨_, rfl⟩
      have HPz := Lib.hid hpz
      rw [hpz] at HPar
      by_cases hp : 0 < pk
      · have hpI : (0 : Int) < pz := by omega
        have hpI2 : pz ≤ 12 := by omega
        have HP0 := Lib.hid hp
        have HBg := Lib.hid (show begD f = (3, pk) by unfold begD; rw [HPk.out, if_pos hp])
        have hL3 : (str (lettN 3)) = str (lettN 3) := rfl
        have HDoc := Lib.hid (show docI l = if ws.length ≠ 4 then ((0, 0, 0, 0, 0), 180) else endD l (runD [97, 98, 99] ws.tail (3, 0, 0, 0, pz)) by
          unfold docI
          rw [HWs.out, HF.out, HBg.out, ← HPz.out]
          show (if (3 : Nat) = 0 ∨ ws.length ≠ 4 then _ else _) = _
          by_cases h : ws.length = 4
          · rw [if_neg (by omega), if_neg (by omega)]; rfl
          · rw [if_pos (.inr h), if_pos h])
        clear hL3
        by_cases hlen : ws.length = 4
        · have HD := Lib.hid (show docI l = endD l (runD [97, 98, 99] ws.tail (3, 0, 0, 0, pz)) by rw [HDoc.out, if_neg (by omega)])
          have hlI : ((ws.length : Int) != 4) = false := by simp; omega
          have hlI2 : (ws.length : Int) = 4 := by omega
          have HLen := Lib.hid hlen
          clear hp hpk12 hod19 h3 hpz hlen
          go_wp2_with (first
            | (go_at_call 42; refine (HPar.out _).mono ?_; rintro e w5 ⟨rfl, q5⟩; have A5 := Lib.hid q5; have x4 : w5.cell? ⟨w2.heap.size, 4, none⟩ = some (.int .u32 0) := (B3r.out.adds q5).cell 4; have x4f := (B3r.out.adds q5).free 4; clear q5)
            | (go_at_call 43; refine (HN3.out _).mono ?_; rintro e w6 ⟨rfl, q6⟩; have BX := Lib.hid (((B3r.out.adds A5.out).set 4 (.int .u32 pz)).adds q6); have AQ := Lib.hid (Adds.trans (Adds.set (Adds.trans AW.out A5.out) A2.out.size 4 (.int .u32 pz)) q6); have AQ2 := Lib.hid (Adds.trans (Adds.set (Adds.trans A2r.out A5.out) (Nat.le_refl _) 4 (.int .u32 pz)) q6); have e0 : w6.cell? ⟨w.heap.size, 0, none⟩ = some (.int .i64 0) := (B1.out.adds AQ.out).cell 0; have z0 := (B1.out.adds AQ.out).free 0; have e1 : w6.cell? ⟨w.heap.size, 1, none⟩ = some (.int .i64 0) := (B1.out.adds AQ.out).cell 1; have z1 := (B1.out.adds AQ.out).free 1; have e2 : w6.cell? ⟨w.heap.size, 2, none⟩ = some (.int .i64 0) := (B1.out.adds AQ.out).cell 2; have z2 := (B1.out.adds AQ.out).free 2; have e3 : w6.cell? ⟨w.heap.size, 3, none⟩ = some (.int .i64 0) := (B1.out.adds AQ.out).cell 3; have z3 := (B1.out.adds AQ.out).free 3; have e4 : w6.cell? ⟨w.heap.size, 4, none⟩ = some (.int .u32 0) := (B1.out.adds AQ.out).cell 4; have z4 := (B1.out.adds AQ.out).free 4; have x0 : w6.cell? ⟨w2.heap.size, 0, none⟩ = some (.int .i64 0) := BX.out.cell 0; have x0f := BX.out.free 0; clear q6 x4 x4f))
          have BX2 := Lib.hid (show BkS 25 (w6.setCell ⟨w2.heap.size, 0, none⟩ (.int .i64 3)) w2.heap.size (insC (3, 0, 0, 0, pz)) from BX.out.set 0 (.int .i64 3))
          have AQ3 := Lib.hid (show Adds w1 (w6.setCell ⟨w2.heap.size, 0, none⟩ (.int .i64 3)) from Adds.set AQ.out A2.out.size _ _)
          have AQ4 := Lib.hid (show Adds w2 (w6.setCell ⟨w2.heap.size, 0, none⟩ (.int .i64 3)) from Adds.set AQ2.out (Nat.le_refl _) _ _)
          clear x0 x0f e0 e1 e2 e3 e4 z0 z1 z2 z3 z4
          generalize w6.setCell ⟨w2.heap.size, 0, none⟩ (.int .i64 3) = w8 at *
          have HOk := Lib.hid (show OkIn (3, 0, 0, 0, pz) from ⟨rfl, by show 0 ≤ pz ∧ pz < 4294967296; omega⟩)
          have HLn2 := Lib.hid (show ws.length = ([97, 98, 99] : List UInt8).length + 1 from HLen.out)
          obtain ⟨y0, hy0⟩ : ∃ y : In, (3, 0, 0, 0, pz) = y := ⟨_, rfl⟩
          obtain ⟨L, hL⟩ : ∃ L : List UInt8, [97, 98, 99] = L := ⟨_, rfl⟩
          obtain ⟨sL, hsL⟩ : ∃ z : ByteArray, (⟨#[97, 98, 99]⟩ : ByteArray) = z := ⟨_, rfl⟩
          have HSL := Lib.hid (show sL = str L by rw [← hsL, ← hL]; rfl)
          have HMem := Lib.hid (show ∀ c ∈ L, c = 97 ∨ c = 98 ∨ c = 99 ∨ c = 110 ∨ c = 105 ∨ c = 102 by rw [← hL]; decide)
          have HLL := Lib.hid (show L.length ≤ 4 by rw [← hL]; decide)
          rw [hy0] at HOk BX2
          rw [hy0, hL] at HD
          rw [hL] at HLn2
          have HLen := HLn2
          rw [hsL]
          clear hL hsL hy0 hlI hlI2 hpI hpI2
          go_loopw [10] (fun iv wr => ∃ (k : Nat) (y : In), iv = .int .i64 k ∧ k ≤ L.length ∧ Hid (Adds w1 wr) ∧ Hid (Adds w2 wr) ∧ Hid (BkS 25 wr w2.heap.size (insC y)) ∧ Hid (OkIn y) ∧ Hid (runD (L.drop k) (ws.tail.drop k) y = runD L ws.tail y0)) (fun iv _ => L.length + 1 - (intOf iv).toNat)
          case atStart => exact ⟨0, y0, rfl, Nat.zero_le _, AQ3, AQ4, BX2, HOk, Lib.hid rfl⟩
          case round =>
            obtain ⟨k, y, rfl, hk, HA, HA2, HBy, HOy, HRun⟩ := hrel
            have hj4 : (k : Int) ≤ 4 := by have := HLL.out; omega
            have hszI : (sL.size : Int) = (L.length : Nat) := by rw [HSL.out, str_size8]
            obtain ⟨y0', y1, y2, y3, y4⟩ := y
            by_cases hlt : k < L.length
            · have hltI : (k : Int) < (L.length : Nat) := by omega
              have hltS : k < sL.size := by omega
              obtain ⟨c, hc⟩ : ∃ c, L[k] = c := ⟨_, rfl⟩
              have hg : ∀ h : k < sL.size, sL[k]'h = c := fun h => by
                have e := HSL.out
                subst e
                rw [← hc]
                exact str_at L k hlt h
              have hbx : (sL[k]'hltS).toNat = c.toNat := by rw [hg]
              have HC := Lib.hid (show L.drop k = c :: L.drop (k + 1) by rw [← hc]; exact List.drop_eq_getElem_cons hlt)
              have hcm := HMem.out c (by rw [← hc]; exact List.getElem_mem hlt)
              have hk1 : k + 1 < ws.length := by have := HLen.out; omega
              obtain ⟨wd, hwd⟩ : ∃ z, ws.getD (k + 1) [] = z := ⟨_, rfl⟩
              have HW := Lib.hid (show ws.tail.drop k = wd :: ws.tail.drop (k + 1) by
                have h1 : ws.tail.drop k = ws.drop (k + 1) := by rw [List.drop_tail]
                have h2 : ws.tail.drop (k + 1) = ws.drop (k + 1 + 1) := by rw [List.drop_tail]
                rw [h1, h2, List.drop_eq_getElem_cons hk1, ← hwd, List.getD_eq_getElem?_getD, List.getElem?_eq_getElem hk1]
                rfl)
              have hwl2 : wd.length ≤ 1000 := by
                refine Nat.le_trans (words_le l wd ?_) HLl.out
                rw [HWs.out, ← hwd, List.getD_eq_getElem?_getD, List.getElem?_eq_getElem hk1]
                exact List.getElem_mem hk1
              have c1 : wr.cell? ⟨g, k + 1, none⟩ = some (.string (str wd)) := by
                obtain ⟨g', cap', e, _, hcc⟩ := (HO.out.adds HA2.out).form HNe.out
                simp only [Value.slice.injEq, Option.some.injEq, Addr.mk.injEq, and_true] at e
                obtain ⟨rfl, _⟩ := e
                have := hcc (k + 1) hk1
                rwa [hwd] at this
              have HNum := Lib.hid (fun (m : UInt8) W => number8 m (str wd) (by rw [str_size8]; exact hwl2) W)
              obtain ⟨sw, hsw⟩ : ∃ z, str wd = z := ⟨_, rfl⟩
              have HSw := Lib.hid (show sw.data.toList = wd by rw [← hsw]; rfl)
              rw [hsw] at c1 HNum
              have hk1I : (k : Int) + 1 < (ws.length : Int) := by omega
              have HLt := Lib.hid hlt
              have HRun2 := Lib.hid (show runD L ws.tail y0 = if numA (markD c) wd = true then runD (L.drop (k + 1)) (ws.tail.drop (k + 1)) (putD c (y0', y1, y2, y3, y4) ((numV (markD c) wd : Nat) : Int)) else none by
                rw [← HRun.out, HC.out, HW.out]; rfl)
              have HNB : Hid (numA (markD c) wd = true → numV (markD c) wd ≤ 4294967295) := Lib.hid (numA_le (markD c) wd)
              have x0 : wr.cell? ⟨w2.heap.size, 0, none⟩ = some (.int .i64 y0') := HBy.out.cell 0
              have x1 : wr.cell? ⟨w2.heap.size, 1, none⟩ = some (.int .i64 y1) := HBy.out.cell 1
              have x2 : wr.cell? ⟨w2.heap.size, 2, none⟩ = some (.int .i64 y2) := HBy.out.cell 2
              have x3 : wr.cell? ⟨w2.heap.size, 3, none⟩ = some (.int .i64 y3) := HBy.out.cell 3
              have x4 : wr.cell? ⟨w2.heap.size, 4, none⟩ = some (.int .u32 y4) := HBy.out.cell 4
              have xf1 := HBy.out.free 1
              have xf2 := HBy.out.free 2
              have xf3 := HBy.out.free 3
              have xf4 := HBy.out.free 4
              have e0 : wr.cell? ⟨w.heap.size, 0, none⟩ = some (.int .i64 0) := (B1.out.adds HA.out).cell 0
              have z0 := (B1.out.adds HA.out).free 0
              have e1 : wr.cell? ⟨w.heap.size, 1, none⟩ = some (.int .i64 0) := (B1.out.adds HA.out).cell 1
              have z1 := (B1.out.adds HA.out).free 1
              have e2 : wr.cell? ⟨w.heap.size, 2, none⟩ = some (.int .i64 0) := (B1.out.adds HA.out).cell 2
              have z2 := (B1.out.adds HA.out).free 2
              have e3 : wr.cell? ⟨w.heap.size, 3, none⟩ = some (.int .i64 0) := (B1.out.adds HA.out).cell 3
              have z3 := (B1.out.adds HA.out).free 3
              have e4 : wr.cell? ⟨w.heap.size, 4, none⟩ = some (.int .u32 0) := (B1.out.adds HA.out).cell 4
              have z4 := (B1.out.adds HA.out).free 4
              clear hc hg hwd hwl2 hsw hlt hk hk1
              rcases hcm with rfl | rfl | rfl | rfl | rfl | rfl
              · have hbx2 : ((sL[k]'hltS).toNat : Int) = 97 := by rw [hbx]; rfl
                have HNm := Lib.hid (fun W => show Calls Tryz.prog 44 #[.string sw, .int .u8 114] W fun e w' => ∃ n : Nat, e = .returned (.tuple #[.int .u64 n, .bool (numA (markD 97) sw.data.toList)]) ∧ (numA (markD 97) sw.data.toList = true → n = numV (markD 97) sw.data.toList) ∧ w' = W from HNum.out 114 W)
                rw [HSw.out] at HNm
                obtain ⟨qn, hqn⟩ : ∃ z, numA (markD 97) wd = z := ⟨_, rfl⟩
                have HQn := Lib.hid hqn
                rw [hqn] at HNm
                clear hbx hqn
                cases qn
                · have HD2 := Lib.hid (show docI l = ((0, 0, 0, 0, 0), 180) by
                    rw [HD.out, HRun2.out, HQn.out]; rfl)
                  go_wp2_with (go_at_call 44; refine (HNm.out _).mono ?_; rintro e w9 ⟨n, rfl, _, rfl⟩)
                  try simp only [Exit.jump]
                  try simp only [Exit.inBlock, Exit.then]
                  refine bodyPost_ret (res_box2 rfl _ _ _ _ _ _ _ rfl ((((((B1.out.adds HA.out).set 0 (.int .i64 0)).set 1 (.int .i64 0)).set 2 (.int .i64 0)).set 3 (.int .i64 0)).set 4 (.int .u32 0)) Tryz.underlying25 rfl (by kernel_rfl)) rfl ?_
                  rw [HD2.out]
                  exact ⟨rfl, Adds.set (Adds.set (Adds.set (Adds.set (Adds.set (Adds.trans A1.out HA.out) (Nat.le_refl _) _ _) (Nat.le_refl _) _ _) (Nat.le_refl _) _ _) (Nat.le_refl _) _ _) (Nat.le_refl _) _ _⟩
                · have HD2 := Lib.hid (show runD L ws.tail y0 = runD (L.drop (k + 1)) (ws.tail.drop (k + 1)) (putD 97 (y0', y1, y2, y3, y4) ((numV (markD 97) wd : Nat) : Int)) by rw [HRun2.out, if_pos HQn.out])
                  go_wp2_with (go_at_call 44; refine (HNm.out _).mono ?_; rintro e w9 ⟨n, rfl, hn, rfl⟩; have HN := Lib.hid (hn rfl); have hnI : ((n : Nat) : Int) ≤ 4294967295 := (by have := HNB.out HQn.out; have := HN.out; omega); clear hn)
                  go_roundw
                  case rel => exact ⟨k + 1, (y0', ((n : Nat) : Int), y2, y3, y4), by go_num, HLt.out, Lib.hid (Adds.set HA.out A2.out.size _ _), Lib.hid (Adds.set HA2.out (Nat.le_refl _) _ _), Lib.hid (HBy.out.set 1 (.int .i64 (n : Nat))), Lib.hid ⟨HOy.out.op, HOy.out.imm⟩, Lib.hid (by rw [HD2.out, ← HN.out]; rfl)⟩
                  case measure => simp [intOf]; have := HLt.out; omega
              · have hbx2 : ((sL[k]'hltS).toNat : Int) = 98 := by rw [hbx]; rfl
                have HNm := Lib.hid (fun W => show Calls Tryz.prog 44 #[.string sw, .int .u8 114] W fun e w' => ∃ n : Nat, e = .returned (.tuple #[.int .u64 n, .bool (numA (markD 98) sw.data.toList)]) ∧ (numA (markD 98) sw.data.toList = true → n = numV (markD 98) sw.data.toList) ∧ w' = W from HNum.out 114 W)
                rw [HSw.out] at HNm
                obtain ⟨qn, hqn⟩ : ∃ z, numA (markD 98) wd = z := ⟨_, rfl⟩
                have HQn := Lib.hid hqn
                rw [hqn] at HNm
                clear hbx hqn
                cases qn
                · have HD2 := Lib.hid (show docI l = ((0, 0, 0, 0, 0), 180) by
                    rw [HD.out, HRun2.out, HQn.out]; rfl)
                  go_wp2_with (go_at_call 44; refine (HNm.out _).mono ?_; rintro e w9 ⟨n, rfl, _, rfl⟩)
                  try simp only [Exit.jump]
                  try simp only [Exit.inBlock, Exit.then]
                  refine bodyPost_ret (res_box2 rfl _ _ _ _ _ _ _ rfl ((((((B1.out.adds HA.out).set 0 (.int .i64 0)).set 1 (.int .i64 0)).set 2 (.int .i64 0)).set 3 (.int .i64 0)).set 4 (.int .u32 0)) Tryz.underlying25 rfl (by kernel_rfl)) rfl ?_
                  rw [HD2.out]
                  exact ⟨rfl, Adds.set (Adds.set (Adds.set (Adds.set (Adds.set (Adds.trans A1.out HA.out) (Nat.le_refl _) _ _) (Nat.le_refl _) _ _) (Nat.le_refl _) _ _) (Nat.le_refl _) _ _) (Nat.le_refl _) _ _⟩
                · have HD2 := Lib.hid (show runD L ws.tail y0 = runD (L.drop (k + 1)) (ws.tail.drop (k + 1)) (putD 98 (y0', y1, y2, y3, y4) ((numV (markD 98) wd : Nat) : Int)) by rw [HRun2.out, if_pos HQn.out])
                  go_wp2_with (go_at_call 44; refine (HNm.out _).mono ?_; rintro e w9 ⟨n, rfl, hn, rfl⟩; have HN := Lib.hid (hn rfl); have hnI : ((n : Nat) : Int) ≤ 4294967295 := (by have := HNB.out HQn.out; have := HN.out; omega); clear hn)
                  go_roundw
                  case rel => exact ⟨k + 1, (y0', y1, ((n : Nat) : Int), y3, y4), by go_num, HLt.out, Lib.hid (Adds.set HA.out A2.out.size _ _), Lib.hid (Adds.set HA2.out (Nat.le_refl _) _ _), Lib.hid (HBy.out.set 2 (.int .i64 (n : Nat))), Lib.hid ⟨HOy.out.op, HOy.out.imm⟩, Lib.hid (by rw [HD2.out, ← HN.out]; rfl)⟩
                  case measure => simp [intOf]; have := HLt.out; omega
              · have hbx2 : ((sL[k]'hltS).toNat : Int) = 99 := by rw [hbx]; rfl
                have HNm := Lib.hid (fun W => show Calls Tryz.prog 44 #[.string sw, .int .u8 114] W fun e w' => ∃ n : Nat, e = .returned (.tuple #[.int .u64 n, .bool (numA (markD 99) sw.data.toList)]) ∧ (numA (markD 99) sw.data.toList = true → n = numV (markD 99) sw.data.toList) ∧ w' = W from HNum.out 114 W)
                rw [HSw.out] at HNm
                obtain ⟨qn, hqn⟩ : ∃ z, numA (markD 99) wd = z := ⟨_, rfl⟩
                have HQn := Lib.hid hqn
                rw [hqn] at HNm
                clear hbx hqn
                cases qn
                · have HD2 := Lib.hid (show docI l = ((0, 0, 0, 0, 0), 180) by
                    rw [HD.out, HRun2.out, HQn.out]; rfl)
                  go_wp2_with (go_at_call 44; refine (HNm.out _).mono ?_; rintro e w9 ⟨n, rfl, _, rfl⟩)
                  try simp only [Exit.jump]
                  try simp only [Exit.inBlock, Exit.then]
                  refine bodyPost_ret (res_box2 rfl _ _ _ _ _ _ _ rfl ((((((B1.out.adds HA.out).set 0 (.int .i64 0)).set 1 (.int .i64 0)).set 2 (.int .i64 0)).set 3 (.int .i64 0)).set 4 (.int .u32 0)) Tryz.underlying25 rfl (by kernel_rfl)) rfl ?_
                  rw [HD2.out]
                  exact ⟨rfl, Adds.set (Adds.set (Adds.set (Adds.set (Adds.set (Adds.trans A1.out HA.out) (Nat.le_refl _) _ _) (Nat.le_refl _) _ _) (Nat.le_refl _) _ _) (Nat.le_refl _) _ _) (Nat.le_refl _) _ _⟩
                · have HD2 := Lib.hid (show runD L ws.tail y0 = runD (L.drop (k + 1)) (ws.tail.drop (k + 1)) (putD 99 (y0', y1, y2, y3, y4) ((numV (markD 99) wd : Nat) : Int)) by rw [HRun2.out, if_pos HQn.out])
                  go_wp2_with (go_at_call 44; refine (HNm.out _).mono ?_; rintro e w9 ⟨n, rfl, hn, rfl⟩; have HN := Lib.hid (hn rfl); have hnI : ((n : Nat) : Int) ≤ 4294967295 := (by have := HNB.out HQn.out; have := HN.out; omega); clear hn)
                  go_roundw
                  case rel => exact ⟨k + 1, (y0', y1, y2, ((n : Nat) : Int), y4), by go_num, HLt.out, Lib.hid (Adds.set HA.out A2.out.size _ _), Lib.hid (Adds.set HA2.out (Nat.le_refl _) _ _), Lib.hid (HBy.out.set 3 (.int .i64 (n : Nat))), Lib.hid ⟨HOy.out.op, HOy.out.imm⟩, Lib.hid (by rw [HD2.out, ← HN.out]; rfl)⟩
                  case measure => simp [intOf]; have := HLt.out; omega
              · have hbx2 : ((sL[k]'hltS).toNat : Int) = 110 := by rw [hbx]; rfl
                have HNm := Lib.hid (fun W => show Calls Tryz.prog 44 #[.string sw, .int .u8 0] W fun e w' => ∃ n : Nat, e = .returned (.tuple #[.int .u64 n, .bool (numA (markD 110) sw.data.toList)]) ∧ (numA (markD 110) sw.data.toList = true → n = numV (markD 110) sw.data.toList) ∧ w' = W from HNum.out 0 W)
                rw [HSw.out] at HNm
                obtain ⟨qn, hqn⟩ : ∃ z, numA (markD 110) wd = z := ⟨_, rfl⟩
                have HQn := Lib.hid hqn
                rw [hqn] at HNm
                clear hbx hqn
                cases qn
                · have HD2 := Lib.hid (show docI l = ((0, 0, 0, 0, 0), 180) by
                    rw [HD.out, HRun2.out, HQn.out]; rfl)
                  go_wp2_with (go_at_call 44; refine (HNm.out _).mono ?_; rintro e w9 ⟨n, rfl, _, rfl⟩)
                  try simp only [Exit.jump]
                  try simp only [Exit.inBlock, Exit.then]
                  refine bodyPost_ret (res_box2 rfl _ _ _ _ _ _ _ rfl ((((((B1.out.adds HA.out).set 0 (.int .i64 0)).set 1 (.int .i64 0)).set 2 (.int .i64 0)).set 3 (.int .i64 0)).set 4 (.int .u32 0)) Tryz.underlying25 rfl (by kernel_rfl)) rfl ?_
                  rw [HD2.out]
                  exact ⟨rfl, Adds.set (Adds.set (Adds.set (Adds.set (Adds.set (Adds.trans A1.out HA.out) (Nat.le_refl _) _ _) (Nat.le_refl _) _ _) (Nat.le_refl _) _ _) (Nat.le_refl _) _ _) (Nat.le_refl _) _ _⟩
                · have HD2 := Lib.hid (show runD L ws.tail y0 = runD (L.drop (k + 1)) (ws.tail.drop (k + 1)) (putD 110 (y0', y1, y2, y3, y4) ((numV (markD 110) wd : Nat) : Int)) by rw [HRun2.out, if_pos HQn.out])
                  go_wp2_with (go_at_call 44; refine (HNm.out _).mono ?_; rintro e w9 ⟨n, rfl, hn, rfl⟩; have HN := Lib.hid (hn rfl); have hnI : ((n : Nat) : Int) ≤ 4294967295 := (by have := HNB.out HQn.out; have := HN.out; omega); clear hn)
                  go_roundw
                  case rel => exact ⟨k + 1, (y0', y1, y2, ((n : Nat) : Int), y4), by go_num, HLt.out, Lib.hid (Adds.set HA.out A2.out.size _ _), Lib.hid (Adds.set HA2.out (Nat.le_refl _) _ _), Lib.hid (HBy.out.set 3 (.int .i64 (n : Nat))), Lib.hid ⟨HOy.out.op, HOy.out.imm⟩, Lib.hid (by rw [HD2.out, ← HN.out]; rfl)⟩
                  case measure => simp [intOf]; have := HLt.out; omega
              · have hbx2 : ((sL[k]'hltS).toNat : Int) = 105 := by rw [hbx]; rfl
                have HNm := Lib.hid (fun W => show Calls Tryz.prog 44 #[.string sw, .int .u8 0] W fun e w' => ∃ n : Nat, e = .returned (.tuple #[.int .u64 n, .bool (numA (markD 105) sw.data.toList)]) ∧ (numA (markD 105) sw.data.toList = true → n = numV (markD 105) sw.data.toList) ∧ w' = W from HNum.out 0 W)
                rw [HSw.out] at HNm
                obtain ⟨qn, hqn⟩ : ∃ z, numA (markD 105) wd = z := ⟨_, rfl⟩
                have HQn := Lib.hid hqn
                rw [hqn] at HNm
                clear hbx hqn
                cases qn
                · have HD2 := Lib.hid (show docI l = ((0, 0, 0, 0, 0), 180) by
                    rw [HD.out, HRun2.out, HQn.out]; rfl)
                  go_wp2_with (go_at_call 44; refine (HNm.out _).mono ?_; rintro e w9 ⟨n, rfl, _, rfl⟩)
                  try simp only [Exit.jump]
                  try simp only [Exit.inBlock, Exit.then]
                  refine bodyPost_ret (res_box2 rfl _ _ _ _ _ _ _ rfl ((((((B1.out.adds HA.out).set 0 (.int .i64 0)).set 1 (.int .i64 0)).set 2 (.int .i64 0)).set 3 (.int .i64 0)).set 4 (.int .u32 0)) Tryz.underlying25 rfl (by kernel_rfl)) rfl ?_
                  rw [HD2.out]
                  exact ⟨rfl, Adds.set (Adds.set (Adds.set (Adds.set (Adds.set (Adds.trans A1.out HA.out) (Nat.le_refl _) _ _) (Nat.le_refl _) _ _) (Nat.le_refl _) _ _) (Nat.le_refl _) _ _) (Nat.le_refl _) _ _⟩
                · have HD2 := Lib.hid (show runD L ws.tail y0 = runD (L.drop (k + 1)) (ws.tail.drop (k + 1)) (putD 105 (y0', y1, y2, y3, y4) ((numV (markD 105) wd : Nat) : Int)) by rw [HRun2.out, if_pos HQn.out])
                  go_wp2_with (go_at_call 44; refine (HNm.out _).mono ?_; rintro e w9 ⟨n, rfl, hn, rfl⟩; have HN := Lib.hid (hn rfl); have hnI : ((n : Nat) : Int) ≤ 4294967295 := (by have := HNB.out HQn.out; have := HN.out; omega); clear hn)
                  go_roundw
                  case rel => exact ⟨k + 1, (y0', y1, y2, y3, ((n : Nat) : Int)), by go_num, HLt.out, Lib.hid (Adds.set HA.out A2.out.size _ _), Lib.hid (Adds.set HA2.out (Nat.le_refl _) _ _), Lib.hid (HBy.out.set 4 (.int .u32 (n : Nat))), Lib.hid ⟨HOy.out.op, by have := HNB.out HQn.out; have := HN.out; simp only; omega⟩, Lib.hid (by rw [HD2.out, ← HN.out]; rfl)⟩
                  case measure => simp [intOf]; have := HLt.out; omega
              · have hbx2 : ((sL[k]'hltS).toNat : Int) = 102 := by rw [hbx]; rfl
                have HNm := Lib.hid (fun W => show Calls Tryz.prog 44 #[.string sw, .int .u8 102] W fun e w' => ∃ n : Nat, e = .returned (.tuple #[.int .u64 n, .bool (numA (markD 102) sw.data.toList)]) ∧ (numA (markD 102) sw.data.toList = true → n = numV (markD 102) sw.data.toList) ∧ w' = W from HNum.out 102 W)
                rw [HSw.out] at HNm
                obtain ⟨qn, hqn⟩ : ∃ z, numA (markD 102) wd = z := ⟨_, rfl⟩
                have HQn := Lib.hid hqn
                rw [hqn] at HNm
                clear hbx hqn
                cases qn
                · have HD2 := Lib.hid (show docI l = ((0, 0, 0, 0, 0), 180) by
                    rw [HD.out, HRun2.out, HQn.out]; rfl)
                  go_wp2_with (go_at_call 44; refine (HNm.out _).mono ?_; rintro e w9 ⟨n, rfl, _, rfl⟩)
                  try simp only [Exit.jump]
                  try simp only [Exit.inBlock, Exit.then]
                  refine bodyPost_ret (res_box2 rfl _ _ _ _ _ _ _ rfl ((((((B1.out.adds HA.out).set 0 (.int .i64 0)).set 1 (.int .i64 0)).set 2 (.int .i64 0)).set 3 (.int .i64 0)).set 4 (.int .u32 0)) Tryz.underlying25 rfl (by kernel_rfl)) rfl ?_
                  rw [HD2.out]
                  exact ⟨rfl, Adds.set (Adds.set (Adds.set (Adds.set (Adds.set (Adds.trans A1.out HA.out) (Nat.le_refl _) _ _) (Nat.le_refl _) _ _) (Nat.le_refl _) _ _) (Nat.le_refl _) _ _) (Nat.le_refl _) _ _⟩
                · have HD2 := Lib.hid (show runD L ws.tail y0 = runD (L.drop (k + 1)) (ws.tail.drop (k + 1)) (putD 102 (y0', y1, y2, y3, y4) ((numV (markD 102) wd : Nat) : Int)) by rw [HRun2.out, if_pos HQn.out])
                  go_wp2_with (go_at_call 44; refine (HNm.out _).mono ?_; rintro e w9 ⟨n, rfl, hn, rfl⟩; have HN := Lib.hid (hn rfl); have hnI : ((n : Nat) : Int) ≤ 4294967295 := (by have := HNB.out HQn.out; have := HN.out; omega); clear hn)
                  go_roundw
                  case rel => exact ⟨k + 1, (y0', y1, y2, y3, ((n : Nat) : Int)), by go_num, HLt.out, Lib.hid (Adds.set HA.out A2.out.size _ _), Lib.hid (Adds.set HA2.out (Nat.le_refl _) _ _), Lib.hid (HBy.out.set 4 (.int .u32 (n : Nat))), Lib.hid ⟨HOy.out.op, by have := HNB.out HQn.out; have := HN.out; simp only; omega⟩, Lib.hid (by rw [HD2.out, ← HN.out]; rfl)⟩
                  case measure => simp [intOf]; have := HLt.out; omega
            · have hke : k = L.length := by omega
              have hkI : ¬ (k : Int) < (L.length : Nat) := by omega
              have HEnd := Lib.hid (show docI l = endD l (some (y0', y1, y2, y3, y4)) by
                have h := HRun.out
                rw [hke, List.drop_length] at h
                rw [HD.out, ← h]; rfl)
              have HRt := Lib.hid (fun W => refRight_any (y0', y1, y2, y3, y4) HOy.out W)
              have x0 : wr.cell? ⟨w2.heap.size, 0, none⟩ = some (.int .i64 y0') := HBy.out.cell 0
              have x1 : wr.cell? ⟨w2.heap.size, 1, none⟩ = some (.int .i64 y1) := HBy.out.cell 1
              have x2 : wr.cell? ⟨w2.heap.size, 2, none⟩ = some (.int .i64 y2) := HBy.out.cell 2
              have x3 : wr.cell? ⟨w2.heap.size, 3, none⟩ = some (.int .i64 y3) := HBy.out.cell 3
              have x4 : wr.cell? ⟨w2.heap.size, 4, none⟩ = some (.int .u32 y4) := HBy.out.cell 4
              clear hk hlt hke
              by_cases hm : mayI (y0', y1, y2, y3, y4) = true
              · have HTx := Lib.hid (fun W (h : Adds w W) => refText8 (y0', y1, y2, y3, y4) hm W (HV.out.below h))
                have HMay := Lib.hid hm
                rw [hm] at HRt
                obtain ⟨qe, hqe⟩ : ∃ z, decide (textI (y0', y1, y2, y3, y4) = l) = z := ⟨_, rfl⟩
                have HQe := Lib.hid hqe
                have hse : ((str (textI (y0', y1, y2, y3, y4))).toList == s.toList) = qe := by rw [HSl.out]; exact str_eqb6 _ _ _ (by rw [← hqe]; simp)
                obtain ⟨st, hst⟩ : ∃ z, str (textI (y0', y1, y2, y3, y4)) = z := ⟨_, rfl⟩
                rw [hst] at HTx hse
                clear hm hqe hst
                cases qe
                · have HD2 := Lib.hid (show docI l = ((0, 0, 0, 0, 0), 180) by
                    rw [HEnd.out]; unfold endD
                    exact if_neg (fun h => by have := HQe.out; rw [decide_eq_false_iff_not] at this; exact this h.2))
                  go_wp2_with (first
                    | (go_at_call 13; refine (HRt.out _).mono ?_; rintro e w9 ⟨rfl, q9⟩; have A9 := Lib.hid (Adds.trans HA.out q9); have b9 := HBy.out.adds q9; have x0 : w9.cell? ⟨w2.heap.size, 0, none⟩ = some (.int .i64 y0') := b9.cell 0; have x1 : w9.cell? ⟨w2.heap.size, 1, none⟩ = some (.int .i64 y1) := b9.cell 1; have x2 : w9.cell? ⟨w2.heap.size, 2, none⟩ = some (.int .i64 y2) := b9.cell 2; have x3 : w9.cell? ⟨w2.heap.size, 3, none⟩ = some (.int .i64 y3) := b9.cell 3; have x4 : w9.cell? ⟨w2.heap.size, 4, none⟩ = some (.int .u32 y4) := b9.cell 4; clear b9 q9)
                    | (go_at_call 14; refine (HTx.out _ (Adds.trans A1.out A9.out)).mono ?_; rintro e wt ⟨rfl, qt⟩; have AT := Lib.hid (Adds.trans A9.out qt); have e0 : wt.cell? ⟨w.heap.size, 0, none⟩ = some (.int .i64 0) := (B1.out.adds AT.out).cell 0; have z0 := (B1.out.adds AT.out).free 0; have e1 : wt.cell? ⟨w.heap.size, 1, none⟩ = some (.int .i64 0) := (B1.out.adds AT.out).cell 1; have z1 := (B1.out.adds AT.out).free 1; have e2 : wt.cell? ⟨w.heap.size, 2, none⟩ = some (.int .i64 0) := (B1.out.adds AT.out).cell 2; have z2 := (B1.out.adds AT.out).free 2; have e3 : wt.cell? ⟨w.heap.size, 3, none⟩ = some (.int .i64 0) := (B1.out.adds AT.out).cell 3; have z3 := (B1.out.adds AT.out).free 3; have e4 : wt.cell? ⟨w.heap.size, 4, none⟩ = some (.int .u32 0) := (B1.out.adds AT.out).cell 4; have z4 := (B1.out.adds AT.out).free 4; clear qt))
                  try simp only [Exit.jump]
                  try simp only [Exit.inBlock, Exit.then]
                  refine bodyPost_ret (res_box2 rfl _ _ _ _ _ _ _ rfl ((((((B1.out.adds AT.out).set 0 (.int .i64 0)).set 1 (.int .i64 0)).set 2 (.int .i64 0)).set 3 (.int .i64 0)).set 4 (.int .u32 0)) Tryz.underlying25 rfl (by kernel_rfl)) rfl ?_
                  rw [HD2.out]
                  exact ⟨rfl, Adds.set (Adds.set (Adds.set (Adds.set (Adds.set (Adds.trans A1.out AT.out) (Nat.le_refl _) _ _) (Nat.le_refl _) _ _) (Nat.le_refl _) _ _) (Nat.le_refl _) _ _) (Nat.le_refl _) _ _⟩
                · have HD2 := Lib.hid (show docI l = ((y0', y1, y2, y3, y4), 0) by
                    rw [HEnd.out]; unfold endD
                    exact if_pos ⟨HMay.out, by have := HQe.out; rwa [decide_eq_true_eq] at this⟩)
                  go_wp2_with (first
                    | (go_at_call 13; refine (HRt.out _).mono ?_; rintro e w9 ⟨rfl, q9⟩; have A9 := Lib.hid (Adds.trans HA.out q9); have B9 := Lib.hid (HBy.out.adds q9); have x0 : w9.cell? ⟨w2.heap.size, 0, none⟩ = some (.int .i64 y0') := B9.out.cell 0; have x1 : w9.cell? ⟨w2.heap.size, 1, none⟩ = some (.int .i64 y1) := B9.out.cell 1; have x2 : w9.cell? ⟨w2.heap.size, 2, none⟩ = some (.int .i64 y2) := B9.out.cell 2; have x3 : w9.cell? ⟨w2.heap.size, 3, none⟩ = some (.int .i64 y3) := B9.out.cell 3; have x4 : w9.cell? ⟨w2.heap.size, 4, none⟩ = some (.int .u32 y4) := B9.out.cell 4; clear q9)
                    | (go_at_call 14; refine (HTx.out _ (Adds.trans A1.out A9.out)).mono ?_; rintro e wt ⟨rfl, qt⟩; have AT := Lib.hid (Adds.trans A9.out qt); have bt := B9.out.adds qt; have x0 : wt.cell? ⟨w2.heap.size, 0, none⟩ = some (.int .i64 y0') := bt.cell 0; have x1 : wt.cell? ⟨w2.heap.size, 1, none⟩ = some (.int .i64 y1) := bt.cell 1; have x2 : wt.cell? ⟨w2.heap.size, 2, none⟩ = some (.int .i64 y2) := bt.cell 2; have x3 : wt.cell? ⟨w2.heap.size, 3, none⟩ = some (.int .i64 y3) := bt.cell 3; have x4 : wt.cell? ⟨w2.heap.size, 4, none⟩ = some (.int .u32 y4) := bt.cell 4; have e0 : wt.cell? ⟨w.heap.size, 0, none⟩ = some (.int .i64 0) := (B1.out.adds AT.out).cell 0; have z0 := (B1.out.adds AT.out).free 0; have e1 : wt.cell? ⟨w.heap.size, 1, none⟩ = some (.int .i64 0) := (B1.out.adds AT.out).cell 1; have z1 := (B1.out.adds AT.out).free 1; have e2 : wt.cell? ⟨w.heap.size, 2, none⟩ = some (.int .i64 0) := (B1.out.adds AT.out).cell 2; have z2 := (B1.out.adds AT.out).free 2; have e3 : wt.cell? ⟨w.heap.size, 3, none⟩ = some (.int .i64 0) := (B1.out.adds AT.out).cell 3; have z3 := (B1.out.adds AT.out).free 3; have e4 : wt.cell? ⟨w.heap.size, 4, none⟩ = some (.int .u32 0) := (B1.out.adds AT.out).cell 4; have z4 := (B1.out.adds AT.out).free 4; clear bt qt))
                  try simp only [Exit.jump]
                  try simp only [Exit.inBlock, Exit.then]
                  refine bodyPost_ret (res_box2 rfl _ _ _ _ _ _ _ rfl ((((((B1.out.adds AT.out).set 0 (.int .i64 y0')).set 1 (.int .i64 y1)).set 2 (.int .i64 y2)).set 3 (.int .i64 y3)).set 4 (.int .u32 y4)) Tryz.underlying25 rfl (by kernel_rfl)) rfl ?_
                  rw [HD2.out]
                  exact ⟨rfl, Adds.set (Adds.set (Adds.set (Adds.set (Adds.set (Adds.trans A1.out AT.out) (Nat.le_refl _) _ _) (Nat.le_refl _) _ _) (Nat.le_refl _) _ _) (Nat.le_refl _) _ _) (Nat.le_refl _) _ _⟩
              · have HD2 := Lib.hid (show docI l = ((0, 0, 0, 0, 0), 180) by
                  rw [HEnd.out]; unfold endD
                  exact if_neg (fun h => hm h.1))
                rw [Bool.eq_false_iff.2 hm] at HRt
                clear hm
                go_wp2_with (go_at_call 13; refine (HRt.out _).mono ?_; rintro e w9 ⟨rfl, q9⟩; have A9 := Lib.hid (Adds.trans HA.out q9); have e0 : w9.cell? ⟨w.heap.size, 0, none⟩ = some (.int .i64 0) := (B1.out.adds A9.out).cell 0; have z0 := (B1.out.adds A9.out).free 0; have e1 : w9.cell? ⟨w.heap.size, 1, none⟩ = some (.int .i64 0) := (B1.out.adds A9.out).cell 1; have z1 := (B1.out.adds A9.out).free 1; have e2 : w9.cell? ⟨w.heap.size, 2, none⟩ = some (.int .i64 0) := (B1.out.adds A9.out).cell 2; have z2 := (B1.out.adds A9.out).free 2; have e3 : w9.cell? ⟨w.heap.size, 3, none⟩ = some (.int .i64 0) := (B1.out.adds A9.out).cell 3; have z3 := (B1.out.adds A9.out).free 3; have e4 : w9.cell? ⟨w.heap.size, 4, none⟩ = some (.int .u32 0) := (B1.out.adds A9.out).cell 4; have z4 := (B1.out.adds A9.out).free 4; clear q9)
                try simp only [Exit.jump]
                try simp only [Exit.inBlock, Exit.then]
                refine bodyPost_ret (res_box2 rfl _ _ _ _ _ _ _ rfl ((((((B1.out.adds A9.out).set 0 (.int .i64 0)).set 1 (.int .i64 0)).set 2 (.int .i64 0)).set 3 (.int .i64 0)).set 4 (.int .u32 0)) Tryz.underlying25 rfl (by kernel_rfl)) rfl ?_
                rw [HD2.out]
                exact ⟨rfl, Adds.set (Adds.set (Adds.set (Adds.set (Adds.set (Adds.trans A1.out A9.out) (Nat.le_refl _) _ _) (Nat.le_refl _) _ _) (Nat.le_refl _) _ _) (Nat.le_refl _) _ _) (Nat.le_refl _) _ _⟩
        · have HD := Lib.hid (show docI l = ((0, 0, 0, 0, 0), 180) by rw [HDoc.out, if_pos hlen])
          have hlI : ((ws.length : Int) != 4) = true := by simp; omega
          have hlI2 : ¬ (ws.length : Int) = 4 := by omega
          clear hp hpk12 hod19 h3 hpz hlen
          go_wp2_with (first
            | (go_at_call 42; refine (HPar.out _).mono ?_; rintro e w5 ⟨rfl, q5⟩; have A5 := Lib.hid q5; have x4 : w5.cell? ⟨w2.heap.size, 4, none⟩ = some (.int .u32 0) := (B3r.out.adds q5).cell 4; have x4f := (B3r.out.adds q5).free 4; clear q5)
            | (go_at_call 43; refine (HN3.out _).mono ?_; rintro e w6 ⟨rfl, q6⟩; have BX := Lib.hid (((B3r.out.adds A5.out).set 4 (.int .u32 pz)).adds q6); have AQ := Lib.hid (Adds.trans (Adds.set (Adds.trans AW.out A5.out) A2.out.size 4 (.int .u32 pz)) q6); have AQ2 := Lib.hid (Adds.trans (Adds.set (Adds.trans A2r.out A5.out) (Nat.le_refl _) 4 (.int .u32 pz)) q6); have e0 : w6.cell? ⟨w.heap.size, 0, none⟩ = some (.int .i64 0) := (B1.out.adds AQ.out).cell 0; have z0 := (B1.out.adds AQ.out).free 0; have e1 : w6.cell? ⟨w.heap.size, 1, none⟩ = some (.int .i64 0) := (B1.out.adds AQ.out).cell 1; have z1 := (B1.out.adds AQ.out).free 1; have e2 : w6.cell? ⟨w.heap.size, 2, none⟩ = some (.int .i64 0) := (B1.out.adds AQ.out).cell 2; have z2 := (B1.out.adds AQ.out).free 2; have e3 : w6.cell? ⟨w.heap.size, 3, none⟩ = some (.int .i64 0) := (B1.out.adds AQ.out).cell 3; have z3 := (B1.out.adds AQ.out).free 3; have e4 : w6.cell? ⟨w.heap.size, 4, none⟩ = some (.int .u32 0) := (B1.out.adds AQ.out).cell 4; have z4 := (B1.out.adds AQ.out).free 4; have x0 : w6.cell? ⟨w2.heap.size, 0, none⟩ = some (.int .i64 0) := BX.out.cell 0; have x0f := BX.out.free 0; clear q6 x4 x4f))
          try simp only [Exit.jump]
          try simp only [Exit.inBlock, Exit.then]
          refine bodyPost_ret (res_box2 rfl _ _ _ _ _ _ _ rfl ((((((B1.out.adds AQ.out).set 0 (.int .i64 0)).set 1 (.int .i64 0)).set 2 (.int .i64 0)).set 3 (.int .i64 0)).set 4 (.int .u32 0)) Tryz.underlying25 rfl (by kernel_rfl)) rfl ?_
          rw [HD.out]
          exact ⟨rfl, Adds.set (Adds.set (Adds.set (Adds.set (Adds.set (Adds.trans A1.out AQ.out) (Nat.le_refl _) _ _) (Nat.le_refl _) _ _) (Nat.le_refl _) _ _) (Nat.le_refl _) _ _) (Nat.le_refl _) _ _⟩
      · have hpI : pz = 0 := by omega
        rw [hpI] at HPar
        have HBg := Lib.hid (show begD f = (od, 0) by unfold begD; rw [HPk.out, if_neg hp, HOd.out])
        have HOd19 := Lib.hid hod19
        have HLd := Lib.hid (show lettD od = lettN od by unfold lettD; exact if_neg h3)
        have HMm : od ≠ 0 → ∀ c ∈ lettN od, c = 97 ∨ c = 98 ∨ c = 99 ∨ c = 110 ∨ c = 105 ∨ c = 102 := fun h0 => by
          have h := lettD_mem od (by omega) hod19
          rwa [HLd.out] at h
        have HLL0 : od ≠ 0 → (lettN od).length ≤ 4 := fun h0 => lett_len od (by omega) hod19
        obtain ⟨L, hL⟩ : ∃ L, lettN od = L := ⟨_, rfl⟩
        obtain ⟨sL, hsL⟩ : ∃ z, str L = z := ⟨_, rfl⟩
        rw [hL] at HNo HLd HMm HLL0
        rw [hsL] at HNo
        have HSL := Lib.hid (show sL = str L from hsL.symm)
        have hszL : (sL.size : Int) = (L.length : Nat) := by rw [← hsL, str_size8]
        have HDoc := Lib.hid (show docI l = if od = 0 ∨ ws.length ≠ L.length + 1 then ((0, 0, 0, 0, 0), 180) else endD l (runD L ws.tail ((od : Int), 0, 0, 0, 0)) by
          unfold docI
          rw [HWs.out, HF.out, HBg.out]
          dsimp only
          rw [HLd.out]
          rw [Int.natCast_zero])
        have hL45 : od = 0 → L.length = 1 := fun h => by rw [← hL, h]; rfl
        by_cases ho0 : od = 0
        · have HD := Lib.hid (show docI l = ((0, 0, 0, 0, 0), 180) by rw [HDoc.out, if_pos (.inl ho0)])
          have hoI : ((od : Int) == 0) = true := by rw [ho0]; rfl
          clear hp hpk12 hod19 h3 hpz hpI hL hsL HMm HLL0 hL45 ho0
          go_wp2_with (first
            | (go_at_call 42; refine (HPar.out _).mono ?_; rintro e w5 ⟨rfl, q5⟩; have A5 := Lib.hid q5; clear q5)
            | (go_at_call 43; refine (HNo.out _).mono ?_; rintro e w6 ⟨rfl, q6⟩; have BX := Lib.hid ((B3r.out.adds A5.out).adds q6); have AQ := Lib.hid (Adds.trans (Adds.trans AW.out A5.out) q6); have AQ2 := Lib.hid (Adds.trans (Adds.trans A2r.out A5.out) q6); have e0 : w6.cell? ⟨w.heap.size, 0, none⟩ = some (.int .i64 0) := (B1.out.adds AQ.out).cell 0; have z0 := (B1.out.adds AQ.out).free 0; have e1 : w6.cell? ⟨w.heap.size, 1, none⟩ = some (.int .i64 0) := (B1.out.adds AQ.out).cell 1; have z1 := (B1.out.adds AQ.out).free 1; have e2 : w6.cell? ⟨w.heap.size, 2, none⟩ = some (.int .i64 0) := (B1.out.adds AQ.out).cell 2; have z2 := (B1.out.adds AQ.out).free 2; have e3 : w6.cell? ⟨w.heap.size, 3, none⟩ = some (.int .i64 0) := (B1.out.adds AQ.out).cell 3; have z3 := (B1.out.adds AQ.out).free 3; have e4 : w6.cell? ⟨w.heap.size, 4, none⟩ = some (.int .u32 0) := (B1.out.adds AQ.out).cell 4; have z4 := (B1.out.adds AQ.out).free 4; have x0 : w6.cell? ⟨w2.heap.size, 0, none⟩ = some (.int .i64 0) := BX.out.cell 0; have x0f := BX.out.free 0; clear q6))
          try simp only [Exit.jump]
          try simp only [Exit.inBlock, Exit.then]
          refine bodyPost_ret (res_box2 rfl _ _ _ _ _ _ _ rfl ((((((B1.out.adds AQ.out).set 0 (.int .i64 0)).set 1 (.int .i64 0)).set 2 (.int .i64 0)).set 3 (.int .i64 0)).set 4 (.int .u32 0)) Tryz.underlying25 rfl (by kernel_rfl)) rfl ?_
          rw [HD.out]
          exact ⟨rfl, Adds.set (Adds.set (Adds.set (Adds.set (Adds.set (Adds.trans A1.out AQ.out) (Nat.le_refl _) _ _) (Nat.le_refl _) _ _) (Nat.le_refl _) _ _) (Nat.le_refl _) _ _) (Nat.le_refl _) _ _⟩
        · have hoI : ((od : Int) == 0) = false := by rw [beq_eq_false_iff_ne]; omega
          by_cases hlen : ws.length = L.length + 1
          · have HD := Lib.hid (show docI l = endD l (runD L ws.tail ((od : Int), 0, 0, 0, 0)) by rw [HDoc.out, if_neg (by omega)])
            have hlI : ((ws.length : Int) != (L.length : Nat) + 1) = false := by simp; omega
            have hlI2 : (ws.length : Int) = (L.length : Nat) + 1 := by omega
            have HLen := Lib.hid hlen
            have HMem := Lib.hid (HMm ho0)
            have HLL := Lib.hid (HLL0 ho0)
            have hLI : ((L.length : Nat) : Int) ≤ 4 := by have := HLL0 ho0; omega
            clear hp hpk12 hod19 h3 hpz hpI hL hsL HMm HLL0 hL45 ho0 hlen
            go_wp2_with (first
              | (go_at_call 42; refine (HPar.out _).mono ?_; rintro e w5 ⟨rfl, q5⟩; have A5 := Lib.hid q5; clear q5)
              | (go_at_call 43; refine (HNo.out _).mono ?_; rintro e w6 ⟨rfl, q6⟩; have BX := Lib.hid ((B3r.out.adds A5.out).adds q6); have AQ := Lib.hid (Adds.trans (Adds.trans AW.out A5.out) q6); have AQ2 := Lib.hid (Adds.trans (Adds.trans A2r.out A5.out) q6); have e0 : w6.cell? ⟨w.heap.size, 0, none⟩ = some (.int .i64 0) := (B1.out.adds AQ.out).cell 0; have z0 := (B1.out.adds AQ.out).free 0; have e1 : w6.cell? ⟨w.heap.size, 1, none⟩ = some (.int .i64 0) := (B1.out.adds AQ.out).cell 1; have z1 := (B1.out.adds AQ.out).free 1; have e2 : w6.cell? ⟨w.heap.size, 2, none⟩ = some (.int .i64 0) := (B1.out.adds AQ.out).cell 2; have z2 := (B1.out.adds AQ.out).free 2; have e3 : w6.cell? ⟨w.heap.size, 3, none⟩ = some (.int .i64 0) := (B1.out.adds AQ.out).cell 3; have z3 := (B1.out.adds AQ.out).free 3; have e4 : w6.cell? ⟨w.heap.size, 4, none⟩ = some (.int .u32 0) := (B1.out.adds AQ.out).cell 4; have z4 := (B1.out.adds AQ.out).free 4; have x0 : w6.cell? ⟨w2.heap.size, 0, none⟩ = some (.int .i64 0) := BX.out.cell 0; have x0f := BX.out.free 0; clear q6))
            have BX2 := Lib.hid (show BkS 25 (w6.setCell ⟨w2.heap.size, 0, none⟩ (.int .i64 (od : Int))) w2.heap.size (insC ((od : Int), 0, 0, 0, 0)) from BX.out.set 0 (.int .i64 (od : Int)))
            have AQ3 := Lib.hid (show Adds w1 (w6.setCell ⟨w2.heap.size, 0, none⟩ (.int .i64 (od : Int))) from Adds.set AQ.out A2.out.size _ _)
            have AQ4 := Lib.hid (show Adds w2 (w6.setCell ⟨w2.heap.size, 0, none⟩ (.int .i64 (od : Int))) from Adds.set AQ2.out (Nat.le_refl _) _ _)
            clear x0 x0f e0 e1 e2 e3 e4 z0 z1 z2 z3 z4
            generalize w6.setCell ⟨w2.heap.size, 0, none⟩ (.int .i64 (od : Int)) = w8 at *
            have HOk := Lib.hid (show OkIn ((od : Int), 0, 0, 0, 0) from ⟨wf_u8 od (by have := HOd19.out; omega), by show (0 : Int) ≤ 0 ∧ (0 : Int) < 4294967296; decide⟩)
            obtain ⟨y0, hy0⟩ : ∃ y : In, ((od : Int), 0, 0, 0, 0) = y := ⟨_, rfl⟩
            rw [hy0] at HOk BX2
            rw [hy0] at HD
            clear hy0 hlI hlI2
            go_loopw [10] (fun iv wr => ∃ (k : Nat) (y : In), iv = .int .i64 k ∧ k ≤ L.length ∧ Hid (Adds w1 wr) ∧ Hid (Adds w2 wr) ∧ Hid (BkS 25 wr w2.heap.size (insC y)) ∧ Hid (OkIn y) ∧ Hid (runD (L.drop k) (ws.tail.drop k) y = runD L ws.tail y0)) (fun iv _ => L.length + 1 - (intOf iv).toNat)
            case atStart => exact ⟨0, y0, rfl, Nat.zero_le _, AQ3, AQ4, BX2, HOk, Lib.hid rfl⟩
            case round =>
              obtain ⟨k, y, rfl, hk, HA, HA2, HBy, HOy, HRun⟩ := hrel
              have hj4 : (k : Int) ≤ 4 := by have := HLL.out; omega
              have hszI : (sL.size : Int) = (L.length : Nat) := by rw [HSL.out, str_size8]
              obtain ⟨y0', y1, y2, y3, y4⟩ := y
              by_cases hlt : k < L.length
              · have hltI : (k : Int) < (L.length : Nat) := by omega
                have hltS : k < sL.size := by omega
                obtain ⟨c, hc⟩ : ∃ c, L[k] = c := ⟨_, rfl⟩
                have hg : ∀ h : k < sL.size, sL[k]'h = c := fun h => by
                  have e := HSL.out
                  subst e
                  rw [← hc]
                  exact str_at L k hlt h
                have hbx : (sL[k]'hltS).toNat = c.toNat := by rw [hg]
                have HC := Lib.hid (show L.drop k = c :: L.drop (k + 1) by rw [← hc]; exact List.drop_eq_getElem_cons hlt)
                have hcm := HMem.out c (by rw [← hc]; exact List.getElem_mem hlt)
                have hk1 : k + 1 < ws.length := by have := HLen.out; omega
                obtain ⟨wd, hwd⟩ : ∃ z, ws.getD (k + 1) [] = z := ⟨_, rfl⟩
                have HW := Lib.hid (show ws.tail.drop k = wd :: ws.tail.drop (k + 1) by
                  have h1 : ws.tail.drop k = ws.drop (k + 1) := by rw [List.drop_tail]
                  have h2 : ws.tail.drop (k + 1) = ws.drop (k + 1 + 1) := by rw [List.drop_tail]
                  rw [h1, h2, List.drop_eq_getElem_cons hk1, ← hwd, List.getD_eq_getElem?_getD, List.getElem?_eq_getElem hk1]
                  rfl)
                have hwl2 : wd.length ≤ 1000 := by
                  refine Nat.le_trans (words_le l wd ?_) HLl.out
                  rw [HWs.out, ← hwd, List.getD_eq_getElem?_getD, List.getElem?_eq_getElem hk1]
                  exact List.getElem_mem hk1
                have c1 : wr.cell? ⟨g, k + 1, none⟩ = some (.string (str wd)) := by
                  obtain ⟨g', cap', e, _, hcc⟩ := (HO.out.adds HA2.out).form HNe.out
                  simp only [Value.slice.injEq, Option.some.injEq, Addr.mk.injEq, and_true] at e
                  obtain ⟨rfl, _⟩ := e
                  have := hcc (k + 1) hk1
                  rwa [hwd] at this
                have HNum := Lib.hid (fun (m : UInt8) W => number8 m (str wd) (by rw [str_size8]; exact hwl2) W)
                obtain ⟨sw, hsw⟩ : ∃ z, str wd = z := ⟨_, rfl⟩
                have HSw := Lib.hid (show sw.data.toList = wd by rw [← hsw]; rfl)
                rw [hsw] at c1 HNum
                have hk1I : (k : Int) + 1 < (ws.length : Int) := by omega
                have HLt := Lib.hid hlt
                have HRun2 := Lib.hid (show runD L ws.tail y0 = if numA (markD c) wd = true then runD (L.drop (k + 1)) (ws.tail.drop (k + 1)) (putD c (y0', y1, y2, y3, y4) ((numV (markD c) wd : Nat) : Int)) else none by
                  rw [← HRun.out, HC.out, HW.out]; rfl)
                have HNB : Hid (numA (markD c) wd = true → numV (markD c) wd ≤ 4294967295) := Lib.hid (numA_le (markD c) wd)
                have x0 : wr.cell? ⟨w2.heap.size, 0, none⟩ = some (.int .i64 y0') := HBy.out.cell 0
                have x1 : wr.cell? ⟨w2.heap.size, 1, none⟩ = some (.int .i64 y1) := HBy.out.cell 1
                have x2 : wr.cell? ⟨w2.heap.size, 2, none⟩ = some (.int .i64 y2) := HBy.out.cell 2
                have x3 : wr.cell? ⟨w2.heap.size, 3, none⟩ = some (.int .i64 y3) := HBy.out.cell 3
                have x4 : wr.cell? ⟨w2.heap.size, 4, none⟩ = some (.int .u32 y4) := HBy.out.cell 4
                have xf1 := HBy.out.free 1
                have xf2 := HBy.out.free 2
                have xf3 := HBy.out.free 3
                have xf4 := HBy.out.free 4
                have e0 : wr.cell? ⟨w.heap.size, 0, none⟩ = some (.int .i64 0) := (B1.out.adds HA.out).cell 0
                have z0 := (B1.out.adds HA.out).free 0
                have e1 : wr.cell? ⟨w.heap.size, 1, none⟩ = some (.int .i64 0) := (B1.out.adds HA.out).cell 1
                have z1 := (B1.out.adds HA.out).free 1
                have e2 : wr.cell? ⟨w.heap.size, 2, none⟩ = some (.int .i64 0) := (B1.out.adds HA.out).cell 2
                have z2 := (B1.out.adds HA.out).free 2
                have e3 : wr.cell? ⟨w.heap.size, 3, none⟩ = some (.int .i64 0) := (B1.out.adds HA.out).cell 3
                have z3 := (B1.out.adds HA.out).free 3
                have e4 : wr.cell? ⟨w.heap.size, 4, none⟩ = some (.int .u32 0) := (B1.out.adds HA.out).cell 4
                have z4 := (B1.out.adds HA.out).free 4
                clear hc hg hwd hwl2 hsw hlt hk hk1
                rcases hcm with rfl | rfl | rfl | rfl | rfl | rfl
                · have hbx2 : ((sL[k]'hltS).toNat : Int) = 97 := by rw [hbx]; rfl
                  have HNm := Lib.hid (fun W => show Calls Tryz.prog 44 #[.string sw, .int .u8 114] W fun e w' => ∃ n : Nat, e = .returned (.tuple #[.int .u64 n, .bool (numA (markD 97) sw.data.toList)]) ∧ (numA (markD 97) sw.data.toList = true → n = numV (markD 97) sw.data.toList) ∧ w' = W from HNum.out 114 W)
                  rw [HSw.out] at HNm
                  obtain ⟨qn, hqn⟩ : ∃ z, numA (markD 97) wd = z := ⟨_, rfl⟩
                  have HQn := Lib.hid hqn
                  rw [hqn] at HNm
                  clear hbx hqn
                  cases qn
                  · have HD2 := Lib.hid (show docI l = ((0, 0, 0, 0, 0), 180) by
                      rw [HD.out, HRun2.out, HQn.out]; rfl)
                    go_wp2_with (go_at_call 44; refine (HNm.out _).mono ?_; rintro e w9 ⟨n, rfl, _, rfl⟩)
                    try simp only [Exit.jump]
                    try simp only [Exit.inBlock, Exit.then]
                    refine bodyPost_ret (res_box2 rfl _ _ _ _ _ _ _ rfl ((((((B1.out.adds HA.out).set 0 (.int .i64 0)).set 1 (.int .i64 0)).set 2 (.int .i64 0)).set 3 (.int .i64 0)).set 4 (.int .u32 0)) Tryz.underlying25 rfl (by kernel_rfl)) rfl ?_
                    rw [HD2.out]
                    exact ⟨rfl, Adds.set (Adds.set (Adds.set (Adds.set (Adds.set (Adds.trans A1.out HA.out) (Nat.le_refl _) _ _) (Nat.le_refl _) _ _) (Nat.le_refl _) _ _) (Nat.le_refl _) _ _) (Nat.le_refl _) _ _⟩
                  · have HD2 := Lib.hid (show runD L ws.tail y0 = runD (L.drop (k + 1)) (ws.tail.drop (k + 1)) (putD 97 (y0', y1, y2, y3, y4) ((numV (markD 97) wd : Nat) : Int)) by rw [HRun2.out, if_pos HQn.out])
                    go_wp2_with (go_at_call 44; refine (HNm.out _).mono ?_; rintro e w9 ⟨n, rfl, hn, rfl⟩; have HN := Lib.hid (hn rfl); have hnI : ((n : Nat) : Int) ≤ 4294967295 := (by have := HNB.out HQn.out; have := HN.out; omega); clear hn)
                    go_roundw
                    case rel => exact ⟨k + 1, (y0', ((n : Nat) : Int), y2, y3, y4), by go_num, HLt.out, Lib.hid (Adds.set HA.out A2.out.size _ _), Lib.hid (Adds.set HA2.out (Nat.le_refl _) _ _), Lib.hid (HBy.out.set 1 (.int .i64 (n : Nat))), Lib.hid ⟨HOy.out.op, HOy.out.imm⟩, Lib.hid (by rw [HD2.out, ← HN.out]; rfl)⟩
                    case measure => simp [intOf]; have := HLt.out; omega
                · have hbx2 : ((sL[k]'hltS).toNat : Int) = 98 := by rw [hbx]; rfl
                  have HNm := Lib.hid (fun W => show Calls Tryz.prog 44 #[.string sw, .int .u8 114] W fun e w' => ∃ n : Nat, e = .returned (.tuple #[.int .u64 n, .bool (numA (markD 98) sw.data.toList)]) ∧ (numA (markD 98) sw.data.toList = true → n = numV (markD 98) sw.data.toList) ∧ w' = W from HNum.out 114 W)
                  rw [HSw.out] at HNm
                  obtain ⟨qn, hqn⟩ : ∃ z, numA (markD 98) wd = z := ⟨_, rfl⟩
                  have HQn := Lib.hid hqn
                  rw [hqn] at HNm
                  clear hbx hqn
                  cases qn
                  · have HD2 := Lib.hid (show docI l = ((0, 0, 0, 0, 0), 180) by
                      rw [HD.out, HRun2.out, HQn.out]; rfl)
                    go_wp2_with (go_at_call 44; refine (HNm.out _).mono ?_; rintro e w9 ⟨n, rfl, _, rfl⟩)
                    try simp only [Exit.jump]
                    try simp only [Exit.inBlock, Exit.then]
                    refine bodyPost_ret (res_box2 rfl _ _ _ _ _ _ _ rfl ((((((B1.out.adds HA.out).set 0 (.int .i64 0)).set 1 (.int .i64 0)).set 2 (.int .i64 0)).set 3 (.int .i64 0)).set 4 (.int .u32 0)) Tryz.underlying25 rfl (by kernel_rfl)) rfl ?_
                    rw [HD2.out]
                    exact ⟨rfl, Adds.set (Adds.set (Adds.set (Adds.set (Adds.set (Adds.trans A1.out HA.out) (Nat.le_refl _) _ _) (Nat.le_refl _) _ _) (Nat.le_refl _) _ _) (Nat.le_refl _) _ _) (Nat.le_refl _) _ _⟩
                  · have HD2 := Lib.hid (show runD L ws.tail y0 = runD (L.drop (k + 1)) (ws.tail.drop (k + 1)) (putD 98 (y0', y1, y2, y3, y4) ((numV (markD 98) wd : Nat) : Int)) by rw [HRun2.out, if_pos HQn.out])
                    go_wp2_with (go_at_call 44; refine (HNm.out _).mono ?_; rintro e w9 ⟨n, rfl, hn, rfl⟩; have HN := Lib.hid (hn rfl); have hnI : ((n : Nat) : Int) ≤ 4294967295 := (by have := HNB.out HQn.out; have := HN.out; omega); clear hn)
                    go_roundw
                    case rel => exact ⟨k + 1, (y0', y1, ((n : Nat) : Int), y3, y4), by go_num, HLt.out, Lib.hid (Adds.set HA.out A2.out.size _ _), Lib.hid (Adds.set HA2.out (Nat.le_refl _) _ _), Lib.hid (HBy.out.set 2 (.int .i64 (n : Nat))), Lib.hid ⟨HOy.out.op, HOy.out.imm⟩, Lib.hid (by rw [HD2.out, ← HN.out]; rfl)⟩
                    case measure => simp [intOf]; have := HLt.out; omega
                · have hbx2 : ((sL[k]'hltS).toNat : Int) = 99 := by rw [hbx]; rfl
                  have HNm := Lib.hid (fun W => show Calls Tryz.prog 44 #[.string sw, .int .u8 114] W fun e w' => ∃ n : Nat, e = .returned (.tuple #[.int .u64 n, .bool (numA (markD 99) sw.data.toList)]) ∧ (numA (markD 99) sw.data.toList = true → n = numV (markD 99) sw.data.toList) ∧ w' = W from HNum.out 114 W)
                  rw [HSw.out] at HNm
                  obtain ⟨qn, hqn⟩ : ∃ z, numA (markD 99) wd = z := ⟨_, rfl⟩
                  have HQn := Lib.hid hqn
                  rw [hqn] at HNm
                  clear hbx hqn
                  cases qn
                  · have HD2 := Lib.hid (show docI l = ((0, 0, 0, 0, 0), 180) by
                      rw [HD.out, HRun2.out, HQn.out]; rfl)
                    go_wp2_with (go_at_call 44; refine (HNm.out _).mono ?_; rintro e w9 ⟨n, rfl, _, rfl⟩)
                    try simp only [Exit.jump]
                    try simp only [Exit.inBlock, Exit.then]
                    refine bodyPost_ret (res_box2 rfl _ _ _ _ _ _ _ rfl ((((((B1.out.adds HA.out).set 0 (.int .i64 0)).set 1 (.int .i64 0)).set 2 (.int .i64 0)).set 3 (.int .i64 0)).set 4 (.int .u32 0)) Tryz.underlying25 rfl (by kernel_rfl)) rfl ?_
                    rw [HD2.out]
                    exact ⟨rfl, Adds.set (Adds.set (Adds.set (Adds.set (Adds.set (Adds.trans A1.out HA.out) (Nat.le_refl _) _ _) (Nat.le_refl _) _ _) (Nat.le_refl _) _ _) (Nat.le_refl _) _ _) (Nat.le_refl _) _ _⟩
                  · have HD2 := Lib.hid (show runD L ws.tail y0 = runD (L.drop (k + 1)) (ws.tail.drop (k + 1)) (putD 99 (y0', y1, y2, y3, y4) ((numV (markD 99) wd : Nat) : Int)) by rw [HRun2.out, if_pos HQn.out])
                    go_wp2_with (go_at_call 44; refine (HNm.out _).mono ?_; rintro e w9 ⟨n, rfl, hn, rfl⟩; have HN := Lib.hid (hn rfl); have hnI : ((n : Nat) : Int) ≤ 4294967295 := (by have := HNB.out HQn.out; have := HN.out; omega); clear hn)
                    go_roundw
                    case rel => exact ⟨k + 1, (y0', y1, y2, ((n : Nat) : Int), y4), by go_num, HLt.out, Lib.hid (Adds.set HA.out A2.out.size _ _), Lib.hid (Adds.set HA2.out (Nat.le_refl _) _ _), Lib.hid (HBy.out.set 3 (.int .i64 (n : Nat))), Lib.hid ⟨HOy.out.op, HOy.out.imm⟩, Lib.hid (by rw [HD2.out, ← HN.out]; rfl)⟩
                    case measure => simp [intOf]; have := HLt.out; omega
                · have hbx2 : ((sL[k]'hltS).toNat : Int) = 110 := by rw [hbx]; rfl
                  have HNm := Lib.hid (fun W => show Calls Tryz.prog 44 #[.string sw, .int .u8 0] W fun e w' => ∃ n : Nat, e = .returned (.tuple #[.int .u64 n, .bool (numA (markD 110) sw.data.toList)]) ∧ (numA (markD 110) sw.data.toList = true → n = numV (markD 110) sw.data.toList) ∧ w' = W from HNum.out 0 W)
                  rw [HSw.out] at HNm
                  obtain ⟨qn, hqn⟩ : ∃ z, numA (markD 110) wd = z := ⟨_, rfl⟩
                  have HQn := Lib.hid hqn
                  rw [hqn] at HNm
                  clear hbx hqn
                  cases qn
                  · have HD2 := Lib.hid (show docI l = ((0, 0, 0, 0, 0), 180) by
                      rw [HD.out, HRun2.out, HQn.out]; rfl)
                    go_wp2_with (go_at_call 44; refine (HNm.out _).mono ?_; rintro e w9 ⟨n, rfl, _, rfl⟩)
                    try simp only [Exit.jump]
                    try simp only [Exit.inBlock, Exit.then]
                    refine bodyPost_ret (res_box2 rfl _ _ _ _ _ _ _ rfl ((((((B1.out.adds HA.out).set 0 (.int .i64 0)).set 1 (.int .i64 0)).set 2 (.int .i64 0)).set 3 (.int .i64 0)).set 4 (.int .u32 0)) Tryz.underlying25 rfl (by kernel_rfl)) rfl ?_
                    rw [HD2.out]
                    exact ⟨rfl, Adds.set (Adds.set (Adds.set (Adds.set (Adds.set (Adds.trans A1.out HA.out) (Nat.le_refl _) _ _) (Nat.le_refl _) _ _) (Nat.le_refl _) _ _) (Nat.le_refl _) _ _) (Nat.le_refl _) _ _⟩
                  · have HD2 := Lib.hid (show runD L ws.tail y0 = runD (L.drop (k + 1)) (ws.tail.drop (k + 1)) (putD 110 (y0', y1, y2, y3, y4) ((numV (markD 110) wd : Nat) : Int)) by rw [HRun2.out, if_pos HQn.out])
                    go_wp2_with (go_at_call 44; refine (HNm.out _).mono ?_; rintro e w9 ⟨n, rfl, hn, rfl⟩; have HN := Lib.hid (hn rfl); have hnI : ((n : Nat) : Int) ≤ 4294967295 := (by have := HNB.out HQn.out; have := HN.out; omega); clear hn)
                    go_roundw
                    case rel => exact ⟨k + 1, (y0', y1, y2, ((n : Nat) : Int), y4), by go_num, HLt.out, Lib.hid (Adds.set HA.out A2.out.size _ _), Lib.hid (Adds.set HA2.out (Nat.le_refl _) _ _), Lib.hid (HBy.out.set 3 (.int .i64 (n : Nat))), Lib.hid ⟨HOy.out.op, HOy.out.imm⟩, Lib.hid (by rw [HD2.out, ← HN.out]; rfl)⟩
                    case measure => simp [intOf]; have := HLt.out; omega
                · have hbx2 : ((sL[k]'hltS).toNat : Int) = 105 := by rw [hbx]; rfl
                  have HNm := Lib.hid (fun W => show Calls Tryz.prog 44 #[.string sw, .int .u8 0] W fun e w' => ∃ n : Nat, e = .returned (.tuple #[.int .u64 n, .bool (numA (markD 105) sw.data.toList)]) ∧ (numA (markD 105) sw.data.toList = true → n = numV (markD 105) sw.data.toList) ∧ w' = W from HNum.out 0 W)
                  rw [HSw.out] at HNm
                  obtain ⟨qn, hqn⟩ : ∃ z, numA (markD 105) wd = z := ⟨_, rfl⟩
                  have HQn := Lib.hid hqn
                  rw [hqn] at HNm
                  clear hbx hqn
                  cases qn
                  · have HD2 := Lib.hid (show docI l = ((0, 0, 0, 0, 0), 180) by
                      rw [HD.out, HRun2.out, HQn.out]; rfl)
                    go_wp2_with (go_at_call 44; refine (HNm.out _).mono ?_; rintro e w9 ⟨n, rfl, _, rfl⟩)
                    try simp only [Exit.jump]
                    try simp only [Exit.inBlock, Exit.then]
                    refine bodyPost_ret (res_box2 rfl _ _ _ _ _ _ _ rfl ((((((B1.out.adds HA.out).set 0 (.int .i64 0)).set 1 (.int .i64 0)).set 2 (.int .i64 0)).set 3 (.int .i64 0)).set 4 (.int .u32 0)) Tryz.underlying25 rfl (by kernel_rfl)) rfl ?_
                    rw [HD2.out]
                    exact ⟨rfl, Adds.set (Adds.set (Adds.set (Adds.set (Adds.set (Adds.trans A1.out HA.out) (Nat.le_refl _) _ _) (Nat.le_refl _) _ _) (Nat.le_refl _) _ _) (Nat.le_refl _) _ _) (Nat.le_refl _) _ _⟩
                  · have HD2 := Lib.hid (show runD L ws.tail y0 = runD (L.drop (k + 1)) (ws.tail.drop (k + 1)) (putD 105 (y0', y1, y2, y3, y4) ((numV (markD 105) wd : Nat) : Int)) by rw [HRun2.out, if_pos HQn.out])
                    go_wp2_with (go_at_call 44; refine (HNm.out _).mono ?_; rintro e w9 ⟨n, rfl, hn, rfl⟩; have HN := Lib.hid (hn rfl); have hnI : ((n : Nat) : Int) ≤ 4294967295 := (by have := HNB.out HQn.out; have := HN.out; omega); clear hn)
                    go_roundw
                    case rel => exact ⟨k + 1, (y0', y1, y2, y3, ((n : Nat) : Int)), by go_num, HLt.out, Lib.hid (Adds.set HA.out A2.out.size _ _), Lib.hid (Adds.set HA2.out (Nat.le_refl _) _ _), Lib.hid (HBy.out.set 4 (.int .u32 (n : Nat))), Lib.hid ⟨HOy.out.op, by have := HNB.out HQn.out; have := HN.out; simp only; omega⟩, Lib.hid (by rw [HD2.out, ← HN.out]; rfl)⟩
                    case measure => simp [intOf]; have := HLt.out; omega
                · have hbx2 : ((sL[k]'hltS).toNat : Int) = 102 := by rw [hbx]; rfl
                  have HNm := Lib.hid (fun W => show Calls Tryz.prog 44 #[.string sw, .int .u8 102] W fun e w' => ∃ n : Nat, e = .returned (.tuple #[.int .u64 n, .bool (numA (markD 102) sw.data.toList)]) ∧ (numA (markD 102) sw.data.toList = true → n = numV (markD 102) sw.data.toList) ∧ w' = W from HNum.out 102 W)
                  rw [HSw.out] at HNm
                  obtain ⟨qn, hqn⟩ : ∃ z, numA (markD 102) wd = z := ⟨_, rfl⟩
                  have HQn := Lib.hid hqn
                  rw [hqn] at HNm
                  clear hbx hqn
                  cases qn
                  · have HD2 := Lib.hid (show docI l = ((0, 0, 0, 0, 0), 180) by
                      rw [HD.out, HRun2.out, HQn.out]; rfl)
                    go_wp2_with (go_at_call 44; refine (HNm.out _).mono ?_; rintro e w9 ⟨n, rfl, _, rfl⟩)
                    try simp only [Exit.jump]
                    try simp only [Exit.inBlock, Exit.then]
                    refine bodyPost_ret (res_box2 rfl _ _ _ _ _ _ _ rfl ((((((B1.out.adds HA.out).set 0 (.int .i64 0)).set 1 (.int .i64 0)).set 2 (.int .i64 0)).set 3 (.int .i64 0)).set 4 (.int .u32 0)) Tryz.underlying25 rfl (by kernel_rfl)) rfl ?_
                    rw [HD2.out]
                    exact ⟨rfl, Adds.set (Adds.set (Adds.set (Adds.set (Adds.set (Adds.trans A1.out HA.out) (Nat.le_refl _) _ _) (Nat.le_refl _) _ _) (Nat.le_refl _) _ _) (Nat.le_refl _) _ _) (Nat.le_refl _) _ _⟩
                  · have HD2 := Lib.hid (show runD L ws.tail y0 = runD (L.drop (k + 1)) (ws.tail.drop (k + 1)) (putD 102 (y0', y1, y2, y3, y4) ((numV (markD 102) wd : Nat) : Int)) by rw [HRun2.out, if_pos HQn.out])
                    go_wp2_with (go_at_call 44; refine (HNm.out _).mono ?_; rintro e w9 ⟨n, rfl, hn, rfl⟩; have HN := Lib.hid (hn rfl); have hnI : ((n : Nat) : Int) ≤ 4294967295 := (by have := HNB.out HQn.out; have := HN.out; omega); clear hn)
                    go_roundw
                    case rel => exact ⟨k + 1, (y0', y1, y2, y3, ((n : Nat) : Int)), by go_num, HLt.out, Lib.hid (Adds.set HA.out A2.out.size _ _), Lib.hid (Adds.set HA2.out (Nat.le_refl _) _ _), Lib.hid (HBy.out.set 4 (.int .u32 (n : Nat))), Lib.hid ⟨HOy.out.op, by have := HNB.out HQn.out; have := HN.out; simp only; omega⟩, Lib.hid (by rw [HD2.out, ← HN.out]; rfl)⟩
                    case measure => simp [intOf]; have := HLt.out; omega
              · have hke : k = L.length := by omega
                have hkI : ¬ (k : Int) < (L.length : Nat) := by omega
                have HEnd := Lib.hid (show docI l = endD l (some (y0', y1, y2, y3, y4)) by
                  have h := HRun.out
                  rw [hke, List.drop_length] at h
                  rw [HD.out, ← h]; rfl)
                have HRt := Lib.hid (fun W => refRight_any (y0', y1, y2, y3, y4) HOy.out W)
                have x0 : wr.cell? ⟨w2.heap.size, 0, none⟩ = some (.int .i64 y0') := HBy.out.cell 0
                have x1 : wr.cell? ⟨w2.heap.size, 1, none⟩ = some (.int .i64 y1) := HBy.out.cell 1
                have x2 : wr.cell? ⟨w2.heap.size, 2, none⟩ = some (.int .i64 y2) := HBy.out.cell 2
                have x3 : wr.cell? ⟨w2.heap.size, 3, none⟩ = some (.int .i64 y3) := HBy.out.cell 3
                have x4 : wr.cell? ⟨w2.heap.size, 4, none⟩ = some (.int .u32 y4) := HBy.out.cell 4
                clear hk hlt hke
                by_cases hm : mayI (y0', y1, y2, y3, y4) = true
                · have HTx := Lib.hid (fun W (h : Adds w W) => refText8 (y0', y1, y2, y3, y4) hm W (HV.out.below h))
                  have HMay := Lib.hid hm
                  rw [hm] at HRt
                  obtain ⟨qe, hqe⟩ : ∃ z, decide (textI (y0', y1, y2, y3, y4) = l) = z := ⟨_, rfl⟩
                  have HQe := Lib.hid hqe
                  have hse : ((str (textI (y0', y1, y2, y3, y4))).toList == s.toList) = qe := by rw [HSl.out]; exact str_eqb6 _ _ _ (by rw [← hqe]; simp)
                  obtain ⟨st, hst⟩ : ∃ z, str (textI (y0', y1, y2, y3, y4)) = z := ⟨_, rfl⟩
                  rw [hst] at HTx hse
                  clear hm hqe hst
                  cases qe
                  · have HD2 := Lib.hid (show docI l = ((0, 0, 0, 0, 0), 180) by
                      rw [HEnd.out]; unfold endD
                      exact if_neg (fun h => by have := HQe.out; rw [decide_eq_false_iff_not] at this; exact this h.2))
                    go_wp2_with (first
                      | (go_at_call 13; refine (HRt.out _).mono ?_; rintro e w9 ⟨rfl, q9⟩; have A9 := Lib.hid (Adds.trans HA.out q9); have b9 := HBy.out.adds q9; have x0 : w9.cell? ⟨w2.heap.size, 0, none⟩ = some (.int .i64 y0') := b9.cell 0; have x1 : w9.cell? ⟨w2.heap.size, 1, none⟩ = some (.int .i64 y1) := b9.cell 1; have x2 : w9.cell? ⟨w2.heap.size, 2, none⟩ = some (.int .i64 y2) := b9.cell 2; have x3 : w9.cell? ⟨w2.heap.size, 3, none⟩ = some (.int .i64 y3) := b9.cell 3; have x4 : w9.cell? ⟨w2.heap.size, 4, none⟩ = some (.int .u32 y4) := b9.cell 4; clear b9 q9)
                      | (go_at_call 14; refine (HTx.out _ (Adds.trans A1.out A9.out)).mono ?_; rintro e wt ⟨rfl, qt⟩; have AT := Lib.hid (Adds.trans A9.out qt); have e0 : wt.cell? ⟨w.heap.size, 0, none⟩ = some (.int .i64 0) := (B1.out.adds AT.out).cell 0; have z0 := (B1.out.adds AT.out).free 0; have e1 : wt.cell? ⟨w.heap.size, 1, none⟩ = some (.int .i64 0) := (B1.out.adds AT.out).cell 1; have z1 := (B1.out.adds AT.out).free 1; have e2 : wt.cell? ⟨w.heap.size, 2, none⟩ = some (.int .i64 0) := (B1.out.adds AT.out).cell 2; have z2 := (B1.out.adds AT.out).free 2; have e3 : wt.cell? ⟨w.heap.size, 3, none⟩ = some (.int .i64 0) := (B1.out.adds AT.out).cell 3; have z3 := (B1.out.adds AT.out).free 3; have e4 : wt.cell? ⟨w.heap.size, 4, none⟩ = some (.int .u32 0) := (B1.out.adds AT.out).cell 4; have z4 := (B1.out.adds AT.out).free 4; clear qt))
                    try simp only [Exit.jump]
                    try simp only [Exit.inBlock, Exit.then]
                    refine bodyPost_ret (res_box2 rfl _ _ _ _ _ _ _ rfl ((((((B1.out.adds AT.out).set 0 (.int .i64 0)).set 1 (.int .i64 0)).set 2 (.int .i64 0)).set 3 (.int .i64 0)).set 4 (.int .u32 0)) Tryz.underlying25 rfl (by kernel_rfl)) rfl ?_
                    rw [HD2.out]
                    exact ⟨rfl, Adds.set (Adds.set (Adds.set (Adds.set (Adds.set (Adds.trans A1.out AT.out) (Nat.le_refl _) _ _) (Nat.le_refl _) _ _) (Nat.le_refl _) _ _) (Nat.le_refl _) _ _) (Nat.le_refl _) _ _⟩
                  · have HD2 := Lib.hid (show docI l = ((y0', y1, y2, y3, y4), 0) by
                      rw [HEnd.out]; unfold endD
                      exact if_pos ⟨HMay.out, by have := HQe.out; rwa [decide_eq_true_eq] at this⟩)
                    go_wp2_with (first
                      | (go_at_call 13; refine (HRt.out _).mono ?_; rintro e w9 ⟨rfl, q9⟩; have A9 := Lib.hid (Adds.trans HA.out q9); have B9 := Lib.hid (HBy.out.adds q9); have x0 : w9.cell? ⟨w2.heap.size, 0, none⟩ = some (.int .i64 y0') := B9.out.cell 0; have x1 : w9.cell? ⟨w2.heap.size, 1, none⟩ = some (.int .i64 y1) := B9.out.cell 1; have x2 : w9.cell? ⟨w2.heap.size, 2, none⟩ = some (.int .i64 y2) := B9.out.cell 2; have x3 : w9.cell? ⟨w2.heap.size, 3, none⟩ = some (.int .i64 y3) := B9.out.cell 3; have x4 : w9.cell? ⟨w2.heap.size, 4, none⟩ = some (.int .u32 y4) := B9.out.cell 4; clear q9)
                      | (go_at_call 14; refine (HTx.out _ (Adds.trans A1.out A9.out)).mono ?_; rintro e wt ⟨rfl, qt⟩; have AT := Lib.hid (Adds.trans A9.out qt); have bt := B9.out.adds qt; have x0 : wt.cell? ⟨w2.heap.size, 0, none⟩ = some (.int .i64 y0') := bt.cell 0; have x1 : wt.cell? ⟨w2.heap.size, 1, none⟩ = some (.int .i64 y1) := bt.cell 1; have x2 : wt.cell? ⟨w2.heap.size, 2, none⟩ = some (.int .i64 y2) := bt.cell 2; have x3 : wt.cell? ⟨w2.heap.size, 3, none⟩ = some (.int .i64 y3) := bt.cell 3; have x4 : wt.cell? ⟨w2.heap.size, 4, none⟩ = some (.int .u32 y4) := bt.cell 4; have e0 : wt.cell? ⟨w.heap.size, 0, none⟩ = some (.int .i64 0) := (B1.out.adds AT.out).cell 0; have z0 := (B1.out.adds AT.out).free 0; have e1 : wt.cell? ⟨w.heap.size, 1, none⟩ = some (.int .i64 0) := (B1.out.adds AT.out).cell 1; have z1 := (B1.out.adds AT.out).free 1; have e2 : wt.cell? ⟨w.heap.size, 2, none⟩ = some (.int .i64 0) := (B1.out.adds AT.out).cell 2; have z2 := (B1.out.adds AT.out).free 2; have e3 : wt.cell? ⟨w.heap.size, 3, none⟩ = some (.int .i64 0) := (B1.out.adds AT.out).cell 3; have z3 := (B1.out.adds AT.out).free 3; have e4 : wt.cell? ⟨w.heap.size, 4, none⟩ = some (.int .u32 0) := (B1.out.adds AT.out).cell 4; have z4 := (B1.out.adds AT.out).free 4; clear bt qt))
                    try simp only [Exit.jump]
                    try simp only [Exit.inBlock, Exit.then]
                    refine bodyPost_ret (res_box2 rfl _ _ _ _ _ _ _ rfl ((((((B1.out.adds AT.out).set 0 (.int .i64 y0')).set 1 (.int .i64 y1)).set 2 (.int .i64 y2)).set 3 (.int .i64 y3)).set 4 (.int .u32 y4)) Tryz.underlying25 rfl (by kernel_rfl)) rfl ?_
                    rw [HD2.out]
                    exact ⟨rfl, Adds.set (Adds.set (Adds.set (Adds.set (Adds.set (Adds.trans A1.out AT.out) (Nat.le_refl _) _ _) (Nat.le_refl _) _ _) (Nat.le_refl _) _ _) (Nat.le_refl _) _ _) (Nat.le_refl _) _ _⟩
                · have HD2 := Lib.hid (show docI l = ((0, 0, 0, 0, 0), 180) by
                    rw [HEnd.out]; unfold endD
                    exact if_neg (fun h => hm h.1))
                  rw [Bool.eq_false_iff.2 hm] at HRt
                  clear hm
                  go_wp2_with (go_at_call 13; refine (HRt.out _).mono ?_; rintro e w9 ⟨rfl, q9⟩; have A9 := Lib.hid (Adds.trans HA.out q9); have e0 : w9.cell? ⟨w.heap.size, 0, none⟩ = some (.int .i64 0) := (B1.out.adds A9.out).cell 0; have z0 := (B1.out.adds A9.out).free 0; have e1 : w9.cell? ⟨w.heap.size, 1, none⟩ = some (.int .i64 0) := (B1.out.adds A9.out).cell 1; have z1 := (B1.out.adds A9.out).free 1; have e2 : w9.cell? ⟨w.heap.size, 2, none⟩ = some (.int .i64 0) := (B1.out.adds A9.out).cell 2; have z2 := (B1.out.adds A9.out).free 2; have e3 : w9.cell? ⟨w.heap.size, 3, none⟩ = some (.int .i64 0) := (B1.out.adds A9.out).cell 3; have z3 := (B1.out.adds A9.out).free 3; have e4 : w9.cell? ⟨w.heap.size, 4, none⟩ = some (.int .u32 0) := (B1.out.adds A9.out).cell 4; have z4 := (B1.out.adds A9.out).free 4; clear q9)
                  try simp only [Exit.jump]
                  try simp only [Exit.inBlock, Exit.then]
                  refine bodyPost_ret (res_box2 rfl _ _ _ _ _ _ _ rfl ((((((B1.out.adds A9.out).set 0 (.int .i64 0)).set 1 (.int .i64 0)).set 2 (.int .i64 0)).set 3 (.int .i64 0)).set 4 (.int .u32 0)) Tryz.underlying25 rfl (by kernel_rfl)) rfl ?_
                  rw [HD2.out]
                  exact ⟨rfl, Adds.set (Adds.set (Adds.set (Adds.set (Adds.set (Adds.trans A1.out A9.out) (Nat.le_refl _) _ _) (Nat.le_refl _) _ _) (Nat.le_refl _) _ _) (Nat.le_refl _) _ _) (Nat.le_refl _) _ _⟩
          · have HD := Lib.hid (show docI l = ((0, 0, 0, 0, 0), 180) by rw [HDoc.out, if_pos (.inr hlen)])
            have hlI : ((ws.length : Int) != (L.length : Nat) + 1) = true := by simp; omega
            have hlI2 : ¬ (ws.length : Int) = (L.length : Nat) + 1 := by omega
            have hLI : ((L.length : Nat) : Int) ≤ 4 := by have := HLL0 ho0; omega
            clear hp hpk12 hod19 h3 hpz hpI hL hsL HMm HLL0 hL45 ho0 hlen
            go_wp2_with (first
              | (go_at_call 42; refine (HPar.out _).mono ?_; rintro e w5 ⟨rfl, q5⟩; have A5 := Lib.hid q5; clear q5)
              | (go_at_call 43; refine (HNo.out _).mono ?_; rintro e w6 ⟨rfl, q6⟩; have BX := Lib.hid ((B3r.out.adds A5.out).adds q6); have AQ := Lib.hid (Adds.trans (Adds.trans AW.out A5.out) q6); have AQ2 := Lib.hid (Adds.trans (Adds.trans A2r.out A5.out) q6); have e0 : w6.cell? ⟨w.heap.size, 0, none⟩ = some (.int .i64 0) := (B1.out.adds AQ.out).cell 0; have z0 := (B1.out.adds AQ.out).free 0; have e1 : w6.cell? ⟨w.heap.size, 1, none⟩ = some (.int .i64 0) := (B1.out.adds AQ.out).cell 1; have z1 := (B1.out.adds AQ.out).free 1; have e2 : w6.cell? ⟨w.heap.size, 2, none⟩ = some (.int .i64 0) := (B1.out.adds AQ.out).cell 2; have z2 := (B1.out.adds AQ.out).free 2; have e3 : w6.cell? ⟨w.heap.size, 3, none⟩ = some (.int .i64 0) := (B1.out.adds AQ.out).cell 3; have z3 := (B1.out.adds AQ.out).free 3; have e4 : w6.cell? ⟨w.heap.size, 4, none⟩ = some (.int .u32 0) := (B1.out.adds AQ.out).cell 4; have z4 := (B1.out.adds AQ.out).free 4; have x0 : w6.cell? ⟨w2.heap.size, 0, none⟩ = some (.int .i64 0) := BX.out.cell 0; have x0f := BX.out.free 0; clear q6))
            try simp only [Exit.jump]
            try simp only [Exit.inBlock, Exit.then]
            refine bodyPost_ret (res_box2 rfl _ _ _ _ _ _ _ rfl ((((((B1.out.adds AQ.out).set 0 (.int .i64 0)).set 1 (.int .i64 0)).set 2 (.int .i64 0)).set 3 (.int .i64 0)).set 4 (.int .u32 0)) Tryz.underlying25 rfl (by kernel_rfl)) rfl ?_
            rw [HD.out]
            exact ⟨rfl, Adds.set (Adds.set (Adds.set (Adds.set (Adds.set (Adds.trans A1.out AQ.out) (Nat.le_refl _) _ _) (Nat.le_refl _) _ _) (Nat.le_refl _) _ _) (Nat.le_refl _) _ _) (Nat.le_refl _) _ _⟩
end Go.Proofs.YtkodjmdghjcndaaGreatDoor
