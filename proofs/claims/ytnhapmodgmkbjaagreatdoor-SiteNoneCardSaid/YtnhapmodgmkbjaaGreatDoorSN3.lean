/- New of a list of pairs: its contract. -/
import Derived.Test.YtnhapmodgmkbjaaGreatDoorSN2
namespace Go.Proofs.YtnhapmodgmkbjaaGreatDoor
open Go Go.RowKit Go.Maps

/-- Four cells that hold a pair. -/
def At4 (w : World) (g o : Nat) (x : Pr) : Prop :=
  w.cell? ⟨g, o, none⟩ = some (.int .i64 x.1.1) ∧ w.cell? ⟨g, o + 1, none⟩ = some (.int .i64 x.1.2) ∧ w.cell? ⟨g, o + 2, none⟩ = some (.int .i64 x.2.1) ∧ w.cell? ⟨g, o + 3, none⟩ = some (.int .i64 x.2.2)
/-- v is a slice whose pairs read l in w; they lie in blocks below n. -/
def PairsW (n : Nat) (w : World) (v : Value) (l : List Pr) : Prop :=
  ∃ ao cap, v = .slice ao l.length cap ∧ l.length ≤ cap ∧ cap ≤ maxLen ∧ (l ≠ [] → ∃ g off, ao = some ⟨g, off, none⟩ ∧ g < n ∧ ∀ i, i < l.length → At4 w g (off + i * 4) (atP l i))
theorem At4.below {n : Nat} {w w' : World} {g o : Nat} {x : Pr} (h : At4 w g o x) (hg : g < n) (hb : Below n w w') : At4 w' g o x := by
  obtain ⟨h0, h1, h2, h3⟩ := h
  exact ⟨(hb.cell (p := ⟨g, o, none⟩) hg).trans h0, (hb.cell (p := ⟨g, o + 1, none⟩) hg).trans h1, (hb.cell (p := ⟨g, o + 2, none⟩) hg).trans h2, (hb.cell (p := ⟨g, o + 3, none⟩) hg).trans h3⟩
theorem PairsW.below {n : Nat} {w w' : World} {v : Value} {l : List Pr} (h : PairsW n w v l) (hb : Below n w w') : PairsW n w' v l := by
  obtain ⟨ao, cap, rfl, h1, h2, h3⟩ := h
  refine ⟨ao, cap, rfl, h1, h2, fun hl => ?_⟩
  obtain ⟨g, off, e, hg, hc⟩ := h3 hl
  exact ⟨g, off, e, hg, fun i hi => (hc i hi).below hg hb⟩
theorem PairsW.nil (n : Nat) (w : World) : PairsW n w (.slice none 0 0) [] := ⟨none, 0, rfl, by simp, by simp, fun h => absurd rfl h⟩
theorem PairsW.mono {n m : Nat} {w : World} {v : Value} {l : List Pr} (h : PairsW n w v l) (hm : n ≤ m) : PairsW m w v l := by
  obtain ⟨ao, cap, rfl, h1, h2, h3⟩ := h
  refine ⟨ao, cap, rfl, h1, h2, fun hl => ?_⟩
  obtain ⟨g, off, e, hg, hc⟩ := h3 hl
  exact ⟨g, off, e, by omega, hc⟩
theorem atP_mem {l : List Pr} {k : Nat} (h : k < l.length) : atP l k ∈ l := by unfold atP; simp [h]
theorem take_at {l : List Pr} {k : Nat} (h : k < l.length) : l.take (k + 1) = l.take k ++ [atP l k] := by
  rw [List.take_succ_eq_append_getElem h]
  simp [atP, h]
def NewPost (l : List Pr) (w : World) (e : Ending) (w' : World) : Prop :=
  ((∀ y ∈ l, mayP y = true) ∧ ∃ bp b L, e = .returned (.tuple #[.pointer (some ⟨bp, 0, none⟩), .int .i64 0]) ∧ SetP w' (.pointer (some ⟨bp, 0, none⟩)) bp b L ∧ (∀ y, y ∈ L ↔ y ∈ l) ∧ L.length ≤ l.length ∧ w.heap.size ≤ bp ∧ w.heap.size ≤ b ∧ Adds w w') ∨
  ((¬ ∀ y ∈ l, mayP y = true) ∧ e = .returned (.tuple #[.pointer none, .int .i64 2]) ∧ Adds w w')

set_option maxRecDepth 100000 in
set_option maxHeartbeats 4000000 in
theorem new_any {n : Nat} (v : Value) (l : List Pr) (hn : l.length ≤ 100000) (hok : ∀ y ∈ l, okPr y) (w : World) (hnw : n ≤ w.heap.size) (hl : PairsW n w v l) :
    Calls Tryz.prog 6 #[v] w (NewPost l w) := by
  have hmm := @run_makeMap Tryz.prog
  have HL := Lib.hid (fun (W : World) (h : Adds w W) => hl.below (h.mono hnw))
  have HOK := Lib.hid hok
  have HN := Lib.hid hn
  obtain ⟨ao, cap, rfl, h1, h2, h3⟩ := hl
  unfold maxLen at h2
  clear h3 hok hn
  go_enter Tryz.func6, Tryz.ntmps6
  go_wp2_with fail
  refine wp_scope_fwd 0 rfl ?_
  go_wp2_with fail
  obtain ⟨b, hb⟩ : ∃ b, w.heap.size = b := ⟨_, rfl⟩
  obtain ⟨w1, hw1⟩ : ∃ w1, (w.alloc (.map #[] 0)).alloc (.cells #[.map (some w.heap.size)] 46) = w1 := ⟨_, rfl⟩
  have HG1 := Lib.hid (show Gr w w1 by rw [← hw1]; exact (Gr.new _ _).alloc _)
  have HS1 := Lib.hid (show SetP w1 (.pointer (some ⟨b + 1, 0, none⟩)) (b + 1) b [] by
    refine ⟨rfl, ?_, ?_⟩
    · have := BkS.new 46 (w.alloc (.map #[] 0)) [.map (some w.heap.size)]
      rw [World.size_alloc, hb] at this
      rw [← hw1, hb]
      exact this
    · rw [← hw1, ← hb]
      exact (SetAt.made w).adds (Gr.new _ _).adds)
  have HB := Lib.hid hb
  rw [hw1]
  rw [hb]
  clear hw1 hb
  go_loopw [14] (fun i wr => ∃ (k : Nat) (Lk : List Pr), k ≤ l.length ∧ i = .int .i64 k ∧ SetP wr (.pointer (some ⟨b + 1, 0, none⟩)) (b + 1) b Lk ∧ Adds w wr ∧ (∀ y, y ∈ Lk ↔ y ∈ l.take k) ∧ Lk.length ≤ k ∧ ∀ y ∈ l.take k, mayP y = true) (fun i _ => l.length - (intOf i).toNat)
  case atStart => exact ⟨0, [], Nat.zero_le _, rfl, HS1.out, HG1.out.adds, by simp, Nat.le_refl _, by simp⟩
  case round =>
    obtain ⟨k, Lk, hk, rfl, hS, hA, hmem, hlen, hmay⟩ := hrel
    have HS := Lib.hid hS; have HA := Lib.hid hA; have HMem := Lib.hid hmem; have HLen := Lib.hid hlen; have HMay := Lib.hid hmay
    clear hS hA hmem hlen hmay
    by_cases hlt : k < l.length
    · obtain ⟨ao', cap', e, _, _, h3⟩ := HL.out wr HA.out
      simp only [Value.slice.injEq, true_and] at e
      obtain ⟨rfl, rfl⟩ := e
      obtain ⟨g, off, rfl, hg, hc⟩ := h3 (by rintro rfl; simp at hlt)
      obtain ⟨k0, k1, k2, k3⟩ := hc k hlt
      have hx := HOK.out _ (atP_mem hlt)
      have hT := take_at hlt
      obtain ⟨x, hxe⟩ : ∃ x, atP l k = x := ⟨_, rfl⟩
      have HIn := Lib.hid (show x ∈ l by rw [← hxe]; exact atP_mem hlt)
      rw [hxe] at k0 k1 k2 k3 hx hT
      have HT := Lib.hid hT
      have HX := Lib.hid hx
      have HLt := Lib.hid hlt
      have hltI : (k : Int) < l.length := by omega
      have hF := Lib.hid (show Lk.length < 1000000 by have := HLen.out; have := HN.out; omega)
      clear hc h3 hxe hx hT
      cases hm : mayP x
      · have HAdd := Lib.hid (fun (W : World) (hW : Adds wr W) => add_bad (b + 1) b _ Lk x hm W (HS.out.adds hW))
        have HM := Lib.hid hm
        obtain ⟨⟨xa, xb⟩, ⟨xc, xd⟩⟩ := x
        simp only at k0 k1 k2 k3
        clear hm hlt hk
        go_wp2_with (go_at_call 8; refine (HAdd.out _ (Gr.new wr _).adds).mono ?_; rintro e w3 ⟨rfl, h3⟩; have H3 := Lib.hid (Adds.trans HA.out ((Gr.new wr _).trans h3).adds); clear h3)
        go_step3
        refine ⟨rfl, ?_⟩
        go_wp2_with fail
        rw [Exit.noGoto_ret]
        go_ret2
        refine .inr ⟨fun hall => ?_, rfl, H3.out⟩
        have h4 := hall _ HIn.out
        rw [HM.out] at h4
        cases h4
      · have HAdd := Lib.hid (fun (W : World) (hW : Adds wr W) => add_yes (b + 1) b _ Lk x HX.out hm hF.out W (HS.out.adds hW))
        have HM := Lib.hid hm
        obtain ⟨L', hL'⟩ : ∃ L', (if x ∈ Lk then Lk else x :: Lk) = L' := ⟨_, rfl⟩
        obtain ⟨z, hz⟩ : ∃ z, decide (x ∉ Lk) = z := ⟨_, rfl⟩
        have HL' := Lib.hid (show (∀ y, y ∈ L' ↔ y ∈ l.take (k + 1)) ∧ L'.length ≤ k + 1 by
          rw [← hL', HT.out]
          by_cases hin : x ∈ Lk
          · rw [if_pos hin]
            refine ⟨fun y => ?_, by have := HLen.out; omega⟩
            rw [HMem.out, List.mem_append, List.mem_singleton]
            constructor
            · exact .inl
            · rintro (h | rfl)
              · exact h
              · exact (HMem.out _).1 hin
          · rw [if_neg hin]
            refine ⟨fun y => ?_, by have := HLen.out; simp; omega⟩
            rw [List.mem_cons, HMem.out, List.mem_append, List.mem_singleton, or_comm])
        rw [hL', hz] at HAdd
        have HMA := Lib.hid (show ∀ y ∈ l.take (k + 1), mayP y = true by
          rw [HT.out]
          intro y hy
          rcases List.mem_append.1 hy with h | h
          · exact HMay.out y h
          · rw [List.mem_singleton.1 h]; exact hm)
        obtain ⟨⟨xa, xb⟩, ⟨xc, xd⟩⟩ := x
        simp only at k0 k1 k2 k3
        clear hm hlt hk hL' hz
        go_wp2_with (go_at_call 8; refine (HAdd.out _ (Gr.new wr _).adds).mono ?_; rintro e w3 ⟨rfl, s3, t3⟩; have S3 := Lib.hid s3; have T3 := Lib.hid (TnS.own (Adds.trans HA.out (Gr.new wr _).adds) (Nat.le_of_eq HB.out) t3); clear s3 t3)
        go_roundw
        case rel => exact ⟨k + 1, L', HLt.out, rfl, S3.out, T3.out, HL'.out.1, HL'.out.2, HMA.out⟩
        case measure => simp [intOf]; have := HLt.out; omega
    · obtain rfl : k = l.length := by omega
      go_wp2_with fail
      simp only [Exit.jump]
      go_ret2
      have hm1 := HMem.out
      have hm2 := HMay.out
      rw [List.take_length] at hm1 hm2
      exact .inl ⟨hm2, b + 1, b, Lk, rfl, HS.out, hm1, HLen.out, by have := HB.out; omega, Nat.le_of_eq HB.out, HA.out⟩
end Go.Proofs.YtnhapmodgmkbjaaGreatDoor
