/- A copy of all pages: its contract. -/
import Derived.Test.YtleihmmkonakhaaDoorMF4
namespace Go.Proofs.YtleihmmkonakhaaDoor
open Go Go.RowKit Go.Maps

/-- Some pages of a memory's words, in a map. -/
structure MemPart (w : World) (b : Nat) (S : Nat → Nat) (L : List (Nat × Nat)) : Prop where
  map : MapAt w b L
  apart : (L.map (·.2)).Nodup
  page : ∀ x ∈ L, x.1 < 1048576 ∧ PBlk w x.2 (pgW S x.1) (cntP (pgW S x.1)) ∧ cntP (pgW S x.1) ≠ 0
theorem MemPart.foot_lt {w : World} {b : Nat} {S : Nat → Nat} {L : List (Nat × Nat)} (h : MemPart w b S L) {k : Nat} (hk : foot b L k) : k < w.heap.size := by
  rcases hk with rfl | hk
  · exact h.map.lt
  · obtain ⟨x, hx, rfl⟩ := List.mem_map.1 hk
    exact (h.page x hx).2.1.lt
theorem MemPart.same {w w' : World} {b : Nat} {S : Nat → Nat} {L : List (Nat × Nat)} (h : MemPart w b S L) (hb : ∀ k, foot b L k → w'.heap[k]? = w.heap[k]?) : MemPart w' b S L :=
  ⟨h.map.same (hb b (.inl rfl)), h.apart, fun x hx => ⟨(h.page x hx).1, (h.page x hx).2.1.same (hb _ (.inr (List.mem_map.2 ⟨x, hx, rfl⟩))), (h.page x hx).2.2⟩⟩
theorem MemPart.block_ne {w : World} {b : Nat} {S : Nat → Nat} {L : List (Nat × Nat)} (h : MemPart w b S L) : ∀ x ∈ L, x.2 ≠ b := fun x hx e => by
  have hp := (h.page x hx).2.1
  obtain ⟨n, es, ⟨es0, clock, h0, _⟩, _⟩ := h.map
  unfold PBlk at hp
  rw [e, h0] at hp
  cases hp
theorem MemPart.many {w : World} {b : Nat} {S : Nat → Nat} {L : List (Nat × Nat)} (h : MemPart w b S L) : L.length ≤ 1048576 := by
  have := nodup_bound 1048576 (L.map (·.1)) h.map.nodup (fun x hx => by obtain ⟨y, hy, rfl⟩ := List.mem_map.1 hx; exact (h.page y hy).1)
  simpa using this
/-- A page more, in a new block. -/
theorem MemPart.more {w w1 w2 : World} {b : Nat} {S : Nat → Nat} {L : List (Nat × Nat)} {p c : Nat} (h : MemPart w b S L) (hp : p < 1048576) (hc : w.heap.size ≤ c) (h1 : Adds w w1)
    (hB : PBlk w1 c (pgW S p) (cntP (pgW S p))) (hne : cntP (pgW S p) ≠ 0) (hM : MapAt w2 b ((p, c) :: L)) (h2 : w1.grownBy w2 (some b)) : MemPart w2 b S ((p, c) :: L) := by
  have hb := h.map.lt
  refine ⟨hM, List.nodup_cons.2 ⟨fun hk => ?_, h.apart⟩, fun x hx => ?_⟩
  · obtain ⟨x, hx, e⟩ := List.mem_map.1 hk
    have h5 := (h.page x hx).2.1.lt
    have h6 : x.2 = c := e
    omega
  · rcases List.mem_cons.1 hx with rfl | hx
    · exact ⟨hp, hB.same (h2.block c hB.lt (fun e => by cases e; omega)), hne⟩
    · have h3 := h.page x hx
      exact ⟨h3.1, h3.2.1.same ((h2.block x.2 (Nat.lt_of_lt_of_le h3.2.1.lt h1.size) (fun e => h.block_ne x hx (by simpa using e))).trans (h1.block x.2 h3.2.1.lt)), h3.2.2⟩

theorem make_hint (n : Int) (w : World) : (Instr.makeMap 50 (some (.int .i64 n))).run Tryd.prog w = .ok (.map (some w.heap.size)) (w.alloc (.map #[] 0)) := by
  simp [Instr.makeMap, run_underlying Tryd.underlying50, asInt, asIntOf, Result.andThen]
def CopiedPost (S : Nat → Nat) (w : World) (e : Ending) (w' : World) : Prop :=
  ∃ b' L', e = .returned (.map (some b')) ∧ MemL w' b' S L' ∧ Adds w w' ∧ ∀ k, foot b' L' k → w.heap.size ≤ k

set_option maxRecDepth 100000 in
set_option maxHeartbeats 4000000 in
theorem copied_any (b : Nat) (S : Nat → Nat) (L : List (Nat × Nat)) (w : World) (hM : MemL w b S L) :
    Calls Tryd.prog 38 #[.map (some b)] w (CopiedPost S w) := by
  have HM := Lib.hid hM; clear hM
  have hlen := fun ty => HM.out.map.len ty
  have hmm := make_hint
  have HI := Lib.hid (fun (f : Nat → Nat) n => show (Tryd.prog.info? 76).map (·.size) = some (pageL f n).toArray.size by rw [pageL_size]; exact info_page)
  have HO := Lib.hid (fun (f : Nat → Nat) n => show (pageL (fun _ => 0) 0).toArray.size = (pageL f n).toArray.size by rw [pageL_size, pageL_size])
  go_enter Tryd.func38, Tryd.ntmps38
  go_wp2_with (at_range; refine wpList_rangeP rfl _ rfl b L rfl (HM.out.map.same (Below.heap_alloc _ _ _ HM.out.map.lt)) ?_; intro w0 hr ha hs; have HR := Lib.hid hr; have HA := Lib.hid ha; have HZ := Lib.hid hs; clear hr ha hs)
  go_frame
  obtain ⟨wa, hwa⟩ : ∃ wa, w.alloc (.map #[] 0) = wa := ⟨_, rfl⟩
  have HAa := Lib.hid (show Adds w wa by rw [← hwa]; exact (Below.refl _ _).alloc (Nat.le_refl _) _)
  have HMd := Lib.hid (show MapAt wa w.heap.size [] by rw [← hwa]; exact MapAt.made w)
  have HSz := Lib.hid (show wa.heap.size = w.heap.size + 1 by rw [← hwa]; simp)
  rw [hwa] at HR HA HZ ⊢
  clear hwa
  obtain ⟨r, hr⟩ : ∃ r, wa.heap.size = r := ⟨_, rfl⟩
  obtain ⟨b', hb'⟩ : ∃ b', w.heap.size = b' := ⟨_, rfl⟩
  have HE := Lib.hid hr; have HE' := Lib.hid hb'
  rw [hr] at HR ⊢
  rw [hb'] at HMd ⊢
  clear hr hb' hlen
  have HP0 := Lib.hid (show MemPart w0 b' S [] from ⟨HMd.out.same (HA.out.block b' HMd.out.lt), List.nodup_nil, fun _ h => by simp at h⟩)
  go_loopw [] (fun wr => ∃ (todo Ld : List (Nat × Nat)), (Ld.map (·.1) ++ todo.map (·.1)).Perm (L.map (·.1)) ∧ RngAt wr b r L todo ∧ Adds w wr ∧ MemPart wr b' S Ld ∧ ∀ x ∈ Ld, b' ≤ x.2) (fun wr => wr.rangeLeft b r)
  case atStart => exact ⟨L, [], List.Perm.refl _, HR.out, HAa.out.trans HA.out, HP0.out, fun _ h => by simp at h⟩
  case round =>
    obtain ⟨todo, Ld, hperm, hrg, hAr, hpt, hnb⟩ := hrel
    have HPm := Lib.hid hperm; have HRg := Lib.hid hrg; have HAr := Lib.hid hAr; have HPt := Lib.hid hpt; have HNb := Lib.hid hnb
    clear hperm hrg hAr hpt hnb
    go_wp2_with (at_next; refine wpList_nextP rfl _ rfl b r L todo rfl HRg.out ?_ ?_)
    · intro ht
      subst ht
      go_wp2
      go_ret
      have HPm2 := HPm.out
      simp only [List.map_nil, List.append_nil] at HPm2
      refine ⟨_, Ld, rfl, ⟨HPt.out.map, HPt.out.apart, HPt.out.page, fun p hp hn => HM.out.all p hp (fun h => hn (HPm2.mem_iff.2 h)), HM.out.word⟩, HAr.out, ?_⟩
      rintro k (rfl | hk)
      · exact Nat.le_of_eq HE'.out
      · obtain ⟨x, hx, rfl⟩ := List.mem_map.1 hk
        rw [HE'.out]
        exact HNb.out x hx
    · intro p c todo' w1 hp hm hrg1 hg1 hs1 hl1 hen
      have HP := Lib.hid hp; have HMm := Lib.hid hm; have HR1 := Lib.hid hrg1; have HL1 := Lib.hid hl1
      have hA1 : Adds w w1 := Below.grown HAr.out hg1 HAr.out.size (fun k hk => by cases hk; have := HE.out; have := HAa.out.size; omega)
      have HA1 := Lib.hid hA1
      have hM1 := HM.out.adds hA1
      have HB := Lib.hid ((hM1.page _ hm).2.1)
      have HPg := Lib.hid (And.intro (hM1.page _ hm).1 (hM1.page _ hm).2.2)
      have HPt1 := Lib.hid (HPt.out.same (w' := w1) fun k hk => hg1.block k (HPt.out.foot_lt hk) (fun e => by
        simp only [Option.some.injEq] at e
        subst e
        obtain ⟨n, es, left, cnt, ⟨es0, clock, since, seen, c0, h1, h2, h3, h4, h5, h6⟩, h7⟩ := HRg.out
        rcases hk with hk | hk
        · obtain ⟨n, es, ⟨es0, clock, h0, _⟩, _⟩ := HPt.out.map
          rw [hk, h0] at h5
          cases h5
        · obtain ⟨x, hx, e⟩ := List.mem_map.1 hk
          have hpb := (HPt.out.page x hx).2.1
          unfold PBlk at hpb
          rw [e, h5] at hpb
          cases hpb))
      have HNo := Lib.hid (show p ∉ Ld.map (·.1) from fun hk => by
        have h1 := (HPm.out.nodup_iff).2 HM.out.map.nodup
        have h2 : p ∈ todo.map (·.1) := List.mem_map.2 ⟨(p, c), HP.out.mem_iff.2 (List.mem_cons_self ..), rfl⟩
        exact (List.nodup_append.1 h1).2.2 p hk p h2 rfl)
      have HPm1 := Lib.hid (show (p :: Ld.map (·.1) ++ todo'.map (·.1)).Perm (L.map (·.1)) from by
        refine List.Perm.trans ?_ HPm.out
        have h1 := HP.out.map (·.1)
        exact (List.perm_middle.symm).trans ((List.Perm.refl _).append h1.symm))
      clear hp hm hrg1 hg1 hs1 hl1 hA1 hM1
      simp only at HB HPg
      obtain ⟨n, hn⟩ : ∃ n, cntP (pgW S p) = n := ⟨_, rfl⟩
      obtain ⟨f, hf⟩ : ∃ f, pgW S p = f := ⟨_, rfl⟩
      have HN := Lib.hid hn
      have HF := Lib.hid hf
      rw [hn] at HB HPg
      rw [hf] at HB
      clear hn hf
      have H1 := Lib.hid (pageL_one f n)
      obtain ⟨c', hc'⟩ : ∃ c', w1.heap.size = c' := ⟨_, rfl⟩
      have HC := Lib.hid hc'
      obtain ⟨w2, hw2⟩ : ∃ w2, w1.alloc (.cells (pageL (fun _ => 0) 0).toArray 76) = w2 := ⟨_, rfl⟩
      obtain ⟨w3, hw3⟩ : ∃ w3, w1.alloc (.cells (pageL f n).toArray 76) = w3 := ⟨_, rfl⟩
      have HW2 := Lib.hid (hw2 ▸ alloc_page w1)
      have HW2b := Lib.hid (show w2.heap[c']? = some (.cells (pageL (fun _ => 0) 0).toArray 76 (0, 0)) by rw [← hw2, ← hc']; exact heap_alloc_last w1 _)
      have HW3 := Lib.hid (show w2.setRow c' (pageL f n).toArray = w3 by rw [← hw2, ← hw3, ← hc']; exact World.setRow_alloc_new _ _ _ _)
      have HA3 := Lib.hid (show Adds w1 w3 by rw [← hw3]; exact (Below.refl _ _).alloc (Nat.le_refl _) _)
      have HB3 := Lib.hid (show PBlk w3 c' f n by rw [← hw3, ← hc']; exact PBlk.new w1 f n)
      rw [hc'] at HW2
      clear hw2 hw3 hc'
      have HMp3 := Lib.hid (HPt1.out.map.same (HA3.out.block b' HPt1.out.map.lt))
      have HRoom := Lib.hid (show Ld.length < maxLen by have := HPt1.out.many; unfold maxLen; omega)
      have HP32 := Lib.hid (show p < 4294967296 by have := HPg.out.1; omega)
      go_wp2_with (first
        | ((with_reducible refine wpList_load_row rfl _ _ rfl c ?_ 76 (pageL f n).toArray (0, 0) _ ?_ Tryd.underlying76 ?_ ?_ ?_); (· exact rfl); (· exact HB.out); (· exact rfl); (· exact HI.out f n))
        | ((with_reducible refine wpList_run (v := .pointer (some ⟨c', 0, none⟩)) (w' := w2) rfl ?_ ?_); (· exact alloc_run' rfl HW2.out))
        | ((with_reducible refine wpList_store_row rfl _ _ _ rfl c' (pageL f n).toArray ?_ ?_ 76 (pageL (fun _ => 0) 0).toArray ?_ ?_ ?_ ?_ ?_); (· exact rfl); (· exact rfl); (· exact HW2b.out); (· exact HI.out f n); (· exact HO.out f n); (· exact H1.out); (rw [HW3.out]))
        | (at_mapUpdate; refine wpList_putP rfl _ _ _ rfl b' p c' Ld rfl rfl rfl HMp3.out HRoom.out HP32.out HNo.out ?_; intro w4 h3 h4; have H3 := Lib.hid h3; have H4 := Lib.hid h4; clear h3 h4))
      go_roundw
      case rel =>
        have hlo : b' ≤ c' := by have := HA1.out.size; have := HC.out; have := HE'.out; omega
        have hbw : b < b' := by have := HM.out.map.lt; have := HE'.out; omega
        have hrb : r ≠ b' := by have := HE.out; have := HSz.out; have := HE'.out; omega
        have hA4 : Adds w w4 := Below.grown (HA1.out.trans HA3.out) H4.out (HA1.out.trans HA3.out).size (fun k hk => by cases hk; exact Nat.le_of_eq HE'.out)
        refine ⟨todo', (p, c') :: Ld, HPm1.out, ?_, hA4, HPt1.out.more HPg.out.1 (Nat.le_of_eq HC.out) HA3.out ?_ ?_ H3.out H4.out, ?_⟩
        · have hb1 : b < w1.heap.size := Nat.lt_of_lt_of_le HM.out.map.lt HA1.out.size
          have hr1 := HR1.out.lt
          exact HR1.out.same ((H4.out.block b (Nat.lt_of_lt_of_le hb1 HA3.out.size) (fun e => by cases e; omega)).trans (HA3.out.block b hb1)) ((H4.out.block r (Nat.lt_of_lt_of_le hr1 HA3.out.size) (fun e => by cases e; exact hrb rfl)).trans (HA3.out.block r hr1))
        · rw [← HF.out] at HB3; rw [HN.out]; exact HB3.out
        · rw [HN.out]; exact HPg.out.2
        · intro x1 x2 hx
          rcases List.mem_cons.1 hx with e | hx
          · cases e; exact hlo
          · exact HNb.out (x1, x2) hx
      case measure =>
        have hbw : b < b' := by have := HM.out.map.lt; have := HE'.out; omega
        have hrb : r ≠ b' := by have := HE.out; have := HSz.out; have := HE'.out; omega
        have hb1 : b < w1.heap.size := Nat.lt_of_lt_of_le HM.out.map.lt HA1.out.size
        have hr1 := HR1.out.lt
        have e := rangeLeft_same ((H4.out.block b (Nat.lt_of_lt_of_le hb1 HA3.out.size) (fun e => by cases e; omega)).trans (HA3.out.block b hb1)) ((H4.out.block r (Nat.lt_of_lt_of_le hr1 HA3.out.size) (fun e => by cases e; exact hrb rfl)).trans (HA3.out.block r hr1))
        rw [e]
        exact HL1.out
end Go.Proofs.YtleihmmkonakhaaDoor
