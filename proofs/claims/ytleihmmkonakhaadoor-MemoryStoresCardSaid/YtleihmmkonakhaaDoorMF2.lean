/- A word stored, a word told: their contracts. -/
import Derived.Test.YtleihmmkonakhaaDoorMOps
namespace Go.Proofs.YtleihmmkonakhaaDoor
open Go Go.RowKit Go.Maps

theorem nodup_at {L : List (Nat × Nat)} (h : (L.map (·.2)).Nodup) {x y : Nat × Nat} (hx : x ∈ L) (hy : y ∈ L) (e : x.2 = y.2) : x = y := by
  rw [List.nodup_iff_pairwise_ne, List.pairwise_map] at h
  induction L with
  | nil => cases hx
  | cons z t ih =>
    obtain ⟨h1, h2⟩ := List.pairwise_cons.1 h
    rcases List.mem_cons.1 hx with rfl | hx' <;> rcases List.mem_cons.1 hy with rfl | hy'
    · rfl
    · exact absurd e (h1 _ hy')
    · exact absurd e.symm (h1 _ hx')
    · exact ih h2 hx' hy'
theorem nodup_key {L : List (Nat × Nat)} (h : (L.map (·.1)).Nodup) {x y : Nat × Nat} (hx : x ∈ L) (hy : y ∈ L) (e : x.1 = y.1) : x = y := by
  rw [List.nodup_iff_pairwise_ne, List.pairwise_map] at h
  induction L with
  | nil => cases hx
  | cons z t ih =>
    obtain ⟨h1, h2⟩ := List.pairwise_cons.1 h
    rcases List.mem_cons.1 hx with rfl | hx' <;> rcases List.mem_cons.1 hy with rfl | hy'
    · rfl
    · exact absurd e (h1 _ hy')
    · exact absurd e.symm (h1 _ hx')
    · exact ih h2 hx' hy'

theorem setW_word {S : Nat → Nat} (h : ∀ a, S a < 4294967296) (a v : Nat) (hv : v < 4294967296) : ∀ x, setW S a v x < 4294967296 := fun x => by
  unfold setW
  split
  · exact hv
  · exact h x

/-- Another page than that of the word is as it was. -/
theorem page_other {w w' : World} {S : Nat → Nat} {a v p c : Nat} (hp : p ≠ a / 4096) (hb : w'.heap[c]? = w.heap[c]?) (h : p < 1048576 ∧ PBlk w c (pgW S p) (cntP (pgW S p)) ∧ cntP (pgW S p) ≠ 0) :
    p < 1048576 ∧ PBlk w' c (pgW (setW S a v) p) (cntP (pgW (setW S a v) p)) ∧ cntP (pgW (setW S a v) p) ≠ 0 := by
  have e : cntP (pgW (setW S a v) p) = cntP (pgW S p) := cntP_congr fun i hi => by rw [pgW_set_other S a v p i hp hi]
  rw [e]
  exact ⟨h.1, (h.2.1.same hb).congr fun i hi => (pgW_set_other S a v p i hp hi).symm, h.2.2⟩

theorem mem_turn {w w' : World} {b : Nat} {S : Nat → Nat} {L : List (Nat × Nat)} {a v c : Nat} (h : MemL w b S L) (hv : v < 4294967296) (hm : (a / 4096, c) ∈ L)
    (ht : Turns c w w') (hB : PBlk w' c (setW (pgW S (a / 4096)) (a % 4096) v) (cntP (setW (pgW S (a / 4096)) (a % 4096) v))) (hne : cntP (setW (pgW S (a / 4096)) (a % 4096) v) ≠ 0) : MemL w' b (setW S a v) L := by
  have hbc : b ≠ c := fun e => h.block_ne _ hm e.symm
  refine ⟨h.map.same (ht.block b h.map.lt (fun e => by cases e; exact hbc rfl)), h.apart, fun x hx => ?_, fun p hp hn i hi => ?_, setW_word h.word a v hv⟩
  · by_cases e : x.1 = a / 4096
    · obtain rfl := nodup_key h.map.nodup hx hm e
      rw [pgW_set_same]
      exact ⟨(h.page _ hx).1, hB, hne⟩
    · refine page_other e (ht.block x.2 (h.page x hx).2.1.lt (fun e' => ?_)) (h.page x hx)
      have := nodup_at h.apart hx hm (by simpa using e')
      exact e (by rw [this])
  · rw [pgW_set_other S a v p i (fun e => hn (e ▸ List.mem_map.2 ⟨_, hm, rfl⟩)) hi]
    exact h.all p hp hn i hi
theorem mem_gone {w w' w'' : World} {b : Nat} {S : Nat → Nat} {L : List (Nat × Nat)} {a v c : Nat} (h : MemL w b S L) (hv : v < 4294967296) (hm : (a / 4096, c) ∈ L)
    (ht : Turns c w w') (hz : cntP (setW (pgW S (a / 4096)) (a % 4096) v) = 0) (hg : w'.grownBy w'' (some b)) (hM : MapAt w'' b (L.filter fun x => x.1 != a / 4096)) : MemL w'' b (setW S a v) (L.filter fun x => x.1 != a / 4096) := by
  refine ⟨hM, h.apart.sublist ((List.filter_sublist).map _), fun x hx => ?_, fun p hp hn i hi => ?_, setW_word h.word a v hv⟩
  · obtain ⟨hx, hne⟩ := List.mem_filter.1 hx
    have hne : x.1 ≠ a / 4096 := by simpa using hne
    have h1 : x.2 < w.heap.size := (h.page x hx).2.1.lt
    refine page_other hne ((hg.block x.2 (Nat.lt_of_lt_of_le h1 ht.size) (fun e => ?_)).trans (ht.block x.2 h1 (fun e => ?_))) (h.page x hx)
    · exact h.block_ne x hx (by simpa using e)
    · exact hne (by rw [nodup_at h.apart hx hm (by simpa using e)])
  · by_cases e : p = a / 4096
    · subst e
      rw [pgW_set_same]
      exact (cntP_zero _).1 hz i hi
    · rw [pgW_set_other S a v p i e hi]
      refine h.all p hp (fun hk => hn ?_) i hi
      obtain ⟨x, hx, rfl⟩ := List.mem_map.1 hk
      exact List.mem_map.2 ⟨x, List.mem_filter.2 ⟨hx, by simpa using e⟩, rfl⟩
theorem mem_new {w w1 w2 w3 : World} {b : Nat} {S : Nat → Nat} {L : List (Nat × Nat)} {a v c : Nat} (h : MemL w b S L) (ha : a < 4294967296) (hv : v < 4294967296) (hn : a / 4096 ∉ L.map (·.1)) (hc : w.heap.size ≤ c)
    (h1 : Adds w w1) (h2 : w1.grownBy w2 (some b)) (hM : MapAt w2 b ((a / 4096, c) :: L)) (h3 : Turns c w2 w3)
    (hB : PBlk w3 c (setW (fun _ => 0) (a % 4096) v) (cntP (setW (fun _ => 0) (a % 4096) v))) (hne : cntP (setW (fun _ => 0) (a % 4096) v) ≠ 0) : MemL w3 b (setW S a v) ((a / 4096, c) :: L) := by
  have hb := h.map.lt
  have e0 : ∀ i, i < 4096 → setW (fun _ => 0) (a % 4096) v i = pgW (setW S a v) (a / 4096) i := fun i hi => by
    rw [pgW_set_same]
    unfold setW
    split
    · rfl
    · exact (h.all (a / 4096) (by omega) hn i hi).symm
  have e1 : cntP (setW (fun _ => 0) (a % 4096) v) = cntP (pgW (setW S a v) (a / 4096)) := cntP_congr fun i hi => by rw [e0 i hi]
  refine ⟨hM.same (h3.block b hM.lt (fun e => by cases e; omega)), ?_, fun x hx => ?_, fun p hp hk i hi => ?_, setW_word h.word a v hv⟩
  · refine List.nodup_cons.2 ⟨fun hk => ?_, h.apart⟩
    obtain ⟨x, hx, e⟩ := List.mem_map.1 hk
    have h5 := (h.page x hx).2.1.lt
    have h6 : x.2 = c := e
    omega
  · rcases List.mem_cons.1 hx with rfl | hx
    · refine ⟨by show a / 4096 < _; omega, ?_, ?_⟩
      · show PBlk w3 c (pgW (setW S a v) (a / 4096)) (cntP (pgW (setW S a v) (a / 4096)))
        rw [← e1]
        exact hB.congr e0
      · show cntP (pgW (setW S a v) (a / 4096)) ≠ 0
        rw [← e1]; exact hne
    · have hlt := (h.page x hx).2.1.lt
      have h4 : x.2 < w1.heap.size := Nat.lt_of_lt_of_le hlt h1.size
      refine page_other (fun e => hn (List.mem_map.2 ⟨x, hx, e⟩)) (((h3.block x.2 (Nat.lt_of_lt_of_le h4 h2.size) (fun e => ?_)).trans (h2.block x.2 h4 (fun e => ?_))).trans (h1.block x.2 hlt)) (h.page x hx)
      · simp at e; omega
      · exact h.block_ne x hx (by simpa using e)
  · have hk' : p ≠ a / 4096 ∧ p ∉ L.map (·.1) := by simpa using hk
    rw [pgW_set_other S a v p i hk'.1 hi]
    exact h.all p hp hk'.2 i hi
/-- A nought where nothing is. -/
theorem mem_keep {w : World} {b : Nat} {S : Nat → Nat} {L : List (Nat × Nat)} {a : Nat} (h : MemL w b S L) (ha : a < 4294967296) (hn : a / 4096 ∉ L.map (·.1)) : MemL w b (setW S a 0) L := by
  refine h.congr fun x => ?_
  unfold setW
  split
  · rename_i e
    have h1 := h.all (a / 4096) (by omega) hn (a % 4096) (by omega)
    unfold pgW at h1
    rw [e, show a = a / 4096 * 4096 + a % 4096 by omega]
    exact h1
  · rfl

def StorePost (b a v : Nat) (S : Nat → Nat) (L : List (Nat × Nat)) (w : World) (e : Ending) (w' : World) : Prop :=
  e = .returned (.tuple #[]) ∧ ∃ L', MemL w' b (setW S a v) L' ∧ Frm (foot b L) w w' ∧ ∀ k, foot b L' k → foot b L k ∨ w.heap.size ≤ k

set_option maxRecDepth 100000 in
set_option maxHeartbeats 1000000 in
theorem store_any (b a v : Nat) (S : Nat → Nat) (L : List (Nat × Nat)) (w : World) (ha : a < 4294967296) (hv : v < 4294967296) (hM : MemL w b S L) :
    Calls Tryd.prog 27 #[.map (some b), .int .u32 ((a : Nat) : Int), .int .u32 ((v : Nat) : Int)] w (StorePost b a v S L w) := by
  have HPl := Lib.hid (place_any a ha)
  have HM := Lib.hid hM; clear hM
  have hp20 : a / 4096 < 1048576 := by omega
  have hq : a % 4096 < 4096 := by omega
  by_cases hk : a / 4096 ∈ L.map (·.1)
  · obtain ⟨⟨p, c⟩, hm, e⟩ := List.mem_map.1 hk
    simp only at e
    subst e
    clear hk
    have HE := Lib.hid hm
    have hlook := HM.out.map.look_yes hm
    have HB := Lib.hid (HM.out.page _ hm).2.1
    have HPS := Lib.hid (pstore_any c (a % 4096) v (pgW S (a / 4096)) w hq HB.out)
    have HT := Lib.hid (fun w' h1 h2 h3 => mem_turn (w' := w') HM.out hv hm h1 h2 h3)
    have HG := Lib.hid (fun w' w'' h1 h2 h3 h4 => mem_gone (w' := w') (w'' := w'') HM.out hv hm h1 h2 h3 h4)
    have HL := Lib.hid HM.out.map
    unfold ptrV at hlook HPS
    obtain ⟨n, hn⟩ : ∃ n, cntP (setW (pgW S (a / 4096)) (a % 4096) v) = n := ⟨_, rfl⟩
    have HW := Lib.hid (show n ≤ 4096 by rw [← hn]; exact cntP_le _)
    rw [hn] at HPS HT HG
    obtain ⟨f', hf'⟩ : ∃ f', setW (pgW S (a / 4096)) (a % 4096) v = f' := ⟨_, rfl⟩
    rw [hf'] at HPS HT
    obtain ⟨p, hp⟩ : ∃ p, a / 4096 = p := ⟨_, rfl⟩
    obtain ⟨q, hq'⟩ : ∃ q, a % 4096 = q := ⟨_, rfl⟩
    rw [hp, hq'] at HPl
    rw [hp] at hlook HG hp20
    rw [hq'] at HPS hq
    have HKm := Lib.hid (show (p, c) ∈ L by rw [← hp]; exact hm)
    have hp32 : p < 4294967296 := by omega
    clear hn hf' hp hq' hm HE HB hq
    by_cases hz : n = 0
    · subst hz
      go_enter Tryd.func27, Tryd.ntmps27
      go_wp2_with (first
        | (go_at_call 42; refine (HPl.out _).mono ?_; rintro e w1 ⟨rfl, rfl⟩)
        | (go_at_call 43; refine HPS.out.mono ?_; rintro e w1 ⟨rfl, h1, h2⟩; have H1 := Lib.hid h1; have H2 := Lib.hid h2; clear h1 h2; have c1 := H1.out.left; have HL1 := Lib.hid (HL.out.same (H2.out.block b HL.out.lt (fun e => by cases e; exact HM.out.block_ne _ HKm.out rfl))))
        | (at_delete; refine wpList_delP rfl _ _ rfl b p L rfl rfl HL1.out hp32 ?_; intro w2 h3 h4; have H3 := Lib.hid h3; have H4 := Lib.hid h4; clear h3 h4))
      go_end0
      refine ⟨rfl, _, HG.out _ _ H2.out (by trivial) H4.out H3.out, (Frm.of_grown H2.out (.inr (List.mem_map.2 ⟨_, HKm.out, rfl⟩))).trans (Frm.of_grown H4.out (.inl rfl)), fun k hk => .inl ?_⟩
      rcases hk with hk | hk
      · exact .inl hk
      · obtain ⟨x, hx, e⟩ := List.mem_map.1 hk
        exact .inr (List.mem_map.2 ⟨x, (List.mem_filter.1 hx).1, e⟩)
    · obtain ⟨y, hy⟩ : ∃ y : Int, ((n : Nat) : Int) = y := ⟨_, rfl⟩
      have hz' : ¬ y = 0 := by omega
      have HY := Lib.hid hy; clear hy
      have HZ := Lib.hid hz; clear hz
      go_enter Tryd.func27, Tryd.ntmps27
      go_wp2_with (first
        | (go_at_call 42; refine (HPl.out _).mono ?_; rintro e w1 ⟨rfl, rfl⟩)
        | (go_at_call 43; refine HPS.out.mono ?_; rintro e w1 ⟨rfl, h1, h2⟩; have H1 := Lib.hid h1; have H2 := Lib.hid h2; clear h1 h2; have c1 := H1.out.left; rw [HY.out] at c1))
      go_end0
      exact ⟨rfl, _, HT.out _ H2.out H1.out HZ.out, Frm.of_grown H2.out (.inr (List.mem_map.2 ⟨_, HKm.out, rfl⟩)), fun k hk => .inl hk⟩
  · have hlook := HM.out.map.look_no (p := a / 4096) (by omega) hk
    by_cases hv0 : v = 0
    · subst hv0
      have HR := Lib.hid (mem_keep HM.out ha hk)
      obtain ⟨p, hp⟩ : ∃ p, a / 4096 = p := ⟨_, rfl⟩
      obtain ⟨q, hq'⟩ : ∃ q, a % 4096 = q := ⟨_, rfl⟩
      rw [hp, hq'] at HPl
      rw [hp] at hlook
      clear hp hq' hk hq hp20
      go_enter Tryd.func27, Tryd.ntmps27
      go_wp2_with (go_at_call 42; refine (HPl.out _).mono ?_; rintro e w1 ⟨rfl, rfl⟩)
      go_end0
      exact ⟨rfl, _, HR.out, Frm.refl _ _, fun k hk => .inl hk⟩
    · have hv' : ¬ ((v : Nat) : Int) = 0 := by omega
      obtain ⟨w1, hw1⟩ : ∃ w1, w.alloc (.cells (pageL (fun _ => 0) 0).toArray 76) = w1 := ⟨_, rfl⟩
      have HA1 := Lib.hid (show Adds w w1 by rw [← hw1]; exact (Below.refl _ _).alloc (Nat.le_refl _) _)
      have HB1 := Lib.hid (show PBlk w1 w.heap.size (fun _ => 0) 0 by rw [← hw1]; exact PBlk.new w _ 0)
      have HAl := Lib.hid (hw1 ▸ alloc_page w)
      clear hw1
      have hne : cntP (setW (fun _ => 0) (a % 4096) v) ≠ 0 := fun e => hv0 (by have := (cntP_zero _).1 e (a % 4096) hq; simpa [setW] using this)
      have h00 : cntP (fun _ => 0) = 0 := (cntP_zero _).2 fun _ _ => rfl
      have HNw := Lib.hid (fun w2 w3 h2 h3 h4 h5 h6 => mem_new (w1 := w1) (w2 := w2) (w3 := w3) (c := w.heap.size) HM.out ha hv hk (Nat.le_refl _) HA1.out h2 h3 h4 h5 h6)
      have HMap := Lib.hid (HM.out.map.same (HA1.out.block b HM.out.map.lt))
      have HRoom := Lib.hid HM.out.room
      have HPS := Lib.hid (fun w2 (h : PBlk w2 w.heap.size (fun _ => 0) 0) => pstore_any w.heap.size (a % 4096) v (fun _ => 0) w2 hq (h00.symm ▸ h))
      obtain ⟨n, hn⟩ : ∃ n, cntP (setW (fun _ => 0) (a % 4096) v) = n := ⟨_, rfl⟩
      rw [hn] at HPS HNw hne
      obtain ⟨f', hf'⟩ : ∃ f', setW (fun _ => 0) (a % 4096) v = f' := ⟨_, rfl⟩
      rw [hf'] at HPS HNw
      obtain ⟨p, hp⟩ : ∃ p, a / 4096 = p := ⟨_, rfl⟩
      obtain ⟨q, hq'⟩ : ∃ q, a % 4096 = q := ⟨_, rfl⟩
      rw [hp, hq'] at HPl
      rw [hp] at hlook HNw hp20 hk
      rw [hq'] at HPS hq
      have HK := Lib.hid hk
      have hp32 : p < 4294967296 := by omega
      have hb := Lib.hid (show b ≠ w.heap.size by have := HM.out.map.lt; omega)
      clear hn hf' hp hq' hq hk h00 hv hp20
      obtain ⟨c, hc⟩ : ∃ c, w.heap.size = c := ⟨_, rfl⟩
      have HC := Lib.hid hc
      rw [hc] at HB1 HAl HNw HPS hb
      clear hc
      obtain ⟨y, hy⟩ : ∃ y : Int, ((n : Nat) : Int) = y := ⟨_, rfl⟩
      have hz' : ¬ y = 0 := by omega
      have HY := Lib.hid hy; clear hy
      have HZ := Lib.hid hne; clear hne hv0
      unfold ptrV at HPS
      go_enter Tryd.func27, Tryd.ntmps27
      go_wp2_with (first
        | (go_at_call 42; refine (HPl.out _).mono ?_; rintro e w1 ⟨rfl, rfl⟩)
        | ((with_reducible refine wpList_run (v := .pointer (some ⟨c, 0, none⟩)) (w' := w1) rfl ?_ ?_); (· exact alloc_run' rfl HAl.out))
        | (at_mapUpdate; refine wpList_putP rfl _ _ _ rfl b p c L rfl rfl rfl HMap.out HRoom.out hp32 HK.out ?_; intro w2 h3 h4; have H3 := Lib.hid h3; have H4 := Lib.hid h4; clear h3 h4; have HB2 := Lib.hid (HB1.out.same (H4.out.block c HB1.out.lt (fun e => by cases e; exact hb.out rfl))))
        | (go_at_call 43; refine (HPS.out _ HB2.out).mono ?_; rintro e w4 ⟨rfl, h1, h2⟩; have H1 := Lib.hid h1; have H2 := Lib.hid h2; clear h1 h2; have c1 := H1.out.left; rw [HY.out] at c1))
      go_end0
      refine ⟨rfl, _, HNw.out _ _ H4.out H3.out H2.out H1.out HZ.out, ?_, fun k hk => ?_⟩
      · exact ((Frm.of_adds _ HA1.out).trans (Frm.of_grown H4.out (.inl rfl))).then (Frm.of_grown (M := fun k => k = c) H2.out rfl) (fun i e => .inr (by rw [HC.out, e]; exact Nat.le_refl _))
      · rcases hk with hk | hk
        · exact .inl (.inl hk)
        · rcases List.mem_cons.1 hk with rfl | hk
          · exact .inr (by rw [HC.out]; exact Nat.le_refl _)
          · exact .inl (.inr hk)
end Go.Proofs.YtleihmmkonakhaaDoor
