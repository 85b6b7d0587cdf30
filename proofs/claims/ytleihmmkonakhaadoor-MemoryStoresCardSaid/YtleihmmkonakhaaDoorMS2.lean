/- Memories that are the same: maps.EqualFunc at pages, Same: their contracts. -/
import Derived.Test.YtleihmmkonakhaaDoorMS1
namespace Go.Proofs.YtleihmmkonakhaaDoor
open Go Go.RowKit Go.Shelf Go.Maps

theorem MapAt.ok_yes {w : World} {b : Nat} {L : List (Nat × Nat)} (h : MapAt w b L) {p c : Nat} (hm : (p, c) ∈ L) :
    (Instr.lookup 50 (.map (some b)) (.int .u32 p) true).run Tryd.prog w = .ok (.tuple #[.pointer (some ⟨c, 0, none⟩), .bool true]) w := by
  obtain ⟨n, es, ho, hp, hn, hk, hd⟩ := h
  obtain ⟨v, ps, hrun, hv⟩ := ho.look_ok keyK Tryd.underlying50 (zero_ptr w) (zd := .nil) rfl (key_mk (hk _ hm))
  rw [at_yes hp hd hm] at hv
  have hh : Maps.has (DataW.map es) (kL p) = true := List.any_eq_true.2 ⟨ent (p, c), hp.mem_iff.2 (List.mem_map.2 ⟨_, hm, rfl⟩), WideAt.sameKey_self (kL_key _)⟩
  rw [hrun, pageElem_inv hv, hh]
  rfl
theorem MapAt.ok_no {w : World} {b : Nat} {L : List (Nat × Nat)} (h : MapAt w b L) {p : Nat} (hp32 : p < 4294967296) (hm : p ∉ L.map (·.1)) :
    (Instr.lookup 50 (.map (some b)) (.int .u32 p) true).run Tryd.prog w = .ok (.tuple #[.pointer none, .bool false]) w := by
  obtain ⟨n, es, ho, hp, hn, hk, hd⟩ := h
  obtain ⟨v, ps, hrun, hv⟩ := ho.look_ok keyK Tryd.underlying50 (zero_ptr w) (zd := .nil) rfl (key_mk hp32)
  rw [at_no hp hm] at hv
  have hh : Maps.has (DataW.map es) (kL p) = false := by
    rw [Bool.eq_false_iff]
    intro ha
    obtain ⟨e, he, hs⟩ := List.any_eq_true.1 ha
    obtain ⟨y, hy, rfl⟩ := List.mem_map.1 (hp.mem_iff.1 he)
    exact hm (List.mem_map.2 ⟨y, hy, kL_inj (WideAt.sameKey_eq hs)⟩)
  rw [hrun, pageElem_nil hv, hh]

theorem nodup_sub_len : ∀ (l m : List Nat), l.Nodup → (∀ x ∈ l, x ∈ m) → l.length ≤ m.length
  | [], _, _, _ => Nat.zero_le _
  | x :: t, m, hd, h => by
    obtain ⟨h1, h2⟩ := List.nodup_cons.1 hd
    have hx := h x (by simp)
    have ih := nodup_sub_len t (m.erase x) h2 (fun y hy => (List.mem_erase_of_ne (fun e => h1 (by rw [← e]; exact hy))).2 (h y (by simp [hy])))
    rw [List.length_erase_of_mem hx] at ih
    have : 0 < m.length := List.length_pos_iff.2 (fun e => by rw [e] at hx; simp at hx)
    simp only [List.length_cons]
    omega
/-- The same word at each address. -/
def SameW (S T : Nat → Nat) : Prop := ∀ a, a < 4294967296 → S a = T a
theorem key_iff {w : World} {b : Nat} {S : Nat → Nat} {L : List (Nat × Nat)} (h : MemL w b S L) {p : Nat} (hp : p < 1048576) : p ∈ L.map (·.1) ↔ ∃ i, i < 4096 ∧ pgW S p i ≠ 0 := by
  constructor
  · intro hk
    obtain ⟨x, hx, rfl⟩ := List.mem_map.1 hk
    have h1 := (h.page x hx).2.2
    refine Classical.byContradiction fun hn => h1 ((cntP_zero _).2 fun i hi => ?_)
    exact Classical.byContradiction fun h2 => hn ⟨i, hi, h2⟩
  · rintro ⟨i, hi, hn⟩
    refine Classical.byContradiction fun hk => hn (h.all p hp hk i hi)
theorem key_lt {w : World} {b : Nat} {S : Nat → Nat} {L : List (Nat × Nat)} (h : MemL w b S L) {p : Nat} (hp : p ∈ L.map (·.1)) : p < 1048576 := by
  obtain ⟨x, hx, rfl⟩ := List.mem_map.1 hp
  exact (h.page x hx).1
theorem nodup_perm {l m : List Nat} (h1 : l.Nodup) (h2 : m.Nodup) (h : ∀ x, x ∈ l ↔ x ∈ m) : l.Perm m := (List.perm_ext_iff_of_nodup h1 h2).2 h
theorem keys_perm_of_same {w w' : World} {b b' : Nat} {S T : Nat → Nat} {L L' : List (Nat × Nat)} (h : MemL w b S L) (h' : MemL w' b' T L') (hs : SameW S T) : (L.map (·.1)).Perm (L'.map (·.1)) := by
  refine nodup_perm h.map.nodup h'.map.nodup fun p => ?_
  have e : ∀ p i, p < 1048576 → i < 4096 → pgW S p i = pgW T p i := fun p i hp hi => hs _ (by omega)
  constructor
  · intro hp
    have hlt := key_lt h hp
    obtain ⟨i, hi, hn⟩ := (key_iff h hlt).1 hp
    exact (key_iff h' hlt).2 ⟨i, hi, by rw [← e p i hlt hi]; exact hn⟩
  · intro hp
    have hlt := key_lt h' hp
    obtain ⟨i, hi, hn⟩ := (key_iff h' hlt).1 hp
    exact (key_iff h hlt).2 ⟨i, hi, by rw [e p i hlt hi]; exact hn⟩
def GoodPg (S T : Nat → Nat) (L' : List (Nat × Nat)) (x : Nat × Nat) : Prop := x.1 ∈ L'.map (·.1) ∧ ∀ i, i < 4096 → pgW S x.1 i = pgW T x.1 i
theorem same_of_good {w w' : World} {b b' : Nat} {S T : Nat → Nat} {L L' : List (Nat × Nat)} (h : MemL w b S L) (h' : MemL w' b' T L') (hl : L.length = L'.length) (hg : ∀ x ∈ L, GoodPg S T L' x) : SameW S T := fun a ha => by
  have e : ∀ U : Nat → Nat, pgW U (a / 4096) (a % 4096) = U a := fun U => by unfold pgW; rw [show a / 4096 * 4096 + a % 4096 = a by omega]
  by_cases hk : a / 4096 ∈ L.map (·.1)
  · obtain ⟨x, hx, hxe⟩ := List.mem_map.1 hk
    have := (hg x hx).2 (a % 4096) (by omega)
    rw [hxe] at this
    rw [← e S, ← e T]
    exact this
  · have hsub : (L.map (·.1)).Subset (L'.map (·.1)) := fun p hp => by
      obtain ⟨x, hx, rfl⟩ := List.mem_map.1 hp
      exact (hg x hx).1
    have hpm : a / 4096 ∉ L'.map (·.1) := fun hm => by
      have h1 := nodup_sub_len (a / 4096 :: L.map (·.1)) (L'.map (·.1)) (List.nodup_cons.2 ⟨hk, h.map.nodup⟩) (fun x hx => by
        rcases List.mem_cons.1 hx with rfl | hx
        · exact hm
        · exact hsub hx)
      simp at h1
      omega
    have h1 := h.all (a / 4096) (by omega) hk (a % 4096) (by omega)
    have h2 := h'.all (a / 4096) (by omega) hpm (a % 4096) (by omega)
    rw [e] at h1 h2
    rw [h1, h2]

def EqPost (S T : Nat → Nat) (w : World) (e : Ending) (w' : World) : Prop := ∃ r : Bool, e = .returned (.bool r) ∧ (r = true ↔ SameW S T) ∧ Adds w w'

set_option maxRecDepth 100000 in
set_option maxHeartbeats 4000000 in
theorem equalF_any (b b' : Nat) (S T : Nat → Nat) (L L' : List (Nat × Nat)) (w : World) (hM : MemL w b S L) (hM' : MemL w b' T L') :
    Calls Tryd.prog 30 #[.map (some b), .map (some b'), .func (.func 31) #[] #[]] w (EqPost S T w) := by
  have HM := Lib.hid hM; clear hM
  have HM' := Lib.hid hM'; clear hM'
  have hlen := fun ty => HM.out.map.len ty
  have hlen' := fun ty => HM'.out.map.len ty
  by_cases hl : L.length = L'.length
  · have HL := Lib.hid hl
    have hlI : ((L.length : Nat) : Int) = ((L'.length : Nat) : Int) := by omega
    clear hl
    go_enter Tryd.func30, Tryd.ntmps30
    go_wp2_with (at_range; refine wpList_rangeP rfl _ rfl b L rfl HM.out.map ?_; intro w0 hr ha hs; have HR := Lib.hid hr; have HA := Lib.hid ha; clear hr ha hs)
    go_frame
    obtain ⟨r, hr⟩ : ∃ r, w.heap.size = r := ⟨_, rfl⟩
    rw [hr] at HR ⊢
    have HE := Lib.hid hr
    clear hr hlen hlen' hlI
    go_loopw [] (fun wr => ∃ (todo : List (Nat × Nat)), RngAt wr b r L todo ∧ (∀ x ∈ L, x ∈ todo ∨ GoodPg S T L' x) ∧ Adds w wr) (fun wr => wr.rangeLeft b r)
    case atStart => exact ⟨L, HR.out, fun x hx => .inl hx, HA.out⟩
    case round =>
      obtain ⟨todo, hrg, hgd, hAr⟩ := hrel
      have HRg := Lib.hid hrg; have HGd := Lib.hid hgd; have HAr := Lib.hid hAr
      clear hrg hgd hAr
      go_wp2_with (at_next; refine wpList_nextP rfl _ rfl b r L todo rfl HRg.out ?_ ?_)
      · intro ht
        subst ht
        go_wp2
        go_ret
        exact ⟨true, rfl, ⟨fun _ => same_of_good HM.out HM'.out HL.out fun x hx => (HGd.out x hx).resolve_left (by simp), fun _ => rfl⟩, HAr.out⟩
      · intro p c todo' w1 hp hm hrg1 hg1 hs1 hl1 hen
        have HP := Lib.hid hp; have HMm := Lib.hid hm; have HR1 := Lib.hid hrg1; have HL1 := Lib.hid hl1
        have HA1 := Lib.hid (Below.grown HAr.out hg1 HAr.out.size (fun k hk => by cases hk; have := HE.out; omega))
        have hp20 := (HM.out.page _ hm).1
        have HP20 := Lib.hid hp20
        clear hp hm hrg1 hg1 hs1 hl1
        by_cases hk : p ∈ L'.map (·.1)
        · obtain ⟨⟨p', c'⟩, hm', e⟩ := List.mem_map.1 hk
          simp only at e
          subst e
          have hlook := (HM'.out.adds HA1.out).map.ok_yes hm'
          have HB := Lib.hid ((HM.out.adds HA1.out).page _ HMm.out).2.1
          have HB' := Lib.hid ((HM'.out.adds HA1.out).page _ hm').2.1
          have HSm := Lib.hid (same_any c c' _ _ _ _ w1 HB.out HB'.out)
          have HK := Lib.hid hk
          simp only at HSm
          have HF := Lib.hid (sameF_iff (pgW S p') (pgW T p'))
          obtain ⟨z, hz⟩ : ∃ z, sameF (pgW S p') (pgW T p') = z := ⟨_, rfl⟩
          rw [hz] at HSm HF
          clear hz hm' hk hp20
          cases z with
          | false =>
            go_wp2_with (go_at_call 31; refine HSm.out.mono ?_; rintro e w2 ⟨rfl, h1⟩; have A2 := Lib.hid h1; clear h1)
            go_ret
            refine ⟨false, rfl, ⟨fun h => (by cases h), fun hs => ?_⟩, Adds.trans HA1.out A2.out⟩
            exact HF.out.2 fun i hi => hs _ (by have := HP20.out; omega)
          | true =>
            go_wp2_with (go_at_call 31; refine HSm.out.mono ?_; rintro e w2 ⟨rfl, h1⟩; have A2 := Lib.hid h1; clear h1)
            go_roundw
            case rel =>
              refine ⟨todo', HR1.out.same (A2.out.block b HR1.out.map.lt) (A2.out.block r HR1.out.lt), ?_, Adds.trans HA1.out A2.out⟩
              intro x hx
              rcases HGd.out x hx with h | h
              · rcases List.mem_cons.1 (HP.out.mem_iff.1 h) with e | h
                · subst e
                  exact .inr ⟨HK.out, HF.out.1 (by trivial)⟩
                · exact .inl h
              · exact .inr h
            case measure => rw [rangeLeft_same (A2.out.block b HR1.out.map.lt) (A2.out.block r HR1.out.lt)]; exact HL1.out
        · have hlook := (HM'.out.adds HA1.out).map.ok_no (p := p) (by omega) hk
          have HK := Lib.hid hk
          clear hk hp20
          go_wp2
          go_ret
          refine ⟨false, rfl, ⟨fun h => (by cases h), fun hs => absurd ((keys_perm_of_same HM.out HM'.out hs).mem_iff.1 (List.mem_map.2 ⟨_, HMm.out, rfl⟩)) HK.out⟩, HA1.out⟩
  · have hlI : ¬ ((L.length : Nat) : Int) = ((L'.length : Nat) : Int) := by omega
    have HL := Lib.hid hl
    clear hl
    go_enter Tryd.func30, Tryd.ntmps30
    go_wp2
    go_ret
    refine ⟨false, rfl, ⟨fun h => (by cases h), fun hs => absurd ?_ HL.out⟩, Adds.refl _⟩
    have := (keys_perm_of_same HM.out HM'.out hs).length_eq
    simpa using this

noncomputable def sameB (S T : Nat → Nat) : Bool := @decide (SameW S T) (Classical.propDecidable _)
theorem sameB_eq {S T : Nat → Nat} {r : Bool} (h : r = true ↔ SameW S T) : r = sameB S T := by
  unfold sameB
  by_cases hs : SameW S T
  · rw [h.2 hs]; simp [hs]
  · cases r
    · simp [hs]
    · exact absurd (h.1 rfl) hs
theorem sameB_true {S T : Nat → Nat} : sameB S T = true ↔ SameW S T := by unfold sameB; simp
theorem equalM_any (b b' : Nat) (S T : Nat → Nat) (L L' : List (Nat × Nat)) (w : World) (hM : MemL w b S L) (hM' : MemL w b' T L') :
    Calls Tryd.prog 30 #[.map (some b), .map (some b'), .func (.func 31) #[] #[]] w fun e w' => e = .returned (.bool (sameB S T)) ∧ Adds w w' :=
  (equalF_any b b' S T L L' w hM hM').mono fun e w' ⟨r, he, hr, ha⟩ => ⟨by rw [he, sameB_eq hr], ha⟩
end Go.Proofs.YtleihmmkonakhaaDoor
