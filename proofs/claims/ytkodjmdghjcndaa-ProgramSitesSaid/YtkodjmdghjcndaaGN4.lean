/- program.Sites, and the sequence that it hands back: contracts. -/
import Derived.Test.YtkodjmdghjcndaaGN3
import Derived.Test.YtkodjmdghjcndaaGC3
namespace Go.Proofs.Ytkodjmdghjcndaa
open Go Go.RowKit Go.Shelf

theorem sites1_seq (n : Nat) (hn : 4 ≤ n) (Bk : Nat) (M : Nat → Prop) (ao : Option Addr) (cap : Nat) (fs : List Fu) (x1 x2 x3 : Int) (q : Nat → Option Addr × Nat) (hl : fs.length ≤ 40) (hc : ∀ f ∈ fs, f.2.length ≤ 1600) (w : World) (hM : ∀ b, M b → b < w.heap.size) (hMk : ¬ M Bk)
    (hB : BkS 24 w Bk [.slice ao fs.length cap, .int .i64 x1, .int .i64 x2, .int .i64 x3]) (hP : KeptP M w ao fs q) :
    SeqS Fence.wide n Try.prog 18 #[.pointer (some ⟨Bk, 0, none⟩)] (ixS fs) (KeepC M) (fun xs => xs = List.range (sitesL fs).length) (fun pre => ∃ j, j ≤ (sitesL fs).length ∧ pre = List.range j) (AtJ9 (sitesL fs).length) w := fun l J Jx W hb hJ hJx hY h0 =>
  sites1_in n hn l Bk M ao cap fs x1 x2 x3 q hl hc J Jx W hJ hJx hY (fun b h => Nat.lt_of_lt_of_le (hM b h) hb.size) hMk (hB.adds hb) (hP.keep (KeepC.of_below hb)) h0
/-- A copy, as the iterator wants it. -/
theorem CopyO.kept {B : Nat} {w : World} {v : Value} {fs : List Fu} (h : CopyO B w v fs) : ∃ ao cap q, v = .slice ao fs.length cap ∧ KeptP (fun b => b < B ∨ w.heap.size ≤ b) w ao fs q := by
  obtain ⟨r, hR, hl, hi⟩ := h
  have hq : ∃ q : Nat → Option Addr × Nat, ∀ i, i < fs.length → (r.getD i zR).2 = .slice (q i).1 (fs.getD i zF).2.length (q i).2 ∧ ∀ b o, (fs.getD i zF).2 ≠ [] → (q i).1 = some ⟨b, o, none⟩ → B ≤ b ∧ b < w.heap.size := by
    refine Classical.axiomOfChoice (r := fun (i : Nat) (u : Option Addr × Nat) => i < fs.length → (r.getD i zR).2 = .slice u.1 (fs.getD i zF).2.length u.2 ∧ ∀ b o, (fs.getD i zF).2 ≠ [] → u.1 = some ⟨b, o, none⟩ → B ≤ b ∧ b < w.heap.size) fun i => ?_
    by_cases hlt : i < fs.length
    · obtain ⟨_, hc⟩ := hi i hlt
      rcases hc.2 with ⟨e, h0⟩ | ⟨g, cap, cur, e, hb, hh, _⟩
      · exact ⟨(none, 0), fun _ => ⟨by rw [e, h0], fun b o _ e => by cases e⟩⟩
      · refine ⟨(some ⟨g, 0, none⟩, cap), fun _ => ⟨e, fun b o _ e => ?_⟩⟩
        simp only [Option.some.injEq, Addr.mk.injEq, and_true] at e
        rw [← e.1]
        exact ⟨hb, (Array.getElem?_eq_some_iff.1 hh).1⟩
    · exact ⟨(none, 0), fun h => absurd h hlt⟩
  obtain ⟨q, hq⟩ := hq
  have hcodes : ∀ i, i < fs.length → (∃ n, CodeW n w (.slice (q i).1 (fs.getD i zF).2.length (q i).2) (fs.getD i zF).2) ∧ ((fs.getD i zF).2 ≠ [] → ∀ b o, (q i).1 = some ⟨b, o, none⟩ → ¬ (b < B ∨ w.heap.size ≤ b)) := fun i hlt => by
    obtain ⟨e, hb⟩ := hq i hlt
    have hc := (hi i hlt).2.code
    rw [e] at hc
    exact ⟨⟨_, hc⟩, fun hne b o eb h => by have := hb b o hne eb; omega⟩
  rcases hR.2 with ⟨rfl, h0⟩ | ⟨g, cap, cur, rfl, hb, hh, _⟩
  · rw [hl] at h0
    exact ⟨none, 0, q, by rw [h0], fun i hlt => by omega, hcodes⟩
  · refine ⟨some ⟨g, 0, none⟩, cap, q, by rw [hl], fun i hlt => ?_, hcodes⟩
    obtain ⟨k0, k1⟩ := RowO.at hR (i := i) (by omega)
    obtain ⟨e, _⟩ := hq i hlt
    obtain ⟨_, _, e2, _, hm⟩ := (hi i hlt).2.code.form
    have hlt2 := (Array.getElem?_eq_some_iff.1 hh).1
    refine ⟨g, 0, rfl, fun h => by omega, by rw [Nat.zero_add, ← (hi i hlt).1]; exact k0, by show w.cell? ⟨g, 0 + i * 2 + 1, none⟩ = some (.slice (q i).1 (fs.getD i zF).2.length (q i).2); rw [Nat.zero_add, ← e]; exact k1, _, _, rfl, ?_⟩
    have h3 := (hi i hlt).2.code
    obtain ⟨_, _, _, h4, h5, _⟩ := h3
    unfold maxLen at h5
    omega
/-- What Sites hands back. -/
def SitesPost (p : Pg) (w : World) (z : Ending) (w' : World) : Prop :=
  Adds w w' ∧ ∃ Bk ao cap q, z = .returned (.func (.func 18) #[] #[.pointer (some ⟨Bk, 0, none⟩)]) ∧ w.heap.size ≤ Bk ∧ Bk < w'.heap.size ∧ BkS 24 w' Bk [.slice ao p.1.length cap, .int .i64 p.2.1, .int .i64 p.2.2.1, .int .i64 p.2.2.2] ∧ KeptP (fun b => b < w.heap.size ∨ w'.heap.size ≤ b) w' ao p.1 q
set_option maxRecDepth 100000 in
set_option maxHeartbeats 4000000 in
theorem sites_any {n : Nat} (u : Value) (p : Pg) (w : World) (hf : FuncsW n w u p.1) (hl : p.1.length ≤ 40) (hc : ∀ f ∈ p.1, f.2.length ≤ 1600) : Calls Try.prog 8 #[pgV u p] w (SitesPost p w) := by
  have HCo0 := fun W (h : Adds w W) => copy_any u p W (hf.adds h) h.size hl hc
  obtain ⟨fs, x1, x2, x3⟩ := p
  obtain ⟨ao, cap, rfl, _, _, _⟩ := hf
  obtain ⟨w1, hw1⟩ : ∃ w1, w.alloc (.cells #[.slice ao fs.length cap, .int .i64 x1, .int .i64 x2, .int .i64 x3] 24) = w1 := ⟨_, rfl⟩
  have A1 := Lib.hid (show Adds w w1 by rw [← hw1]; exact (Gr.new _ _).adds)
  have B1 := Lib.hid (show BkS 24 w1 w.heap.size [.slice ao fs.length cap, .int .i64 x1, .int .i64 x2, .int .i64 x3] by rw [← hw1]; exact BkS.new _ _ _)
  have HCo := Lib.hid (HCo0 w1 A1.out)
  have b0 : w1.cell? ⟨w.heap.size, 0, none⟩ = some (.slice ao fs.length cap) := B1.out.cell 0
  have b1 : w1.cell? ⟨w.heap.size, 1, none⟩ = some (.int .i64 x1) := B1.out.cell 1
  have b2 : w1.cell? ⟨w.heap.size, 2, none⟩ = some (.int .i64 x2) := B1.out.cell 2
  have b3 : w1.cell? ⟨w.heap.size, 3, none⟩ = some (.int .i64 x3) := B1.out.cell 3
  clear HCo0 hl hc
  go_enter Try.func8, Try.ntmps8
  go_wp2_with (go_at_call 12; refine HCo.out.mono ?_; rintro e w6 ⟨cv, rfl, hco, q6⟩; have HCO := Lib.hid hco; have A6 := Lib.hid (Adds.trans A1.out q6); obtain ⟨ao2, cap2, q, rfl, hk⟩ := hco.kept; have HK := Lib.hid hk; have S6 := Lib.hid (Nat.le_trans A1.out.size q6.size); simp only at HK; clear hco q6 hk)
  go_ret
  generalize hw7 : World.alloc w6 _ = w7
  have A7 : Adds w6 w7 := hw7 ▸ (Gr.new _ _).adds
  have hs7 : w7.heap.size = w6.heap.size + 1 := by rw [← hw7]; simp
  refine ⟨Adds.trans A6.out A7, w6.heap.size, ao2, cap2, q, rfl, S6.out, by omega, by rw [← hw7]; exact BkS.new _ _ _, ?_⟩
  have hz := A1.out.size
  exact (HK.out.more (M' := fun b => b < w.heap.size ∨ w7.heap.size ≤ b) (fun b hb hm h => by rcases h with h | h <;> omega)).keep (KeepC.of_below A7)
end Go.Proofs.Ytkodjmdghjcndaa
