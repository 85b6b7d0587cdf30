/- Steps itself, and its sequence as the law of a range asks for it. -/
import Derived.Test.YtbhggjgghngeeaaDoorDE2
import Derived.Test.YtbhggjgghngeeaaDoorE4
namespace Go.Proofs.YtbhggjgghngeeaaDoor
open Go Go.RowKit Go.Shelf

def StepsPost (l : List UInt8) (w : World) (e : Ending) (w' : World) : Prop :=
  Adds w w' ∧ ∃ Bk ao cap, e = .returned (.func (.func 34) #[] #[.pointer (some ⟨Bk, 0, none⟩)]) ∧ w.heap.size ≤ Bk ∧ Bk < w'.heap.size ∧
    w'.cell? ⟨Bk, 0, none⟩ = some (.slice ao l.length cap) ∧ Bytes w'.heap.size w' (.slice ao l.length cap) l ∧ (∀ b o, ao = some ⟨b, o, none⟩ → w.heap.size ≤ b ∧ b < w'.heap.size)

set_option maxRecDepth 100000 in
set_option maxHeartbeats 1000000 in
theorem steps_any (n : Nat) (v : Value) (l : List UInt8) (w : World) (hv : Bytes n w v l) (hl : l.length ≤ 140737488355328) : Calls Tryd.prog 15 #[v] w (StepsPost l w) := by
  have HV := Lib.hid hv; clear hv
  have HC := Lib.hid (clone_any _ v l w HV.out hl)
  go_enter Tryd.func15, Tryd.ntmps15
  go_wp2_with (go_at_call 30; refine HC.out.mono ?_; rintro e w1 ⟨v1, rfl, o1, a1⟩; obtain ⟨ao1, cap1, rfl, hm1, hm2, hm3⟩ := o1.bytes; have HM3 := Lib.hid hm3; clear hm3; have O1 := Lib.hid o1; clear o1; have A1 := Lib.hid a1; clear a1; dsimp only [id])
  go_ret
  generalize hw2 : World.alloc w1 _ = w2
  have A2 : Adds w1 w2 := hw2 ▸ Adds.new _ _
  have hs1 := A1.out.size
  refine ⟨A1.out.trans A2, w1.heap.size, ao1, cap1, rfl, hs1, ?_, ?_, ?_, ?_⟩
  · rw [← hw2]; simp
  · rw [← hw2]; simp
  · exact bytes_adds O1.out.bytes A2
  · intro b o e
    have h2 := O1.out.2
    rcases h2 with ⟨e1, _⟩ | ⟨g, c, cur, e1, hb, hg, _⟩
    · simp only [Value.slice.injEq] at e1
      rw [e1.1] at e
      cases e
    · simp only [Value.slice.injEq] at e1
      rw [e1.1] at e
      cases e
      have := (Array.getElem?_eq_some_iff.1 hg).1
      have := A2.size
      omega

theorem steps_seq (n : Nat) (hn : 4 ≤ n) (Bk : Nat) (M : Nat → Prop) (ao : Option Addr) (cap : Nat) (bs : List UInt8) (w : World) (nv : Nat)
    (hM : ∀ b, M b → b < w.heap.size) (hv : Bytes nv w (.slice ao bs.length cap) bs) (hvM : ∀ b o, ao = some ⟨b, o, none⟩ → ¬ M b) (hMk : ¬ M Bk)
    (ck : w.cell? ⟨Bk, 0, none⟩ = some (.slice ao bs.length cap)) (hlen : bs.length ≤ 9223372036854775806) :
    SeqS Fence.wide n Tryd.prog 34 #[.pointer (some ⟨Bk, 0, none⟩)] (stepV bs) (KeepC M) (fun xs => xs = List.range (bs.length + 1)) (fun pre => ∃ j, j ≤ bs.length + 1 ∧ pre = List.range j)
      (AtIx (bs.length + 1)) w := fun l J Jx W hb hJ hJx hY h0 =>
  steps1_in W.heap.size n hn l Bk M ao cap bs J Jx W hJ hJx hY (Nat.le_refl _) (fun b h => Nat.lt_of_lt_of_le (hM b h) hb.size) nv (hv.keep (KeepC.of_below (M := M) hb) hvM) hvM hMk (Adds.cellAt hb ck) h0 hlen
end Go.Proofs.YtbhggjgghngeeaaDoor
