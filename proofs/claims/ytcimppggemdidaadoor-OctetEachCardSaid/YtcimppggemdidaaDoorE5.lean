/- Each's sequence, as the law of a range asks for it. -/
import Derived.Test.YtcimppggemdidaaDoorE4
namespace Go.Proofs.YtcimppggemdidaaDoor
open Go Go.RowKit Go.Shelf

def nOf (bs : List UInt8) (k : Int) : Nat := if isW k then bs.length / k.toNat else 0

theorem each_seq (n : Nat) (hn : 4 ≤ n) (Bw Br : Nat) (M : Nat → Prop) (ao : Option Addr) (cap : Nat) (bs : List UInt8) (k : Int) (w : World) (nv : Nat)
    (hM : ∀ b, M b → b < w.heap.size) (hv : Bytes nv w (.slice ao bs.length cap) bs) (hvM : ∀ b o, ao = some ⟨b, o, none⟩ → ¬ M b) (hw : Widths w) (hM0 : ¬ M 1)
    (cw : w.cell? ⟨Bw, 0, none⟩ = some (.int .i64 k)) (cr : w.cell? ⟨Br, 0, none⟩ = some (.slice ao bs.length cap)) :
    SeqX Fence.wide n Tryd.prog 52 #[.pointer (some ⟨Br, 0, none⟩), .pointer (some ⟨Bw, 0, none⟩)] (eachV bs k.toNat) (KeepC M) (fun xs => xs = List.range (nOf bs k)) (fun pre => ∃ j, j ≤ nOf bs k ∧ pre = List.range j)
      (AtIx (nOf bs k)) w := fun l J Jx W hb hJ hJx hY h0 => by
  have hs : w.heap.size ≤ W.heap.size := hb.size
  have hKW : KeepC M w W := KeepC.of_below hb
  have hw' : Widths W := hw.keep hKW hM0
  have hv' : Bytes nv W (.slice ao bs.length cap) bs := hv.keep hKW hvM
  have cw' := Adds.cellAt hb cw
  have cr' := Adds.cellAt hb cr
  cases hk : isW k with
  | false =>
    have e : nOf bs k = 0 := by simp [nOf, hk]
    refine (each1_none n hn l Bw Br ao bs.length cap k hk J W hJ hw' cw' cr' h0).mono ?_
    rintro e' W' ⟨h1, h2⟩
    exact ⟨h1, .inl ⟨[], by rw [e]; rfl, h2⟩⟩
  | true =>
    have hkn : 0 < k ∧ k ≤ 8 := by
      simp [isW] at hk
      omega
    obtain ⟨m, rfl⟩ : ∃ m : Nat, k = m := ⟨k.toNat, by omega⟩
    have e : nOf bs m = bs.length / m := by simp [nOf, hk]
    rw [e] at hY ⊢
    exact each1_in W.heap.size n hn l Bw Br M ao cap bs m hk (by omega) (by omega) J Jx W hJ hJx hY (Nat.le_refl _) (fun b h => Nat.lt_of_lt_of_le (hM b h) hs) nv hv' hvM hw' hM0 cw' cr' h0
end Go.Proofs.YtcimppggemdidaaDoor
