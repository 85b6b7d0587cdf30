/- From what a row of package arith lets in to what the walks ask; and from what they leave to what a row asks. -/
import Derived.Test.YtooocgnjefbnkaaDoorRows
import Derived.WalkKit
import Derived.ProofKit
import Derived.OpenShut
import Derived.Deep.DeepHandedRow
import Derived.Lib.LaidTab
import Derived.Test.YtooocgnjefbnkaaDoorAMem
namespace Go.Proofs.YtooocgnjefbnkaaDoor
open Go Go.ChangeShapes Go.WideShapes Go.ChangeAt Go.RowKit

theorem laidOutP5 : laidOutB Tryd.prog = true := by kernel_rfl

section
variable {H : Type} {enc : TypeId × Value → H}

/-- Arguments of types that read as data read as they did, where only memory was made. -/
theorem args_adds5 {P : Program} (hl : laidOutB P = true) : ∀ (ts : List TypeId) (vs : List Value) (ds : List (DataW H)) (ps : List MemPlace) {W W' : World}, (∀ t ∈ ts, P.readableRec t = true ∧ t < P.types.size) →
    DataW.TrodAll enc P W 0 (fun _ => true) true ts vs ds ps → Below W.heap.size W W' → (∀ x ∈ ps, x.block < W.heap.size) → ∀ sp : Nat → Bool, (∀ x ∈ ps, sp x.block = true) → DataW.TrodAll enc P W' 0 sp true ts vs ds ps
  | [], [], [], _, _, _, _, h, _, _, _, _ => h
  | t :: ts, v :: vs, d :: ds, ps, W, W', hr, h, hb, hlt, sp, hsp => by
    obtain ⟨p, q, h1, h2, rfl⟩ := h
    have hrt := hr t (by simp)
    refine ⟨p, q, ?_, args_adds5 hl ts vs ds q (fun t ht => hr t (by simp [ht])) h2 hb (fun x hx => hlt x (by simp [hx])) sp (fun x hx => hsp x (by simp [hx])), rfl⟩
    exact WideElems.Trod_stays hl hrt.1 hrt.2 h1 (fun x hx => hb.same (hlt x (by simp [hx]))) (fun x hx => hsp x (by simp [hx]))
  | [], _ :: _, _, _, _, _, _, h, _, _, _, _ => h.elim
  | [], [], _ :: _, _, _, _, _, h, _, _, _, _ => h.elim
  | _ :: _, [], _, _, _, _, _, h, _, _, _, _ => h.elim
  | _ :: _, _ :: _, [], _, _, _, _, h, _, _, _, _ => h.elim

set_option maxRecDepth 100000 in
/-- A word that comes in. -/
theorem arg_u32 {r : Reach} {b0 : Nat} {W : World} {v : Value} {d : DataW H} {ps : List MemPlace} (hval : Value.okWide Tryd.prog W r b0 63 v)
    (hd : DataW.Trod enc Tryd.prog W 0 (fun _ => true) true 63 v d ps) : ∃ n : Nat, v = .int .u32 n ∧ n < 4294967296 := by
  obtain ⟨x, rfl, rfl, rfl, wx⟩ := open_int Tryd.underlying63 hval hd
  have hb := bounds_u32 wx
  exact ⟨x.toNat, by rw [show ((x.toNat : Nat) : Int) = x by omega], by omega⟩
set_option maxRecDepth 100000 in
/-- A kind that comes in. -/
theorem arg_arith {r : Reach} {b0 : Nat} {W : World} {v : Value} {d : DataW H} {ps : List MemPlace} (hval : Value.okWide Tryd.prog W r b0 40 v)
    (hd : DataW.Trod enc Tryd.prog W 0 (fun _ => true) true 40 v d ps) : ∃ x : Int, v = .int .i64 x ∧ (Lit.int .i64 x).wf = true := by
  obtain ⟨x, rfl, rfl, rfl, wx⟩ := open_int Tryd.underlying40 hval hd
  exact ⟨x, rfl, wx⟩
set_option maxRecDepth 100000 in
/-- A slice of words of 32 bits that comes in reads as words of 32 bits. -/
theorem cells32_in {fuel : Nat} {W : World} {v : Value} {d : DataW H} {ps : List MemPlace} (hf : DataW.trod enc Tryd.prog W 0 (fun _ => true) true fuel 75 [v] = some (d, ps)) : ∃ l, Cells32 W.heap.size W v l := by
  rcases open_ints Tryd.underlying75 Tryd.underlying63 (by kernel_rfl) hf with ⟨hcs, hx⟩ | ⟨a, len, cap, zs, hcs, _, hl, hm, hz, hx, hcell, hwz⟩
  · simp only [List.cons.injEq, and_true] at hcs
    subst hcs
    exact ⟨[], Cells32.nil W⟩
  · simp only [List.cons.injEq, and_true] at hcs
    subst hcs
    simp only [if_true] at hz
    have hll : ((zs.take len).map fun z => UInt32.ofNat z.toNat).length = len := by simp; omega
    refine ⟨(zs.take len).map fun z => UInt32.ofNat z.toNat, some a, cap, by rw [hll], by rw [hll]; exact hl, hm, fun hne => ?_⟩
    have hpos : 0 < zs.length := by
      have : 0 < len := by rw [← hll]; exact List.length_pos_iff.2 hne
      omega
    obtain ⟨b, off, rfl, hc⟩ := ints_at hcell hpos
    refine ⟨b, off, rfl, World.block_lt_of_cell? W _ (hc 0 hpos), fun i hi => ?_⟩
    rw [hll] at hi
    rw [hc i (by omega)]
    have hz8 : (Lit.int .u32 (zs.getD i 0)).wf = true := by
      have hin : i < zs.length := by omega
      rw [List.getD_eq_getElem?_getD, List.getElem?_eq_getElem hin]
      exact hwz _ (List.getElem_mem hin)
    have hb := bounds_u32 hz8
    have e : ((zs.take len).map fun z => UInt32.ofNat z.toNat).getD i 0 = UInt32.ofNat (zs.getD i 0).toNat := by
      have hin : i < zs.length := by omega
      simp [hi, hin]
    rw [e]
    unfold cellV
    rw [show (UInt32.ofNat (zs.getD i 0).toNat).toNat = (zs.getD i 0).toNat % 4294967296 from UInt32.toNat_ofNat']
    have : (((zs.getD i 0).toNat % 4294967296 : Nat) : Int) = zs.getD i 0 := by omega
    rw [this]
set_option maxRecDepth 100000 in
theorem arg_cells32 {r : Reach} {b0 : Nat} {W : World} {v : Value} {d : DataW H} {ps : List MemPlace} (hval : Value.okWide Tryd.prog W r b0 75 v)
    (hd : DataW.Trod enc Tryd.prog W 0 (fun _ => true) true 75 v d ps) : ∃ l, Cells32 W.heap.size W v l := by
  obtain ⟨a0, len, cap, rfl⟩ := okWide_slice Tryd.underlying75 hval
  obtain ⟨fuel, hf⟩ := hd
  exact cells32_in hf
set_option maxRecDepth 100000 in
/-- A law's end: true, and only memory was made: what the row asks. -/
theorem law_post5 {f : Func} {s : ChangeSpec} {W W' : World} {args : Array Value} {v : Value} {ds gs : List (DataW H)} {before : List MemPlace}
    (hW : DataW.Whole enc Tryd.prog f.params.toList s.vars false W args.toList ds gs before) (hv : v = .bool true) (hb : Adds W W')
    (hs : s.vars = []) (hsp : s.fn H (ds ++ gs) = { results := [.lit (.bool true)], args := ds }) (hres : f.resultTypes = #[4])
    (hr : ∀ t ∈ f.params.toList, Tryd.prog.readableRec t = true ∧ t < Tryd.prog.types.size) :
    s.post enc Tryd.prog f false true false false W args v W' := by
  subst hv
  have hlt : ∀ p ∈ before, p.block < W.heap.size := fun p hp => hW.lt p hp
  have hW0 := hW
  obtain ⟨p, q, hA, hV, hpq, hz, hn⟩ := hW
  rw [hs] at hV
  obtain ⟨rfl, rfl⟩ := trodVars_none hV
  simp only [List.append_nil] at hpq
  subst hpq
  refine ⟨ds, [], before, [], before, [], hW0, ?_, ?_, ?_, World.keptBut_mono (fun p hp => ⟨hp, ?_⟩) (Below.frame hb (· ∈ before)), fun h => by cases h⟩
  · rw [hsp, hres]
    exact trodAll_mk1 (shut_bool Tryd.underlying4 _)
  · rw [hsp]
    exact args_adds5 laidOutP5 _ _ _ _ hr hA hb hlt _ (fun x hx => by simpa using hlt x hx)
  · rw [hsp, hs]; rfl
  · simpa using hp
end
end Go.Proofs.YtooocgnjefbnkaaDoor
