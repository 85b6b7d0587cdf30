/- From what a row lets in to what the walks ask; and from what they leave to what a row asks. -/
import Derived.Test.YtbinmgpfkjmijaaGreatDoorCards
import Derived.Test.YtbinmgpfkjmijaaGreatDoorTie
import Derived.WalkKit
import Derived.ProofKit
import Derived.OpenShut
import Derived.Deep.DeepHandedRow
import Derived.Lib.LaidTab
import Derived.Test.YtbinmgpfkjmijaaGreatDoorBA
namespace Go.Proofs.YtbinmgpfkjmijaaGreatDoor
open Go Go.ChangeShapes Go.WideShapes Go.ChangeAt Go.RowKit

theorem laidOutP : laidOutB Tryz.prog = true := by kernel_rfl

section
variable {H : Type} {enc : TypeId × Value → H}

/-- Arguments of types that read as data read as they did, where only memory was made. -/
theorem args_adds {P : Program} (hl : laidOutB P = true) : ∀ (ts : List TypeId) (vs : List Value) (ds : List (DataW H)) (ps : List MemPlace) {W W' : World}, (∀ t ∈ ts, P.readableRec t = true ∧ t < P.types.size) →
    DataW.TrodAll enc P W 0 (fun _ => true) true ts vs ds ps → Below W.heap.size W W' → (∀ x ∈ ps, x.block < W.heap.size) → ∀ sp : Nat → Bool, (∀ x ∈ ps, sp x.block = true) → DataW.TrodAll enc P W' 0 sp true ts vs ds ps
  | [], [], [], _, _, _, _, h, _, _, _, _ => h
  | t :: ts, v :: vs, d :: ds, ps, W, W', hr, h, hb, hlt, sp, hsp => by
    obtain ⟨p, q, h1, h2, rfl⟩ := h
    have hrt := hr t (by simp)
    refine ⟨p, q, ?_, args_adds hl ts vs ds q (fun t ht => hr t (by simp [ht])) h2 hb (fun x hx => hlt x (by simp [hx])) sp (fun x hx => hsp x (by simp [hx])), rfl⟩
    exact WideElems.Trod_stays hl hrt.1 hrt.2 h1 (fun x hx => hb.same (hlt x (by simp [hx]))) (fun x hx => hsp x (by simp [hx]))
  | [], _ :: _, _, _, _, _, _, h, _, _, _, _ => h.elim
  | [], [], _ :: _, _, _, _, _, h, _, _, _, _ => h.elim
  | _ :: _, [], _, _, _, _, _, h, _, _, _, _ => h.elim
  | _ :: _, _ :: _, [], _, _, _, _, h, _, _, _, _ => h.elim

set_option maxRecDepth 100000 in
/-- A slice of bytes that comes in reads as bytes. -/
theorem arg_bytes {r : Reach} {b0 : Nat} {W : World} {v : Value} {d : DataW H} {ps : List MemPlace} (hval : Value.okWide Tryz.prog W r b0 37 v)
    (hd : DataW.Trod enc Tryz.prog W 0 (fun _ => true) true 37 v d ps) : ∃ l, Bytes W.heap.size W v l := by
  obtain ⟨a0, len, cap, rfl⟩ := okWide_slice Tryz.underlying37 hval
  obtain ⟨fuel, hf⟩ := hd
  rcases open_ints Tryz.underlying37 Tryz.underlying5 (by kernel_rfl) hf with ⟨hcs, hx⟩ | ⟨a, len', cap', zs, hcs, _, hl, hm, hz, hx, hcell, hwz⟩
  · simp only [Value.cells, List.cons.injEq, Value.slice.injEq, and_true] at hcs
    obtain ⟨rfl, rfl, rfl⟩ := hcs
    exact ⟨[], Bytes.nil W⟩
  · simp only [Value.cells, List.cons.injEq, Value.slice.injEq, and_true] at hcs
    obtain ⟨rfl, rfl, rfl⟩ := hcs
    simp only [if_true] at hz
    have hll : ((zs.take len).map fun z => UInt8.ofNat z.toNat).length = len := by simp; omega
    refine ⟨(zs.take len).map fun z => UInt8.ofNat z.toNat, some a, cap, by rw [hll], by rw [hll]; exact hl, hm, fun hne => ?_⟩
    have hpos : 0 < zs.length := by
      have : 0 < len := by rw [← hll]; exact List.length_pos_iff.2 hne
      omega
    obtain ⟨b, off, rfl, hc⟩ := ints_at hcell hpos
    refine ⟨b, off, rfl, World.block_lt_of_cell? W _ (hc 0 hpos), fun i hi => ?_⟩
    rw [hll] at hi
    rw [hc i (by omega)]
    have hz8 : (Lit.int .u8 (zs.getD i 0)).wf = true := by
      have hin : i < zs.length := by omega
      rw [List.getD_eq_getElem?_getD, List.getElem?_eq_getElem hin]
      exact hwz _ (List.getElem_mem hin)
    have hb := bounds_u8 hz8
    have e : ((zs.take len).map fun z => UInt8.ofNat z.toNat).getD i 0 = UInt8.ofNat (zs.getD i 0).toNat := by
      have hin : i < zs.length := by omega
      simp [hi, hin]
    rw [e]
    unfold byteV
    rw [show (UInt8.ofNat (zs.getD i 0).toNat).toNat = (zs.getD i 0).toNat % 256 from UInt8.toNat_ofNat']
    have : (((zs.getD i 0).toNat % 256 : Nat) : Int) = zs.getD i 0 := by omega
    rw [this]

set_option maxRecDepth 100000 in
/-- A uint64 that comes in. -/
theorem arg_u64 {r : Reach} {b0 : Nat} {W : World} {v : Value} {d : DataW H} {ps : List MemPlace} (hval : Value.okWide Tryz.prog W r b0 77 v)
    (hd : DataW.Trod enc Tryz.prog W 0 (fun _ => true) true 77 v d ps) : ∃ n : Nat, v = .int .u64 n ∧ U64 n := by
  obtain ⟨x, rfl, rfl, rfl, wx⟩ := open_int Tryz.underlying77 hval hd
  have hb := bounds_u64 wx
  exact ⟨x.toNat, by rw [show ((x.toNat : Nat) : Int) = x by omega], by unfold U64; omega⟩
set_option maxRecDepth 100000 in
theorem arg_int {r : Reach} {b0 : Nat} {W : World} {v : Value} {d : DataW H} {ps : List MemPlace} (hval : Value.okWide Tryz.prog W r b0 3 v)
    (hd : DataW.Trod enc Tryz.prog W 0 (fun _ => true) true 3 v d ps) : ∃ x : Int, v = .int .i64 x ∧ (Lit.int .i64 x).wf = true := by
  obtain ⟨x, rfl, rfl, rfl, wx⟩ := open_int Tryz.underlying3 hval hd
  exact ⟨x, rfl, wx⟩

theorem gWType : (Tryz.prog.globals[3]?).map (·.type) = some 160 := by kernel_rfl
/-- What the list gives: the widths. -/
theorem widths_of {W : World} (h : laidMetH Tryz.prog [("linesman/octet.widths", Rows.laid_linesman_octet_widths)] W) : Widths W := by
  have t : Lib.TabIs Tryz.prog W "linesman/octet.widths" .i64 [1, 2, 4, 8] := Lib.tabIs_of_head (rest := []) gW gWType Tryz.underlying160 Tryz.underlying3 (by kernel_rfl) (by kernel_rfl) h
  exact ⟨t.cell gW 0 (by decide), t.cell gW 1 (by decide), t.cell gW 2 (by decide), t.cell gW 3 (by decide)⟩

set_option maxRecDepth 100000 in
/-- A law's end: true, and only memory was made: what the row asks. -/
theorem law_post {f : Func} {s : ChangeSpec} {W W' : World} {args : Array Value} {v : Value} {ds gs : List (DataW H)} {before : List MemPlace}
    (hW : DataW.Whole enc Tryz.prog f.params.toList s.vars false W args.toList ds gs before) (hv : v = .bool true) (hb : Adds W W')
    (hs : s.vars = []) (hsp : s.fn H (ds ++ gs) = { results := [.lit (.bool true)], args := ds }) (hres : f.resultTypes = #[4])
    (hr : ∀ t ∈ f.params.toList, Tryz.prog.readableRec t = true ∧ t < Tryz.prog.types.size) :
    s.post enc Tryz.prog f false true false false W args v W' := by
  subst hv
  have hlt : ∀ p ∈ before, p.block < W.heap.size := fun p hp => hW.lt p hp
  have hW0 := hW
  obtain ⟨p, q, hA, hV, hpq, hz, hn⟩ := hW
  rw [hs] at hV
  obtain ⟨rfl, rfl⟩ := trodVars_none hV
  simp only [List.append_nil] at hpq
  subst hpq
  refine ⟨ds, [], before, [], before, [], hW0, ?_, ?_, ?_, World.keptBut_mono (fun p hp => ⟨hp, ?_⟩) (Below.frame hb (· ∈ before)), fun h => by cases h⟩
  · rw [hsp, hres]
    exact trodAll_mk1 (shut_bool Tryz.underlying4 _)
  · rw [hsp]
    exact args_adds laidOutP _ _ _ _ hr hA hb hlt _ (fun x hx => by simpa using hlt x hx)
  · rw [hsp, hs]; rfl
  · simpa using hp
end
end Go.Proofs.YtbinmgpfkjmijaaGreatDoor
