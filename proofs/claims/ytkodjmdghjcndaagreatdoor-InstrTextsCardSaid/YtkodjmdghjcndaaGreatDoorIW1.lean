/- What a number behind a blank asks of the library: a prefix cut off, digits trimmed, digits as a number: contracts in plain words. -/
import Derived.Test.YtkodjmdghjcndaaGreatDoorJShelf
import Derived.Test.YtkodjmdghjcndaaGreatDoorILib
import Derived.Deep.LoopGhost
import Derived.Deep.WholeRow
import Derived.Laws.Strings3
import Derived.Laws.ResultCell
namespace Go.Proofs.YtkodjmdghjcndaaGreatDoor
open Go Go.RowKit Go.Shelf

def ints (l : List UInt8) : List Int := l.map fun b => (b.toNat : Int)
theorem ints_length (l : List UInt8) : (ints l).length = l.length := by simp [ints]
theorem ints_bytes (l : List UInt8) : Lib.bytesOf (ints l) = l := by
  unfold Lib.bytesOf ints
  rw [List.map_map]
  conv => rhs; rw [← List.map_id l]
  apply List.map_congr_left
  intro b _
  simp
theorem ints_get (l : List UInt8) (i : Nat) (h : i < l.length) : (ints l).getD i 0 = ((l.getD i 0).toNat : Int) := by simp [ints, List.getD_eq_getElem?_getD, h]
theorem bytesIn8 {n : Nat} {w : World} {ao : Option Addr} {len cap : Nat} {l : List UInt8} (h : Bytes n w (.slice ao len cap) l) : Lib.BytesIn w ao len (ints l) := by
  obtain ⟨ao', cap', e, _, _, h3⟩ := h
  simp only [Value.slice.injEq] at e
  obtain ⟨rfl, rfl, rfl⟩ := e
  intro hn
  obtain ⟨b, off, e2, _, hc⟩ := h3 (List.length_pos_iff.1 hn)
  exact ⟨b, off, e2, fun i hi => by rw [ints_get l i hi]; exact hc i hi⟩
theorem bytes_len {n : Nat} {w : World} {ao : Option Addr} {len cap : Nat} {l : List UInt8} (h : Bytes n w (.slice ao len cap) l) : len = l.length ∧ len ≤ cap ∧ cap ≤ maxLen := by
  obtain ⟨ao', cap', e, h1, h2, _⟩ := h
  simp only [Value.slice.injEq] at e
  obtain ⟨rfl, rfl, rfl⟩ := e
  exact ⟨rfl, h1, h2⟩
def isP (p l : List UInt8) : Bool := p.isPrefixOf l
def behindP (p l : List UInt8) : List UInt8 := if isP p l then l.drop p.length else l
theorem add8 (b o k : Nat) : (⟨b, o, none⟩ : Addr).add k = ⟨b, o + k, none⟩ := by unfold Addr.add; split <;> simp_all
theorem cutP8 {n n2 : Nat} (ao a2 : Option Addr) (len cap m d : Nat) (l p : List UInt8) (w : World) (h : Bytes n w (.slice ao len cap) l) (h2 : Bytes n2 w (.slice a2 m d) p) :
    ∃ v', Bytes n w v' (behindP p l) ∧ Calls Tryz.prog 134 #[.slice ao len cap, .slice a2 m d] w fun e w' => e = .returned (.tuple #[v', .bool (isP p l)]) ∧ w = w' := by
  obtain ⟨hl, hlc, hcm⟩ := bytes_len h
  obtain ⟨hm, _, _⟩ := bytes_len h2
  refine ⟨Lib.trimPrefixV ao len cap (ints l) (ints p), ?_, (Any.bytes_CutPrefix_all Tryz.laysBCP ao a2 len cap m d (ints l) (ints p) w (by rw [ints_length, hl]) (by rw [ints_length, hm]) hlc (bytesIn8 h) (bytesIn8 h2)).mono fun e w' ⟨h1, h3⟩ => ⟨h1.trans ?_, h3.symm⟩⟩
  rotate_left
  · rw [ints_bytes, ints_bytes]; rfl
  · have keep : behindP p l = l → Lib.trimPrefixV ao len cap (ints l) (ints p) = .slice ao len cap → Bytes n w (Lib.trimPrefixV ao len cap (ints l) (ints p)) (behindP p l) := fun e1 e2 => by rw [e1, e2]; exact h
    rcases p with _ | ⟨y, ys⟩
    · refine keep (by simp [behindP]) ?_
      show Lib.trimPrefixV ao len cap (ints l) [] = _
      unfold Lib.trimPrefixV
      split
      · rename_i e
        cases e
      · rfl
    · by_cases hp : isP (y :: ys) l = true
      · have hl0 : l ≠ [] := by rintro rfl; cases hp
        obtain ⟨ao', cap', e, _, _, h5⟩ := id h
        simp only [Value.slice.injEq] at e
        obtain ⟨rfl, _, rfl⟩ := e
        obtain ⟨b, o, rfl, _, _⟩ := h5 hl0
        have hle : (y :: ys).length ≤ len := by rw [hl]; exact (List.isPrefixOf_iff_prefix.1 hp).length_le
        have hs := h.sliced (y :: ys).length len cap hle (Nat.le_refl _) hlc (Nat.le_refl _)
        rw [List.take_of_length_le (by rw [List.length_drop]; omega)] at hs
        have e1 : behindP (y :: ys) l = l.drop (y :: ys).length := by unfold behindP; rw [if_pos hp]
        have e2 : Lib.trimPrefixV (some ⟨b, o, none⟩) len cap (ints l) (ints (y :: ys)) = .slice (if cap = (y :: ys).length then some ⟨b, o, none⟩ else (some (⟨b, o, none⟩ : Addr)).map (·.add ((y :: ys).length * 1))) (len - (y :: ys).length) (cap - (y :: ys).length) := by
          show Lib.bytesTrimPrefix b o len cap (ints l) (ints (y :: ys)) = _
          unfold Lib.bytesTrimPrefix Lib.hasPrefix
          rw [ints_bytes, ints_bytes, if_pos (show (y :: ys).isPrefixOf l = true from hp)]
          unfold Lib.sliceFrom
          rw [ints_length]
          simp only [Option.map_some, add8, Nat.mul_one]
        rw [e1, e2]
        exact hs
      · refine keep (by unfold behindP; rw [if_neg hp]) ?_
        unfold Lib.trimPrefixV
        split
        · rename_i e
          unfold Lib.bytesTrimPrefix Lib.hasPrefix
          rw [ints_bytes, ints_bytes, if_neg (show ¬ (y :: ys).isPrefixOf l = true from hp)]
        · rfl
/-- The digits. -/
def digs : List UInt8 := [48, 49, 50, 51, 52, 53, 54, 55, 56, 57]
theorem zero_set (w : World) : (zeroValue 237).run Tryz.prog w = .ok (.agg (Array.replicate 256 (.bool false))) w := by kernel_rfl
theorem info_set : (Tryz.prog.info? 237).map (·.size) = some 256 := by kernel_rfl
set_option maxHeartbeats 4000000 in
set_option maxRecDepth 1000000 in
theorem set8 (s : ByteArray) (w : World) (hs : s.size < 1000) (ha : ∀ (j : Nat) b, s.data.toList[j]? = some b → b.toNat < 128) :
    Calls Tryz.prog 168 #[.string s] w fun e w' => e = .returned (.tuple #[.agg (Lib.setCells s.data.toList), .bool true]) ∧ Gr w w' := by
  have HA := Lib.hid ha
  have hz := zero_set
  have HS := Lib.hid hs
  clear ha
  go_enter Tryz.func168, Tryz.ntmps168
  go_wp2
  rw [← Lib.setCells_nil]
  go_loopw [4] (fun s4 wx => ∃ i : Nat, i ≤ s.size ∧ s4 = .int .i64 i ∧ wx = w.alloc (.cells (Lib.setCells (s.data.toList.take i)) 237)) (fun s4 _ => s.size + 1 - (Lib.intOf s4).toNat)
  case atStart => exact ⟨0, Nat.zero_le _, rfl, rfl⟩
  case round =>
    obtain ⟨i, hi, rfl, rfl⟩ := hrel
    by_cases hlt : i < s.size
    · have hiz : (i : Int) < (s.size : Int) := by omega
      obtain ⟨x, hx⟩ : ∃ x : UInt8, s[i]'hlt = x := ⟨_, rfl⟩
      have hxl : s.data.toList[i]? = some x := by rw [← hx]; exact Lib.data_getElem? s i hlt
      have h128 : ¬ ((128 : Int) ≤ (x.toNat : Int)) := by have := HA.out i x hxl; omega
      have h256 : (x.toNat : Int) < 256 := by omega
      have hcell := Lib.setCells_at (s.data.toList.take i) x
      have HX := Lib.hid hxl
      clear hxl
      go_wp2
      go_roundw
      case rel => exact ⟨i + 1, hlt, by simp, by rw [List.take_add_one, HX.out]; simp only [Option.toList]; rw [Lib.setCells_snoc]⟩
      case measure => simp [Lib.intOf]; omega
    · obtain rfl : i = s.size := by omega
      have hiz : ¬ ((s.size : Int) < (s.size : Int)) := by omega
      rw [show s.data.toList.take s.size = s.data.toList from List.take_of_length_le (by rw [← Lib.size_eq]; exact Nat.le_refl _)]
      obtain ⟨C, hC⟩ : ∃ C, Lib.setCells s.data.toList = C := ⟨_, rfl⟩
      have hsz : C.size = 256 := by rw [← hC]; exact Lib.setCells_size _
      have hone : C.all (·.oneCell') = true := by rw [← hC]; exact Lib.setCells_one _
      rw [hC]
      have HC := Lib.hid hC
      clear hC
      have hla := run_loadAt_new (P := Tryz.prog) w 237 C 256 4 Tryz.underlying237 (by rw [hsz]; exact info_set)
      have hsc := run_storeCells_new (P := Tryz.prog) w 237 C C (by rw [hsz]; exact info_set) rfl hone
      have HL := Lib.hid (run_loadVar_new (P := Tryz.prog) w 237 C 256 4 Tryz.underlying237 (by rw [hsz]; exact info_set))
      have HLA := Lib.hid hla
      have HSC := Lib.hid hsc
      have HSz := Lib.hid hsz
      clear hla hsc hone hz hsz
      go_wp2
      unfold Oper.wp
      simp only [execOp]
      rw [Sem.run_bind]
      erw [HLA.out]
      simp only [Result.andThen, Sem.run_pure]
      rw [Oper.upon_value]
      have hsc := HSC.out
      have hsz := HSz.out
      go_wp2
      (try simp only [Exit.inBlock, Exit.then])
      refine bodyPost_ret (v := .tuple #[.agg C, .bool true]) ?_ rfl ⟨by rw [HC.out], Gr.new _ _⟩
      rw [results_cell_tmp rfl]
      simp [asAddr, Result.andThen, HL.out]
/-- What stands at a place of the set. -/
theorem has8 (b : Nat) (x : UInt8) (v : Bool) (w : World) (hc : w.cell? ⟨b, x.toNat, none⟩ = some (.bool v)) :
    Calls Tryz.prog 198 #[.pointer (some ⟨b, 0, none⟩), .int .u8 x.toNat] w fun e w' => e = .returned (.bool v) ∧ w = w' := by
  have h256 : (x.toNat : Int) < 256 := by have := UInt8.toNat_lt x; omega
  go_enter Tryz.func198, Tryz.ntmps198
  go_wp2
  go_ret
  exact ⟨rfl, rfl⟩
end Go.Proofs.YtkodjmdghjcndaaGreatDoor
