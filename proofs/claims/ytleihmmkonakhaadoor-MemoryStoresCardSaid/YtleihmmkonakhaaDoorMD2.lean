/- Digest of a memory: its contracts. -/
import Derived.Test.YtleihmmkonakhaaDoorMD1
import Derived.Test.YtleihmmkonakhaaDoorMS3
namespace Go.Proofs.YtleihmmkonakhaaDoor
open Go Go.RowKit Go.Shelf Go.Maps

set_option maxHeartbeats 1000000 in
theorem digestM_any (bm b : Nat) (v : Value) (S : Nat → Nat) (L cs : List (Nat × Nat)) (w : World) (hM : MemP w v S bm b L) (hc : IsCells S cs) (hw : Widths w) :
    Calls Tryd.prog 15 #[v] w fun e w' => e = .returned (.int .u64 ((sumS (cellsB cs) : Nat) : Int)) ∧ Adds w w' := by
  have HM := Lib.hid hM; have HW := Lib.hid hw; have HC := Lib.hid hc
  obtain rfl := hM.ptr
  clear hM hw hc
  have HN := Lib.hid (fun (W : World) (h : Adds w W) => isNoneM_full bm b W (HM.out.adds h).c0)
  have HT := Lib.hid (fun (W : World) (bd : Nat) (h : Adds w W) (hn : w.heap.size ≤ bd) (hb : Blk W bd (digK 256 all1 0)) => tell_any b bd S L cs W (HM.out.adds h).mem HC.out (HW.out.below h) hb (fun hf => by have := HM.out.mem.foot_lt hf; omega))
  have HS := Lib.hid (fun (W : World) (bd : Nat) (hb : Blk W bd (digK 256 (bitsS (cellsB cs)) (cellsB cs).length)) => sum_full bd _ _ (show U64 _ from bitsS_lt _) W hb)
  have hsum : (all1 - bitsS (cellsB cs) : Nat) = sumS (cellsB cs) := rfl
  rw [hsum] at HS
  obtain ⟨z, hz⟩ : ∃ z, sumS (cellsB cs) = z := ⟨_, rfl⟩
  rw [hz] at HS ⊢
  clear hz hsum
  obtain ⟨bb, hbb⟩ : ∃ bb, bitsS (cellsB cs) = bb := ⟨_, rfl⟩
  obtain ⟨bl, hbl⟩ : ∃ bl, (cellsB cs).length = bl := ⟨_, rfl⟩
  rw [hbb, hbl] at HS HT
  clear hbb hbl
  go_enter Tryd.func15, Tryd.ntmps15
  go_wp2_with fail
  refine (new_any w).mono ?_
  rintro e w1 ⟨bd, rfl, hbn, hB, ha⟩
  have HB0 := Lib.hid hB; have HA0 := Lib.hid ha; have HBN := Lib.hid hbn; clear hB ha hbn
  have cm := (HM.out.adds HA0.out).c0
  go_wp2_with (first
    | (go_at_call 26; refine (HN.out w1 HA0.out).mono ?_; rintro e w2 ⟨rfl, rfl⟩; clear HN)
    | (go_at_call 33; refine (HT.out w1 bd HA0.out HBN.out HB0.out).mono ?_; rintro e w3 ⟨rfl, h1, h2⟩; have H1 := Lib.hid h1; have H2 := Lib.hid h2; clear h1 h2 HT)
    | (go_at_call 35; refine (HS.out w3 bd H1.out).mono ?_; rintro e w4 ⟨rfl, rfl⟩; clear HS))
  go_ret
  exact ⟨rfl, Turns.own HA0.out HBN.out H2.out⟩
theorem digestM_no (v : Value) (w : World) (h : NoMem w v) :
    Calls Tryd.prog 15 #[v] w fun e w' => e = .returned (.int .u64 0) ∧ Adds w w' := by
  have HN := Lib.hid (fun (W : World) (hA : Adds w W) => isNoneM_no v W (h.adds hA))
  clear h
  go_enter Tryd.func15, Tryd.ntmps15
  go_wp2_with fail
  refine (new_any w).mono ?_
  rintro e w1 ⟨bd, rfl, hbn, hB, ha⟩
  have HB0 := Lib.hid hB; have HA0 := Lib.hid ha; have HBN := Lib.hid hbn; clear hB ha hbn
  have HS := Lib.hid (sum_full bd all1 0 (show U64 _ from all1_lt) w1 HB0.out)
  go_wp2_with (first
    | (go_at_call 26; refine (HN.out w1 HA0.out).mono ?_; rintro e w2 ⟨rfl, rfl⟩; clear HN)
    | (go_at_call 35; refine HS.out.mono ?_; rintro e w4 ⟨rfl, rfl⟩; clear HS))
  go_ret
  exact ⟨by simp, HA0.out⟩

/-- The law's own small functions. -/
theorem numM_any (x : Int) (w : World) : Calls Tryd.prog 11 #[.int .i64 x] w fun e w' => e = .returned (.int .i64 x) ∧ w = w' := by
  go_enter Tryd.func11, Tryd.ntmps11
  go_wp2
  go_ret
  exact ⟨rfl, rfl⟩
end Go.Proofs.YtleihmmkonakhaaDoor
