/- The chapter's rows (works): its contract. -/
import Derived.Test.YtleihmmkonakhaaDoorMD2
namespace Go.Proofs.YtleihmmkonakhaaDoor
open Go Go.RowKit Go.Shelf Go.Maps

abbrev cellA (x : Nat × Nat) : List Value := [.int .u32 ((x.1 : Nat) : Int), .int .u32 ((x.2 : Nat) : Int)]
theorem cells_lit1 (B : Nat → Prop) (w : World) (x : Nat × Nat) (hB : B w.heap.size) : CellsW B (w.alloc (.cells #[.int .u32 ((x.1 : Nat) : Int), .int .u32 ((x.2 : Nat) : Int)] 31)) (.slice (some ⟨w.heap.size, 0, none⟩) 1 1) [x] := by
  refine ⟨_, 1, rfl, by simp, by unfold maxLen; omega, fun _ => ⟨_, 0, rfl, hB, fun i hi => ?_⟩⟩
  have hi0 : i = 0 := by simp at hi; exact hi
  subst hi0
  constructor <;> simp [u32V]
theorem cells_lit2 (B : Nat → Prop) (w : World) (x y : Nat × Nat) (hB : B w.heap.size) : CellsW B (w.alloc (.cells #[.int .u32 ((x.1 : Nat) : Int), .int .u32 ((x.2 : Nat) : Int), .int .u32 ((y.1 : Nat) : Int), .int .u32 ((y.2 : Nat) : Int)] 31)) (.slice (some ⟨w.heap.size, 0, none⟩) 2 2) [x, y] := by
  refine ⟨_, 2, rfl, by simp, by unfold maxLen; omega, fun _ => ⟨_, 0, rfl, hB, fun i hi => ?_⟩⟩
  have hi0 : i = 0 ∨ i = 1 := by simp at hi; omega
  rcases hi0 with rfl | rfl <;> constructor <;> simp [u32V]
theorem cells_lit3 (B : Nat → Prop) (w : World) (x y z : Nat × Nat) (hB : B w.heap.size) : CellsW B (w.alloc (.cells #[.int .u32 ((x.1 : Nat) : Int), .int .u32 ((x.2 : Nat) : Int), .int .u32 ((y.1 : Nat) : Int), .int .u32 ((y.2 : Nat) : Int), .int .u32 ((z.1 : Nat) : Int), .int .u32 ((z.2 : Nat) : Int)] 31)) (.slice (some ⟨w.heap.size, 0, none⟩) 3 3) [x, y, z] := by
  refine ⟨_, 3, rfl, by simp, by unfold maxLen; omega, fun _ => ⟨_, 0, rfl, hB, fun i hi => ?_⟩⟩
  have hi0 : i = 0 ∨ i = 1 ∨ i = 2 := by simp at hi; omega
  rcases hi0 with rfl | rfl | rfl <;> constructor <;> simp [u32V]

def workS : Nat → Nat := storeAll (fun _ => 0) [(4096, 7), (1, 5), (4096, 0)]
theorem workS_eq (a : Nat) : workS a = if a = 1 then 5 else 0 := by
  unfold workS storeAll
  simp only [List.foldl_cons, List.foldl_nil, setW]
  by_cases h1 : a = 4096
  · simp [h1]
  · by_cases h2 : a = 1 <;> simp [h1, h2]
theorem workS_cells : IsCells workS [(1, 5)] := by
  refine ⟨by simp, fun x => ?_⟩
  rw [workS_eq]
  constructor
  · intro h
    simp at h
    subst h
    simp
  · rintro ⟨h1, h2, h3⟩
    by_cases h : x.1 = 1
    · rw [if_pos h] at h2
      simp
      exact Prod.ext h h2
    · rw [if_neg h] at h2
      exact absurd h2 h3
theorem work_pages {w : World} {b : Nat} {L : List (Nat × Nat)} (h : MemL w b workS L) : sortU (L.map (·.1)) = [0] :=
  pages_cells h workS_cells (by simp) (fun p => by
    constructor
    · intro hp
      simp at hp
      exact ⟨(1, 5), by simp, by simp [hp]⟩
    · rintro ⟨x, hx, rfl⟩
      simp at hx
      subst hx
      simp)

theorem bytes_lit8 (w : World) : Bytes (w.heap.size + 1) (w.alloc (.cells #[.int .u8 1, .int .u8 0, .int .u8 0, .int .u8 0, .int .u8 5, .int .u8 0, .int .u8 0, .int .u8 0] 5)) (.slice (some ⟨w.heap.size, 0, none⟩) 8 8) [1, 0, 0, 0, 5, 0, 0, 0] := by
  refine ⟨_, 8, rfl, by simp, by unfold maxLen; omega, fun _ => ⟨_, 0, rfl, by omega, fun i hi => ?_⟩⟩
  have hi0 : i = 0 ∨ i = 1 ∨ i = 2 ∨ i = 3 ∨ i = 4 ∨ i = 5 ∨ i = 6 ∨ i = 7 := by simp at hi; omega
  rcases hi0 with rfl | rfl | rfl | rfl | rfl | rfl | rfl | rfl <;> simp [byteV]
theorem pages_one (bm b : Nat) (v : Value) (S : Nat → Nat) (L : List (Nat × Nat)) (w : World) (hM : MemP w v S bm b L) (h1 : sortU (L.map (·.1)) = [0]) :
    Calls Tryd.prog 24 #[v] w fun e w' => ∃ g cap, e = .returned (.slice (some ⟨g, 0, none⟩) 1 cap) ∧ (1 ≤ cap ∧ cap ≤ maxLen) ∧ w'.cell? ⟨g, 0, none⟩ = some (.int .u32 0) ∧ Adds w w' :=
  (pagesM_any bm b v S L w hM).mono fun e w' ⟨v, he, hr, ha⟩ => by
    rw [h1] at hr
    obtain ⟨ao, cap, rfl, h2, h3, h4⟩ := rowU_cells hr
    obtain ⟨g, rfl, _, h5⟩ := h4 (by simp)
    exact ⟨g, cap, he, ⟨h2, h3⟩, h5 0 (by simp), ha⟩
theorem work_bytes : sumS (cellsB [(1, 5)]) = sumS [1, 0, 0, 0, 5, 0, 0, 0] := by
  have e : cellsB [(1, 5)] = [1, 0, 0, 0, 5, 0, 0, 0] := by decide
  rw [e]

set_option maxRecDepth 100000 in
set_option maxHeartbeats 2000000 in
theorem worksM_any (w : World) (hw : Widths w) : Calls Tryd.prog 8 #[] w fun e w' => e = .returned (.bool true) ∧ Adds w w' := by
  have HW := Lib.hid hw; clear hw
  have HNum := Lib.hid numM_any
  go_enter Tryd.func8, Tryd.ntmps8
  go_wp2_with fail
  refine (newM_any w).mono ?_
  rintro e w1 ⟨bm, b, rfl, hm, ha, hbm, hb⟩
  have HM := Lib.hid hm; have HA := Lib.hid ha; have HBm := Lib.hid (And.intro hbm hb)
  clear hm ha hbm hb
  obtain ⟨w2, hw2⟩ : ∃ w2, w1.alloc (.cells #[.int .u32 4096, .int .u32 7, .int .u32 1, .int .u32 5, .int .u32 4096, .int .u32 0] 31) = w2 := ⟨_, rfl⟩
  have HA2 := Lib.hid (show Adds w1 w2 by rw [← hw2]; exact Adds.new _ _)
  have HCl := Lib.hid (show CellsW (fun g => ¬ footP bm b [] g) w2 (.slice (some ⟨w1.heap.size, 0, none⟩) 3 3) [(4096, 7), (1, 5), (4096, 0)] by
    rw [← hw2]; exact cells_lit3 _ w1 (4096, 7) (1, 5) (4096, 0) (fun h => by have := HM.out.foot_lt h; omega))
  have HSt := Lib.hid (storeM_any bm b _ _ _ _ [] w2 (HM.out.adds HA2.out) HCl.out (by intro x hx; simp at hx; rcases hx with rfl | rfl | rfl <;> decide))
  have HW2 := Lib.hid hw2
  clear hw2
  go_wp2_with fail
  rw [HW2.out]
  refine HSt.out.mono ?_
  rintro e w3 ⟨rfl, L3, m3, f3, n3⟩
  have HM3 := Lib.hid (show MemP w3 (.pointer (some ⟨bm, 0, none⟩)) workS bm b L3 from m3)
  have HA3 := Lib.hid (Frm.adds (Adds.trans HA.out HA2.out) f3 (fun i hi => by
    rcases hi with rfl | hi
    · exact HBm.out.2
    · simp at hi))
  clear m3 f3 n3 HSt HW2 HCl HM
  have HP := Lib.hid (pages_one bm b _ workS L3 w3 HM3.out (work_pages HM3.out.mem))
  have HL1 := Lib.hid (fun (W : World) (h : Adds w3 W) => (show workS 1 = 5 by rw [workS_eq]; rfl) ▸ loadM_any bm b 1 _ workS L3 W (by omega) (HM3.out.adds h))
  have HL2 := Lib.hid (fun (W : World) (h : Adds w3 W) => (show workS 4096 = 0 by rw [workS_eq]; rfl) ▸ loadM_any bm b 4096 _ workS L3 W (by omega) (HM3.out.adds h))
  have HLn := Lib.hid (fun (W : World) (h : Adds w3 W) => (show sumL workS L3 = 1 from sumL_cells HM3.out.mem workS_cells) ▸ lenM_any bm b _ workS L3 W (HM3.out.adds h))
  have HDg := Lib.hid (fun (W : World) (h : Adds w3 W) => digestM_any bm b _ workS L3 [(1, 5)] W (HM3.out.adds h) workS_cells (HW.out.below (Adds.trans HA3.out h)))
  have HOf := Lib.hid (fun (W : World) => refOf_any _ _ _ (bytes_lit8 W))
  rw [work_bytes] at HDg
  obtain ⟨z, hz⟩ : ∃ z, sumS [1, 0, 0, 0, 5, 0, 0, 0] = z := ⟨_, rfl⟩
  rw [hz] at HDg HOf
  clear hz
  go_wp2_with (first
    | (go_at_call 24; refine HP.out.mono ?_; rintro e w4 ⟨g, cap, rfl, ⟨q1, q2⟩, q3, q4⟩; have Q4 := Lib.hid q4; have Q3 := Lib.hid q3; unfold maxLen at q2; clear q3 q4 HP)
    | (go_at_call 11; refine (HNum.out _ _).mono ?_; rintro e w5 ⟨rfl, rfl⟩)
    | (go_at_call 22; refine (HL1.out w4 Q4.out).mono ?_; rintro e w5 ⟨rfl, rfl⟩; clear HL1)
    | (go_at_call 22; refine (HL2.out w4 Q4.out).mono ?_; rintro e w5 ⟨rfl, rfl⟩; clear HL2)
    | (go_at_call 23; refine (HLn.out w4 Q4.out).mono ?_; rintro e w6 ⟨rfl, q5⟩; have Q5 := Lib.hid q5; have q6 := q5.cellAt Q3.out; clear q5 HLn)
    | (go_at_call 15; refine (HDg.out w6 (Adds.trans Q4.out Q5.out)).mono ?_; rintro e w7 ⟨rfl, q7⟩; have Q7 := Lib.hid q7; clear q7 HDg)
    | (go_at_call 25; refine (HOf.out w7).mono ?_; rintro e w8 ⟨rfl, q8⟩; have Q8 := Lib.hid q8; clear q8 HOf))
  go_ret
  refine ⟨by simp, ?_⟩
  rw [← Q8.out]
  exact Adds.trans HA3.out (Adds.trans Q4.out (Adds.trans Q5.out (Adds.trans Q7.out (Adds.new _ _))))
end Go.Proofs.YtleihmmkonakhaaDoor
