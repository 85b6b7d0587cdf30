/- A site read of a text: its contract. -/
import Derived.Test.YtoeoeeomnbggkaaGreatDoorSMem
import Derived.Test.YtoeoeeomnbggkaaGreatDoorSF3
namespace Go.Proofs.YtoeoeeomnbggkaaGreatDoor
open Go Go.RowKit Go.Shelf

def rdV (o : Option Si) : Value := match o with
  | some s => .tuple #[siV s, .int .i64 0]
  | none => .tuple #[siV (0, 0), .int .i64 170]
theorem textV_some {m : UInt8} {l r : List UInt8} {v : Int} (h : partT m l = some (v, r)) : textV m l = .tuple #[.int .i64 v, .string (str r), .int .i64 0] := by unfold textV; rw [h]
theorem textV_none {m : UInt8} {l : List UInt8} (h : partT m l = none) : textV m l = .tuple #[.int .i64 0, .string ⟨#[]⟩, .int .i64 170] := by unfold textV; rw [h]
theorem readT_0 {l : List UInt8} (h : partT 102 l = none) : readT l = none := by unfold readT; rw [h]
theorem readT_1 {l r : List UInt8} {f : Int} (h : partT 102 l = some (f, r)) (h2 : partT 58 r = none) : readT l = none := by unfold readT; rw [h]; simp only; rw [h2]
theorem readT_2 {l r q : List UInt8} {f p : Int} (h : partT 102 l = some (f, r)) (h2 : partT 58 r = some (p, q)) : readT l = if rightS (f, p) = true then some (f, p) else none := by unfold readT; rw [h]; simp only; rw [h2]

def RdT (l : List UInt8) (z : Int) (l' : List UInt8) (n0 n1 : Int) : Prop :=
  (z = 0 ∧ l' = l) ∨ (z = 1 ∧ partT 102 l = some (n0, l')) ∨ (z = 2 ∧ ∃ r, partT 102 l = some (n0, r) ∧ partT 58 r = some (n1, l'))

set_option maxRecDepth 100000 in
set_option maxHeartbeats 4000000 in
theorem readS_any (l : List UInt8) (hl : l.length ≤ 1000000) (w : World) (hv : SVars w) :
    Calls Tryz.prog 30 #[.string (str l), .func (.func 31) #[] #[]] w fun e w' => e = .returned (rdV (readT l)) ∧ Adds w w' := by
  have HV := Lib.hid hv
  have HL := Lib.hid hl
  clear hv hl
  go_enter Tryz.func30, Tryz.ntmps30
  go_wp2_with (go_at_call 28; refine (parts_any _).mono ?_; rintro e w2 ⟨rfl, h1⟩; have HK2 := Lib.hid h1; clear h1)
  obtain ⟨k0, hk0⟩ : ∃ k0, w.heap.size = k0 := ⟨_, rfl⟩
  obtain ⟨w1, hw1⟩ : ∃ w1, (w.alloc (.cells #[.int .i64 0, .int .i64 0] 30)).alloc (.cells #[.int .i64 0, .int .i64 0] 88) = w1 := ⟨_, rfl⟩
  have HG1 := Lib.hid (show Adds w w1 by rw [← hw1]; exact ((Gr.new _ _).alloc _).adds)
  have HB0 := Lib.hid (show BkS 30 w1 k0 [.int .i64 0, .int .i64 0] by rw [← hw1, ← hk0]; exact (BkS.new _ _ _).adds (Gr.new _ _).adds)
  have HB1 := Lib.hid (show BkS 88 w1 (k0 + 1) [.int .i64 0, .int .i64 0] by have := BkS.new 88 (w.alloc (.cells #[.int .i64 0, .int .i64 0] 30)) [.int .i64 0, .int .i64 0]; rw [← hw1, ← hk0]; simpa using this)
  have HK0 := Lib.hid hk0
  rw [hw1] at HK2
  rw [hk0]
  clear hw1 hk0
  have HR2 := Lib.hid (show Adds w w2 from Adds.trans HG1.out HK2.out.adds)
  have HC0 := Lib.hid (HB0.out.adds HK2.out.adds)
  have HC1 := Lib.hid (HB1.out.adds HK2.out.adds)
  clear HB0 HB1 HK2 HG1
  go_loopw [0, 14] (fun s i wr => ∃ (z : Int) (l' : List UInt8) (n0 n1 : Int), i = .int .i64 z ∧ s = .string (str l') ∧ l'.length ≤ 1000000 ∧ Adds w wr ∧ BkS 30 wr k0 [.int .i64 0, .int .i64 0] ∧ BkS 88 wr (k0 + 1) [.int .i64 n0, .int .i64 n1] ∧ RdT l z l' n0 n1) (fun _ i _ => 3 - (intOf i).toNat)
  case atStart => exact ⟨0, l, 0, 0, rfl, rfl, HL.out, HR2.out, HC0.out, HC1.out, .inl ⟨rfl, rfl⟩⟩
  case round =>
    obtain ⟨z, l', n0, n1, rfl, rfl, hl', hA, hS, hN, hR⟩ := hrel
    have HL' := Lib.hid hl'; have HA := Lib.hid hA; have HS := Lib.hid hS; have HN := Lib.hid hN
    clear hl' hA hS hN
    rcases hR with ⟨rfl, rfl⟩ | ⟨rfl, hR⟩ | ⟨rfl, r, hR, hR2⟩
    · have HI := ix0
      have HRR := Lib.hid (rfl : l' = l')
      cases hp : partT 102 l' with
      | none =>
        have HT := Lib.hid (fun W hW => textV_none hp ▸ text_any fn1 32 102 1 l' HL'.out W hW)
        have HP := Lib.hid hp
        clear hp
        go_wp2_with (go_at_call 31; refine (HT.out _ (HV.out.below (Adds.trans HA.out (Gr.new _ _).adds))).mono ?_; rintro e w3 ⟨rfl, h3⟩
                     have e3 := HS.out.adds (Adds.trans (Gr.new wr _).adds h3)
                     have c30 : w3.cell? ⟨k0, 0, none⟩ = some (.int .i64 0) := e3.cell 0
                     have c31 : w3.cell? ⟨k0, 1, none⟩ = some (.int .i64 0) := e3.cell 1
                     have f30 := e3.free 0
                     have f31 := e3.free 1
                     have H3 := Lib.hid (Adds.trans HA.out (Adds.trans (Gr.new wr _).adds h3))
                     have E3 := Lib.hid e3
                     clear h3 e3)
        refine bodyPost_ret (res_box2 rfl _ _ _ _ _ _ _ rfl ((E3.out.set 0 (.int .i64 0)).set 1 (.int .i64 0)) Tryz.underlying30 rfl (by kernel_rfl)) rfl ?_
        refine ⟨by rw [readT_0 HP.out]; rfl, Adds.set (Adds.set H3.out (Nat.le_of_eq HK0.out) 0 _) (Nat.le_of_eq HK0.out) 1 _⟩
      | some y =>
        obtain ⟨v, r⟩ := y
        have HT := Lib.hid (fun W hW => textV_some hp ▸ text_any fn1 32 102 1 l' HL'.out W hW)
        have HP := Lib.hid hp
        clear hp
        go_wp2_with (go_at_call 31; refine (HT.out _ (HV.out.below (Adds.trans HA.out (Gr.new _ _).adds))).mono ?_; rintro e w3 ⟨rfl, h3⟩
                     have e3 := HN.out.adds (Adds.trans (Gr.new wr _).adds h3)
                     have c30 : w3.cell? ⟨k0 + 1, 0, none⟩ = some (.int .i64 n0) := e3.cell 0
                     have f30 := e3.free 0
                     have H3 := Lib.hid (Adds.trans HA.out (Adds.trans (Gr.new wr _).adds h3))
                     have S3 := Lib.hid (HS.out.adds (Adds.trans (Gr.new wr _).adds h3))
                     have E3 := Lib.hid e3
                     clear h3 e3)
        go_roundw
        case rel => exact ⟨1, r, v, n1, rfl, rfl, Nat.le_trans (textV_len HP.out) HL'.out, Adds.set H3.out (by have := HK0.out; omega) 0 _, S3.out.other (by omega) _, E3.out.set 0 _, .inr (.inl ⟨rfl, HP.out⟩)⟩
        case measure => simp [intOf]
    · have HI := ix1
      have HRR := Lib.hid hR
      clear hR
      cases hp : partT 58 l' with
      | none =>
        have HT := Lib.hid (fun W hW => textV_none hp ▸ text_any fn2 512 58 2 l' HL'.out W hW)
        have HP := Lib.hid hp
        clear hp
        go_wp2_with (go_at_call 31; refine (HT.out _ (HV.out.below (Adds.trans HA.out (Gr.new _ _).adds))).mono ?_; rintro e w3 ⟨rfl, h3⟩
                     have e3 := HS.out.adds (Adds.trans (Gr.new wr _).adds h3)
                     have c30 : w3.cell? ⟨k0, 0, none⟩ = some (.int .i64 0) := e3.cell 0
                     have c31 : w3.cell? ⟨k0, 1, none⟩ = some (.int .i64 0) := e3.cell 1
                     have f30 := e3.free 0
                     have f31 := e3.free 1
                     have H3 := Lib.hid (Adds.trans HA.out (Adds.trans (Gr.new wr _).adds h3))
                     have E3 := Lib.hid e3
                     clear h3 e3)
        refine bodyPost_ret (res_box2 rfl _ _ _ _ _ _ _ rfl ((E3.out.set 0 (.int .i64 0)).set 1 (.int .i64 0)) Tryz.underlying30 rfl (by kernel_rfl)) rfl ?_
        refine ⟨by rw [readT_1 HRR.out HP.out]; rfl, Adds.set (Adds.set H3.out (Nat.le_of_eq HK0.out) 0 _) (Nat.le_of_eq HK0.out) 1 _⟩
      | some y =>
        obtain ⟨v, r⟩ := y
        have HT := Lib.hid (fun W hW => textV_some hp ▸ text_any fn2 512 58 2 l' HL'.out W hW)
        have HP := Lib.hid hp
        clear hp
        go_wp2_with (go_at_call 31; refine (HT.out _ (HV.out.below (Adds.trans HA.out (Gr.new _ _).adds))).mono ?_; rintro e w3 ⟨rfl, h3⟩
                     have e3 := HN.out.adds (Adds.trans (Gr.new wr _).adds h3)
                     have c30 : w3.cell? ⟨k0 + 1, 1, none⟩ = some (.int .i64 n1) := e3.cell 1
                     have f30 := e3.free 1
                     have H3 := Lib.hid (Adds.trans HA.out (Adds.trans (Gr.new wr _).adds h3))
                     have S3 := Lib.hid (HS.out.adds (Adds.trans (Gr.new wr _).adds h3))
                     have E3 := Lib.hid e3
                     clear h3 e3)
        go_roundw
        case rel => exact ⟨2, r, n0, v, rfl, rfl, Nat.le_trans (textV_len HP.out) HL'.out, Adds.set H3.out (by have := HK0.out; omega) 1 _, S3.out.other (by omega) _, E3.out.set 1 _, .inr (.inr ⟨rfl, l', HRR.out, HP.out⟩)⟩
        case measure => simp [intOf]
    · have hc0 : wr.cell? ⟨k0 + 1, 0, none⟩ = some (.int .i64 n0) := HN.out.cell 0
      have hc1 : wr.cell? ⟨k0 + 1, 1, none⟩ = some (.int .i64 n1) := HN.out.cell 1
      have hv := readT_2 hR hR2
      have HCk := Lib.hid (check_any (n0, n1))
      by_cases hr : rightS (n0, n1) = true
      · rw [if_pos hr] at hv
        have HVl := Lib.hid hv
        unfold chkE at HCk
        rw [if_pos hr] at HCk
        clear hv hr hR hR2
        go_wp2_with (go_at_call 27; refine (HCk.out _).mono ?_; rintro e w3 ⟨rfl, h3⟩
                     have e3 := HS.out.adds (Adds.trans (Gr.new wr _).adds h3.adds)
                     have c30 : w3.cell? ⟨k0, 0, none⟩ = some (.int .i64 0) := e3.cell 0
                     have c31 : w3.cell? ⟨k0, 1, none⟩ = some (.int .i64 0) := e3.cell 1
                     have f30 := e3.free 0
                     have f31 := e3.free 1
                     have HB := Lib.hid (((BkS.new 30 wr [.int .i64 n0, .int .i64 n1]).adds h3.adds))
                     have b30 : w3.cell? ⟨wr.heap.size, 0, none⟩ = some (.int .i64 n0) := HB.out.cell 0
                     have b31 : w3.cell? ⟨wr.heap.size, 1, none⟩ = some (.int .i64 n1) := HB.out.cell 1
                     have H3 := Lib.hid (Adds.trans HA.out (Adds.trans (Gr.new wr _).adds h3.adds))
                     have E3 := Lib.hid e3
                     clear h3 e3)
        refine bodyPost_ret (res_box2 rfl _ _ _ _ _ _ _ rfl ((E3.out.set 0 (.int .i64 n0)).set 1 (.int .i64 n1)) Tryz.underlying30 rfl (by kernel_rfl)) rfl ?_
        refine ⟨by rw [HVl.out]; rfl, Adds.set (Adds.set H3.out (Nat.le_of_eq HK0.out) 0 _) (Nat.le_of_eq HK0.out) 1 _⟩
      · rw [if_neg hr] at hv
        have HVl := Lib.hid hv
        unfold chkE at HCk
        rw [if_neg hr] at HCk
        clear hv hr hR hR2
        go_wp2_with (go_at_call 27; refine (HCk.out _).mono ?_; rintro e w3 ⟨rfl, h3⟩
                     have e3 := HS.out.adds (Adds.trans (Gr.new wr _).adds h3.adds)
                     have c30 : w3.cell? ⟨k0, 0, none⟩ = some (.int .i64 0) := e3.cell 0
                     have c31 : w3.cell? ⟨k0, 1, none⟩ = some (.int .i64 0) := e3.cell 1
                     have f30 := e3.free 0
                     have f31 := e3.free 1
                     have H3 := Lib.hid (Adds.trans HA.out (Adds.trans (Gr.new wr _).adds h3.adds))
                     have E3 := Lib.hid e3
                     clear h3 e3)
        refine bodyPost_ret (res_box2 rfl _ _ _ _ _ _ _ rfl ((E3.out.set 0 (.int .i64 0)).set 1 (.int .i64 0)) Tryz.underlying30 rfl (by kernel_rfl)) rfl ?_
        refine ⟨by rw [HVl.out]; rfl, Adds.set (Adds.set H3.out (Nat.le_of_eq HK0.out) 0 _) (Nat.le_of_eq HK0.out) 1 _⟩
end Go.Proofs.YtoeoeeomnbggkaaGreatDoor
