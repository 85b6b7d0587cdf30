/- at; read, write, unwrite: their contracts. -/
import Derived.Test.YtedllkahalfjgaaWF1
namespace Go.Proofs.Ytedllkahalfjgaa
open Go Go.RowKit

theorem outB_no {n most : Int} (h0 : 0 ≤ n) (h1 : n ≤ most) : outB n most = false := by unfold outB; simp; omega
theorem outB_yes {n most : Int} (h : ¬ (0 ≤ n ∧ n ≤ most)) : outB n most = true := by unfold outB; simp; omega
theorem at_nil (i : Int) (w : World) : Calls Try.prog 50 #[.pointer none, .int .i64 i] w fun e w' => e = .returned (.pointer none) ∧ w = w' := by
  have HL := Lib.hid (lenW_nil w)
  have HO := Lib.hid (isOutside_any i (-1) w)
  rw [outB_yes (by omega)] at HO
  go_enter Try.func50, Try.ntmps50
  go_wp2_with (first
    | (go_at_call 49; refine HL.out.mono ?_; rintro e w1 ⟨rfl, rfl⟩)
    | (go_at_call 39; refine HO.out.mono ?_; rintro e w1 ⟨rfl, rfl⟩))
  go_ret
  exact ⟨rfl, rfl⟩
theorem at_zero (bp : Nat) (i : Int) (w : World) (hc : w.cell? ⟨bp, 0, none⟩ = some (.pointer none)) : Calls Try.prog 50 #[.pointer (some ⟨bp, 0, none⟩), .int .i64 i] w fun e w' => e = .returned (.pointer none) ∧ w = w' := by
  have HL := Lib.hid (lenW_zero bp w hc)
  have HO := Lib.hid (isOutside_any i (-1) w)
  rw [outB_yes (by omega)] at HO
  go_enter Try.func50, Try.ntmps50
  go_wp2_with (first
    | (go_at_call 49; refine HL.out.mono ?_; rintro e w1 ⟨rfl, rfl⟩)
    | (go_at_call 39; refine HO.out.mono ?_; rintro e w1 ⟨rfl, rfl⟩))
  go_ret
  exact ⟨rfl, rfl⟩
section
variable {m : Nat} {w : World} {v : Value} {bp bl : Nat} {lv : List LM}
theorem LocksP.c0 (h : LocksP m w v bp bl lv) : w.cell? ⟨bp, 0, none⟩ = some (.pointer (some ⟨bl, 0, none⟩)) := h.blk.cell 0
theorem LocksP.cm (h : LocksP m w v bp bl lv) : w.cell? ⟨bl, 192, none⟩ = some (.int .i64 ((lv.length : Nat) : Int)) := (h.lst.cell 192).trans (listC_many h.len)
theorem LocksP.at_ (h : LocksP m w v bp bl lv) {i : Nat} {x : LM} (hx : lv[i]? = some x) : w.cell? ⟨bl, i * 3, none⟩ = some x.sv ∧ w.cell? ⟨bl, i * 3 + 1, none⟩ = some (.int .i64 (whoW x.lk.wr)) ∧ w.cell? ⟨bl, i * 3 + 2, none⟩ = some (.bool (decide (x.lk.wr ≠ 0))) :=
  ⟨(h.lst.cell (i * 3)).trans (listC_at h.len hx 0 (by decide)), (h.lst.cell (i * 3 + 1)).trans (listC_at h.len hx 1 (by decide)), (h.lst.cell (i * 3 + 2)).trans (listC_at h.len hx 2 (by decide))⟩
theorem at_no (i : Int) (h : LocksP m w v bp bl lv) (hi : ¬ hasL (lv.map LM.lk) i) : Calls Try.prog 50 #[v, .int .i64 i] w fun e w' => e = .returned (.pointer none) ∧ w = w' := by
  obtain rfl := h.ptr
  have HL := Lib.hid (lenW_full bp bl _ w h.c0 h.cm)
  have HO := Lib.hid (isOutside_any i (((lv.length : Nat) : Int) - 1) w)
  rw [outB_yes (by unfold hasL at hi; rw [List.length_map] at hi; omega)] at HO
  obtain ⟨z, hz⟩ : ∃ z : Int, ((lv.length : Nat) : Int) = z := ⟨_, rfl⟩
  have hz0 : 0 ≤ z := by omega
  have hz1 : z ≤ 64 := by have := h.len; omega
  rw [hz] at HL HO
  clear hz h hi
  go_enter Try.func50, Try.ntmps50
  go_wp2_with (first
    | (go_at_call 49; refine HL.out.mono ?_; rintro e w1 ⟨rfl, rfl⟩)
    | (go_at_call 39; refine HO.out.mono ?_; rintro e w1 ⟨rfl, rfl⟩))
  go_ret
  exact ⟨rfl, rfl⟩
set_option maxHeartbeats 1000000 in
theorem at_yes (i : Nat) (h : LocksP m w v bp bl lv) (hi : i < lv.length) : Calls Try.prog 50 #[v, .int .i64 ((i : Nat) : Int)] w fun e w' => e = .returned (.pointer (some ⟨bl, i * 3, none⟩)) ∧ Gr w w' := by
  obtain rfl := h.ptr
  have c0 := h.c0
  have HL := Lib.hid (lenW_full bp bl _ w h.c0 h.cm)
  have HO := Lib.hid (isOutside_any ((i : Nat) : Int) (((lv.length : Nat) : Int) - 1) w)
  rw [outB_no (by omega) (by omega)] at HO
  have HA := Lib.hid (allW_any bl lv.length h.len w h.cm)
  obtain ⟨n, hn⟩ : ∃ n, lv.length = n := ⟨_, rfl⟩
  have hl : n ≤ 64 := by have := h.len; omega
  have hiI : ((i : Nat) : Int) < ((n : Nat) : Int) := by omega
  have hnI : ((n : Nat) : Int) ≤ 64 := by omega
  rw [hn] at HL HO HA
  clear h hi hn hl
  go_enter Try.func50, Try.ntmps50
  go_wp2_with (first
    | (go_at_call 49; refine HL.out.mono ?_; rintro e w1 ⟨rfl, rfl⟩)
    | (go_at_call 39; refine HO.out.mono ?_; rintro e w1 ⟨rfl, rfl⟩)
    | (go_at_call 79; refine HA.out.mono ?_; rintro e w1 ⟨rfl, h1⟩; have H1 := Lib.hid h1; clear h1))
  go_ret
  exact ⟨by simp, H1.out⟩

/-- What read, write, unwrite leave of a lock's place. -/
theorem read_any (h : LocksP m w v bp bl lv) {i : Nat} {x : LM} (hx : lv[i]? = some x) (by_ : Int) (hb : mayI by_) (hm : m ≤ 1000000) :
    Calls Try.prog 70 #[.pointer (some ⟨bl, i * 3, none⟩), .int .i64 by_] w fun e w' => e = .returned (.tuple #[]) ∧ ∃ v', LocksP (m + 1) w' v bp bl (lv.set i ⟨⟨x.lk.rd ++ [by_], x.lk.wr⟩, v'⟩) ∧ TnO (ownB bp bl lv) w w' ∧ ∀ k, ownB bp bl (lv.set i ⟨⟨x.lk.rd ++ [by_], x.lk.wr⟩, v'⟩) k → ownB bp bl lv k ∨ w.heap.size ≤ k := by
  obtain ⟨w1, hw1⟩ : ∃ w1, w.alloc (.cells #[.int .i64 by_] 3) = w1 := ⟨_, rfl⟩
  have A1 := Lib.hid (show Adds w w1 by rw [← hw1]; exact (Gr.new _ _).adds)
  have z0 : w1.cell? ⟨w.heap.size, 0, none⟩ = some (.int .i64 by_) := by rw [← hw1]; simp
  have H1 := Lib.hid (h.adds A1.out)
  have ok := h.ok x (List.mem_of_getElem? hx)
  have OK := Lib.hid ok
  have LE := Lib.hid (show x.lk.rd.length ≤ 1000000 by have := ok.2.2.2; omega)
  obtain ⟨c0, c1, c2⟩ := h.at_ hx
  have d0 := Adds.cellAt A1.out c0
  have ZR := Lib.hid (H1.out.row i x hx)
  have HX := Lib.hid hx; have HB := Lib.hid hb
  have f1 := H1.out.lst.free (i * 3)
  have HS := Lib.hid (show w.heap.size ≤ w1.heap.size from A1.out.size)
  clear c1 c2 h ok hx hb hm
  go_enter Try.func70, Try.ntmps70
  go_wp2_with (at_builtin; refine wpR_app1 rfl _ _ rfl x.sv x.lk.rd w.heap.size 1 by_ rfl rfl ZR.out LE.out z0 ?_; intro v' w2 h2 h3 h4; obtain ⟨ao1, cp1, ev, ec1, ec2⟩ := h2.form; rw [List.length_append, List.length_singleton] at ev; clear ec1 ec2; subst ev; have y0 : w2.cell? ⟨bl, i * 3, none⟩ = some x.sv := (World.cell?_of_block (h3.block bl H1.out.lst.lt (fun e => (H1.out.ne_row HX.out e.symm).2 rfl))).trans d0; have yf : w2.frozen? ⟨bl, i * 3, none⟩ = false := (World.frozen?_of_block (h3.block bl H1.out.lst.lt (fun e => (H1.out.ne_row HX.out e.symm).2 rfl))).trans f1; have G := Lib.hid (H1.out.putR (n := m + 1) (by omega) HX.out h3 h2 ⟨OK.out.1, OK.out.2.1, fun r hr => (List.mem_append.1 hr).elim (OK.out.2.2.1 r) (fun e => by rw [List.mem_singleton.1 e]; exact HB.out), by have := OK.out.2.2.2; simp; omega⟩ h4); clear h2 h3 h4)
  go_end0
  obtain ⟨g1, g2, g3⟩ := G.out
  exact ⟨rfl, _, g1, (TnO.of_adds _ A1.out).trans g2, fun k hk => (g3 k hk).imp id (Nat.le_trans HS.out)⟩
theorem write_any (h : LocksP m w v bp bl lv) {i : Nat} {x : LM} (hx : lv[i]? = some x) (by_ : Int) (hb : mayI by_) :
    Calls Try.prog 72 #[.pointer (some ⟨bl, i * 3, none⟩), .int .i64 by_] w fun e w' => e = .returned (.tuple #[]) ∧ LocksP m w' v bp bl (lv.set i ⟨⟨x.lk.rd, by_ + 1⟩, x.sv⟩) ∧ TnO (ownB bp bl lv) w w' ∧ ∀ k, ownB bp bl (lv.set i ⟨⟨x.lk.rd, by_ + 1⟩, x.sv⟩) k → ownB bp bl lv k ∨ w.heap.size ≤ k := by
  have ok := h.ok x (List.mem_of_getElem? hx)
  unfold mayI at hb
  have G := Lib.hid (h.putW hx (by_ + 1) ⟨by show 0 ≤ by_ + 1; omega, by show by_ + 1 ≤ 65536; omega, ok.2.2⟩)
  rw [show whoW (by_ + 1) = by_ by unfold whoW; rw [if_neg (by omega)]; omega, show decide (by_ + 1 ≠ 0) = true by simp; omega] at G
  obtain ⟨c0, c1, c2⟩ := h.at_ hx
  have f1 := h.lst.free (i * 3 + 1); have f2 := h.lst.free (i * 3 + 2)
  clear h ok hx hb c0
  go_enter Try.func72, Try.ntmps72
  go_wp2
  go_end0
  exact ⟨rfl, G.out⟩
theorem unwrite_any (h : LocksP m w v bp bl lv) {i : Nat} {x : LM} (hx : lv[i]? = some x) :
    Calls Try.prog 74 #[.pointer (some ⟨bl, i * 3, none⟩)] w fun e w' => e = .returned (.int .i64 (whoW x.lk.wr)) ∧ LocksP m w' v bp bl (lv.set i ⟨⟨x.lk.rd, 0⟩, x.sv⟩) ∧ TnO (ownB bp bl lv) w w' ∧ ∀ k, ownB bp bl (lv.set i ⟨⟨x.lk.rd, 0⟩, x.sv⟩) k → ownB bp bl lv k ∨ w.heap.size ≤ k := by
  have ok := h.ok x (List.mem_of_getElem? hx)
  have G := Lib.hid (h.putW hx 0 ⟨by show (0 : Int) ≤ 0; omega, by show (0 : Int) ≤ 65536; omega, ok.2.2⟩)
  rw [show whoW 0 = 0 from rfl, show decide ((0 : Int) ≠ 0) = false from rfl] at G
  obtain ⟨c0, c1, c2⟩ := h.at_ hx
  have f1 := h.lst.free (i * 3 + 1); have f2 := h.lst.free (i * 3 + 2)
  clear h ok hx c0
  generalize whoW x.lk.wr = q at *
  go_enter Try.func74, Try.ntmps74
  go_wp2
  go_ret
  exact ⟨rfl, G.out⟩
end
end Go.Proofs.Ytedllkahalfjgaa
