/- Reading a number of what is left: contract. -/
import Derived.Test.YtfclclckcjjnkaaGreatDoorIR1
import Derived.Test.YtfclclckcjjnkaaGreatDoorBB
namespace Go.Proofs.YtfclclckcjjnkaaGreatDoor
open Go Go.RowKit Go.Shelf Go.Lib

/-- How a reader stands: its bytes, and how many it has taken. -/
abbrev rdC (v : Value) (k : Nat) : List Value := [v, .int .i64 (k : Int)]
def RdPost8 (ok : Bool) (val : Value) (br : Nat) (v : Value) (k : Nat) (w : World) (e : Ending) (w' : World) : Prop :=
  if ok then e = .returned val ∧ BkS 256 w' br (rdC v k) ∧ TnS br w w' else e = .panicked [{ v := .iface 278 (.int .i64 110), recovered := false }] ∧ Adds w w'
theorem rfE_is (l : List UInt8) {wd : Int} (h : wd = 1 ∨ wd = 4) : rfE l wd = if l.length < wd.toNat then 110 else 0 := by
  unfold rfE
  rw [if_pos (by rcases h with rfl | rfl <;> decide)]
set_option maxRecDepth 100000 in
set_option maxHeartbeats 4000000 in
theorem readN8 {n : Nat} (br pb : Nat) (v0 v2 v3 : Value) (wd : Int) (hwd : wd = 1 ∨ wd = 4) (v : Value) (l : List UInt8) (k : Nat) (hk : k ≤ l.length) (w : World) (hn : n ≤ w.heap.size) (hv : Bytes n w v l) (hw : Widths w)
    (hp : BkS 234 w pb [v0, .int .i64 wd, v2, v3]) (hr : BkS 256 w br (rdC v k)) :
    Calls Tryz.prog 223 #[.pointer (some ⟨br, 0, none⟩), .func (.func 237) #[] #[.pointer (some ⟨pb, 0, none⟩)]] w
      (RdPost8 (decide (¬ (l.drop k).length < wd.toNat)) (.int .i64 ((rfN (l.drop k) wd : Nat) : Int)) br v (k + wd.toNat) w) := by
  have hmx : Tryz.prog.follows .mixedOrders = true := by kernel_rfl
  obtain ⟨ao, cap, rfl, hv1, hv2, hv3⟩ := id hv
  have HNum := Lib.hid (fun (W : World) (h : Adds w W) => num8 pb v0 v2 v3 wd hwd (cutF ao l.length cap k) (l.drop k) W (bytes_from (hv.below (h.mono hn)) k hk) (hw.adds h) (hp.adds h))
  have HFr := Lib.hid (fun (W : World) => from8 ao l.length cap k hk W)
  have HRd := Lib.hid hr
  have HD := Lib.hid (show ∀ w', Adds w.drew w' → w'.cell? ⟨br, 0, none⟩ = some (.slice ao l.length cap) ∧ w'.cell? ⟨br, 1, none⟩ = some (.int .i64 (k : Int)) from fun w' h => by
    have := hr.adds (Adds.trans (Adds.drew w) h)
    exact ⟨this.cell 0, this.cell 1⟩)
  have HE := Lib.hid (rfE_is (l.drop k) hwd)
  obtain ⟨m, hm⟩ : ∃ m, rfN (l.drop k) wd = m := ⟨_, rfl⟩
  obtain ⟨er, her⟩ : ∃ er, rfE (l.drop k) wd = er := ⟨_, rfl⟩
  rw [hm] at HNum ⊢
  rw [her] at HNum HE
  obtain ⟨cu, hcu⟩ : ∃ cu, cutF ao l.length cap k = cu := ⟨_, rfl⟩
  rw [hcu] at HNum HFr
  have HW4 := Lib.hid (show 1 ≤ wd ∧ wd ≤ 4 by omega)
  unfold maxLen at hv2
  have HKl := Lib.hid (And.intro hk (And.intro hv1 hv2))
  obtain ⟨ok, hok⟩ : ∃ ok, decide (¬ (l.drop k).length < wd.toNat) = ok := ⟨_, rfl⟩
  rw [hok]
  have HOk := Lib.hid hok
  clear hm her hv hw hp hr hv1 hv2 hv3 hk hok hcu hwd hn
  go_enter Tryz.func223, Tryz.ntmps223
  go_wp2_with fail
  refine wp_region_loose [] (fun _ _ _ => True) Adds (by kernel_rfl) (by kernel_rfl) (by simp) Adds.refl (fun _ _ _ h k => Adds.trans h k) (fun _ _ _ _ _ _ => trivial) ?_
  repeat (refine wpL_step (fun K hK => ?_); first
    | (refine stepL_ex rfl rfl rfl Adds.refl (fun w' hw' => rfl) ?_; go_simp; refine hK _ ?_; clear hK K)
    | (refine stepL_ex (v := .pointer (some ⟨br, 0, none⟩)) rfl rfl rfl Adds.refl ?_ ?_; (· (intro w' hw'; clear hK; go_simp)); go_simp; refine hK _ ?_; clear hK K)
    | (refine stepL_ex (v := .pointer (some ⟨br, 1, none⟩)) rfl rfl rfl Adds.refl ?_ ?_; (· (intro w' hw'; clear hK; go_simp)); go_simp; refine hK _ ?_; clear hK K)
    | (refine stepL_ex (v := .slice ao l.length cap) rfl rfl rfl Adds.refl ?_ ?_; (· (intro w' hw'; clear hK; have hc := HD.out w' hw'; go_simp)); go_simp; refine hK _ ?_; clear hK K)
    | (refine stepL_ex (v := .int .i64 (k : Int)) rfl rfl rfl Adds.refl ?_ ?_; (· (intro w' hw'; clear hK; have hc := HD.out w' hw'; go_simp)); go_simp; refine hK _ ?_; clear hK K)
    | (refine stepL_call (v := cu) (f := 247) (args := #[.slice ao l.length cap, .int .i64 (k : Int)]) rfl rfl rfl ?_ (fun w' _ => (HFr.out w').mono fun _ _ ⟨q1, q2⟩ => ⟨q1, q2 ▸ Adds.refl _⟩) ?_; (· (intro w'; clear hK; go_simp)); go_simp; refine hK _ ?_; clear hK K)
    | (refine stepL_call (v := .tuple #[.int .i64 (m : Int), .int .i64 wd, .int .i64 er]) (f := 237) (args := #[cu, .pointer (some ⟨pb, 0, none⟩)]) rfl rfl rfl ?_ (fun w' hw' => HNum.out w' (Adds.trans (Adds.drew w) hw')) ?_; (· (intro w'; clear hK; go_simp)); go_simp; refine hK _ ?_; clear hK K))
  refine wpL_nil ?_
  intro w4 a4
  simp only [forL]
  have HA4 := Lib.hid (Adds.trans (Adds.drew w) a4)
  have HR4 := Lib.hid (HRd.out.adds HA4.out)
  have d1 : w4.cell? ⟨br, 1, none⟩ = some (.int .i64 (k : Int)) := HR4.out.cell 1
  have f1 := HR4.out.free 1
  clear a4
  cases ok
  · have he : er = 110 := by
      have h1 : (l.drop k).length < wd.toNat := by have h0 := HOk.out; rw [decide_eq_false_iff_not] at h0; omega
      rw [HE.out, if_pos h1]
    subst he
    clear HD HNum HFr
    simp only [Exit.then]
    go_wp2_with fail
    exact ⟨rfl, by simp [RdPost8]; exact HA4.out⟩
  · have hl := of_decide_eq_true HOk.out
    have he : er = 0 := by rw [HE.out, if_neg hl]
    subst he
    have hwr : wrap64 ((k : Int) + wd) = (k : Int) + wd := by
      have h1 := HKl.out
      have h2 := HW4.out
      rw [List.length_drop] at hl
      unfold wrap64
      omega
    clear HD HNum HFr hl
    simp only [Exit.then]
    go_wp2_with fail
    go_ret
    have hs := HR4.out.set 1 (.int .i64 ((k : Int) + wd))
    have e : ((k + wd.toNat : Nat) : Int) = (k : Int) + wd := by have := HW4.out; omega
    refine ⟨rfl, ?_, (TnS.of_adds br HA4.out).trans (TnS.setCell _ _ _ _)⟩
    unfold rdC
    rw [e]
    exact hs
end Go.Proofs.YtfclclckcjjnkaaGreatDoor
