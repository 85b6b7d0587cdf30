/- Same: its contracts. -/
import Derived.Test.YtleihmmkonakhaaDoorMS2
namespace Go.Proofs.YtleihmmkonakhaaDoor
open Go Go.RowKit Go.Shelf Go.Maps

set_option maxRecDepth 100000 in
set_option maxHeartbeats 2000000 in
theorem sameM_any (v u : Value) (bm b bm' b' : Nat) (S T : Nat → Nat) (L L' : List (Nat × Nat)) (w : World) (hM : MemP w v S bm b L) (hM' : MemP w u T bm' b' L') :
    Calls Tryd.prog 14 #[v, u] w fun e w' => e = .returned (.bool (sameB S T)) ∧ Adds w w' := by
  obtain rfl := hM.ptr
  obtain rfl := hM'.ptr
  have HN := Lib.hid (isNoneM_full bm b w hM.c0)
  have HN' := Lib.hid (isNoneM_full bm' b' w hM'.c0)
  have HM := Lib.hid hM; have HM' := Lib.hid hM'
  obtain ⟨z, hz⟩ : ∃ z, sameB S T = z := ⟨_, rfl⟩
  have HZ := Lib.hid hz
  rw [hz]
  clear hM hM' hz
  go_enter Tryd.func14, Tryd.ntmps14
  go_wp2_with (first
    | (go_at_call 26; refine HN.out.mono ?_; rintro e w1 ⟨rfl, rfl⟩; clear HN)
    | (go_at_call 26; refine HN'.out.mono ?_; rintro e w1 ⟨rfl, rfl⟩; clear HN'))
  have HC := Lib.hid (fun (W : World) (hW : Adds w W) => (HZ.out ▸ equalM_any b b' S T L L' W (HM.out.mem.adds hW) (HM'.out.mem.adds hW)))
  refine wp_region_loose [] (fun _ _ _ => True) Adds (by kernel_rfl) (by kernel_rfl) (by simp) Adds.refl (fun _ _ _ h k => Adds.trans h k) (fun _ _ _ _ _ _ => trivial) ?_
  repeat (refine wpL_step (fun K hK => ?_); first
    | (refine stepL_ex rfl rfl rfl Adds.refl (fun w' hw' => rfl) ?_; go_simp; refine hK _ ?_; clear hK K)
    | (refine stepL_ex (v := .map (some b)) rfl rfl rfl Adds.refl ?_ ?_; (· (intro w' hw'; clear hK; have hc := (HM.out.adds (Adds.trans (Adds.drew w) hw')).c0; go_simp)); go_simp; refine hK _ ?_; clear hK K)
    | (refine stepL_ex (v := .map (some b')) rfl rfl rfl Adds.refl ?_ ?_; (· (intro w' hw'; clear hK; have hc := (HM'.out.adds (Adds.trans (Adds.drew w) hw')).c0; go_simp)); go_simp; refine hK _ ?_; clear hK K)
    | (refine stepL_call (v := .bool z) (f := 30) (args := #[.map (some b), .map (some b'), .func (.func 31) #[] #[]]) rfl rfl rfl ?_ (fun w' hw' => HC.out w' (Adds.trans (Adds.drew w) hw')) ?_; (· (intro w'; clear hK; go_simp)); go_simp; refine hK _ ?_; clear hK K))
  refine wpL_nil ?_
  intro w10 a10
  simp only [forL]
  have A10 := Lib.hid (Adds.trans (Adds.drew w) a10); clear a10
  go_wp2_with fail
  go_ret
  exact ⟨rfl, A10.out⟩
theorem sameM_nn (v u : Value) (w : World) (h : NoMem w v) (h' : NoMem w u) :
    Calls Tryd.prog 14 #[v, u] w fun e w' => e = .returned (.bool true) ∧ w = w' := by
  have HN := Lib.hid (isNoneM_no v w h)
  have HN' := Lib.hid (isNoneM_no u w h')
  clear h h'
  go_enter Tryd.func14, Tryd.ntmps14
  have HN2 := HN
  go_wp2_with (first
    | (go_at_call 26; refine HN.out.mono ?_; rintro e w1 ⟨rfl, rfl⟩; clear HN)
    | (go_at_call 26; refine HN2.out.mono ?_; rintro e w1 ⟨rfl, rfl⟩; clear HN2)
    | (go_at_call 26; refine HN'.out.mono ?_; rintro e w1 ⟨rfl, rfl⟩; clear HN'))
  go_ret
  exact ⟨rfl, rfl⟩
theorem sameM_mn (v u : Value) (bm b : Nat) (S : Nat → Nat) (L : List (Nat × Nat)) (w : World) (hM : MemP w v S bm b L) (h' : NoMem w u) :
    Calls Tryd.prog 14 #[v, u] w fun e w' => e = .returned (.bool false) ∧ w = w' := by
  obtain rfl := hM.ptr
  have HN := Lib.hid (isNoneM_full bm b w hM.c0)
  have HN' := Lib.hid (isNoneM_no u w h')
  clear hM h'
  go_enter Tryd.func14, Tryd.ntmps14
  have HN2 := HN
  go_wp2_with (first
    | (go_at_call 26; refine HN.out.mono ?_; rintro e w1 ⟨rfl, rfl⟩; clear HN)
    | (go_at_call 26; refine HN'.out.mono ?_; rintro e w1 ⟨rfl, rfl⟩; clear HN')
    | (go_at_call 26; refine HN2.out.mono ?_; rintro e w1 ⟨rfl, rfl⟩; clear HN2))
  go_ret
  exact ⟨rfl, rfl⟩
end Go.Proofs.YtleihmmkonakhaaDoor
