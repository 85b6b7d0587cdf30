/- The law DigestSums, walked. -/
import Derived.Test.YtbhggjgghngeeaaDoorDWorks
import Derived.Test.YtbhggjgghngeeaaDoorDMk
namespace Go.Proofs.YtbhggjgghngeeaaDoor
open Go Go.RowKit

/-- What the three slices of slices of the law hold. -/
def SumKey (n0 : Nat) (l : List UInt8) (a : Nat) (d : Tmp) (u : Value) (W : World) : Prop :=
  n0 ≤ W.heap.size ∧ Lists n0 W u (if d = 19 then [l] else if d = 30 then [l.take a, l.drop a] else [[], l.take a, [], l.drop a])
theorem SumKey.adds {n0 a : Nat} {l : List UInt8} {d : Tmp} {u : Value} {W W' : World} (ha : Adds W W') (h : SumKey n0 l a d u W) : SumKey n0 l a d u W' :=
  ⟨Nat.le_trans h.1 ha.size, h.2.below ha h.1⟩
theorem sums_of {n0 a : Nat} {l : List UInt8} {u : Value} {W : World} (d : Tmp) (hl : l.length ≤ 400) (h : SumKey n0 l a d u W) :
    Calls Tryd.prog 14 #[u] W fun e W' => e = .returned (.int .u64 (sumS l)) ∧ Adds W W' := by
  have hf : (if d = 19 then [l] else if d = 30 then [l.take a, l.drop a] else [[], l.take a, [], l.drop a] : List (List UInt8)).flatten = l := by
    split
    · simp
    · split <;> simp
  have := of_any u _ W h.2 h.1 (by rw [hf]; omega)
  rw [hf] at this
  exact this
theorem sumKey_new19 {w W : World} {a cap : Nat} {l : List UInt8} {ao : Option Addr} (hv : Bytes w.heap.size w (.slice ao l.length cap) l) (hW : Adds w.drew W) :
    SumKey w.heap.size l a 19 (.slice (some ⟨W.heap.size, 0, none⟩) 1 1) (W.alloc (.cells #[.slice ao l.length cap] 22)) :=
  have h1 : w.heap.size ≤ W.heap.size := hW.size
  ⟨by simp; omega, lists_1 W _ l h1 (hv.below ((Adds.drew w).trans hW))⟩
theorem sumKey_new30 {w W : World} {a cap : Nat} {l : List UInt8} {ao : Option Addr} (hv : Bytes w.heap.size w (.slice ao l.length cap) l) (ha : a ≤ l.length) (hW : Adds w.drew W) :
    SumKey w.heap.size l a 30 (.slice (some ⟨W.heap.size, 0, none⟩) 2 2) (W.alloc (.cells #[cutTo ao cap a, cutFrom ao l.length cap a] 22)) :=
  have h1 : w.heap.size ≤ W.heap.size := hW.size
  have hb := hv.below ((Adds.drew w).trans hW)
  ⟨by simp; omega, lists_2 W _ _ _ _ h1 (cutTo_bytes hb ha) (cutFrom_bytes hb ha)⟩
theorem sumKey_new42 {w W : World} {a cap : Nat} {l : List UInt8} {ao : Option Addr} (hv : Bytes w.heap.size w (.slice ao l.length cap) l) (ha : a ≤ l.length) (hW : Adds w.drew W) :
    SumKey w.heap.size l a 42 (.slice (some ⟨W.heap.size, 0, none⟩) 4 4) (W.alloc (.cells #[.slice none 0 0, cutTo ao cap a, .slice none 0 0, cutFrom ao l.length cap a] 22)) :=
  have h1 : w.heap.size ≤ W.heap.size := hW.size
  have hb := hv.below ((Adds.drew w).trans hW)
  ⟨by simp; omega, lists_4 W _ _ _ _ _ _ _ _ h1 (Bytes.nil W) (cutTo_bytes hb ha) (Bytes.nil W) (cutFrom_bytes hb ha)⟩
theorem cut_cases (len : Nat) (x : Int) : ∃ (az : Int) (a : Nat), az = a ∧ a ≤ len ∧ ((x ≤ 0 ∧ 0 < len ∧ az = 0) ∨ (x ≤ 0 ∧ ¬ 0 < len ∧ az = len) ∨ (0 < x ∧ x < len ∧ az = x) ∨ (0 < x ∧ (len : Int) ≤ x ∧ az = len)) := by
  by_cases h0 : x ≤ 0
  · by_cases hl : 0 < len
    · exact ⟨0, 0, rfl, by omega, .inl ⟨h0, hl, rfl⟩⟩
    · exact ⟨len, len, rfl, by omega, .inr (.inl ⟨h0, hl, rfl⟩)⟩
  · by_cases h1 : x < len
    · exact ⟨x, x.toNat, by omega, by omega, .inr (.inr (.inl ⟨by omega, h1, rfl⟩))⟩
    · exact ⟨len, len, rfl, by omega, .inr (.inr (.inr ⟨by omega, by omega, rfl⟩))⟩

set_option maxRecDepth 100000 in
set_option maxHeartbeats 8000000 in
theorem law_sums {nb : Nat} (v : Value) (l : List UInt8) (x : Int) (hx : (Lit.int .i64 x).wf = true) (w : World) (hv : Bytes nb w v l) (hw : Widths w) :
    Calls Tryd.prog 4 #[v, .int .i64 x] w (TrueAdds w) := by
  obtain ⟨ao, cap, rfl, h1, h2, h3⟩ := id hv
  have HV := Lib.hid hv; clear hv h3
  have HW := Lib.hid hw; clear hw
  unfold maxLen at h2
  by_cases hlen : 400 < l.length
  · have HK := Lib.hid (works2_any w HW.out)
    go_enter Tryd.func4, Tryd.ntmps4
    go_wp2_with (go_at_call 12; refine HK.out.mono ?_; rintro e w1 ⟨rfl, a1⟩; have A1 := Lib.hid a1; clear a1)
    go_ret
    exact ⟨rfl, A1.out⟩
  obtain ⟨az, a, haz, hal, hcase⟩ := cut_cases l.length x
  have HAZ := Lib.hid haz; clear haz
  have HAL := Lib.hid hal; clear hal
  have HCA := Lib.hid (Nat.le_trans HAL.out h1)
  have HRO := Lib.hid (refOf_any _ l w HV.out)
  have HVH := Lib.hid HV.out.here
  have HSO := Lib.hid (fun (d : Tmp) (u : Value) (W : World) (h : SumKey w.heap.size l a d u W) => sums_of d (by omega) h)
  have HWK := Lib.hid (fun W (hW : Adds w W) => works2_any W (HW.out.below hW))
  obtain ⟨S, hS⟩ : ∃ S, sumS l = S := ⟨_, rfl⟩
  rw [hS] at HRO
  have HS := Lib.hid hS; clear hS
  rcases hcase with ⟨hc1, hc2, rfl⟩ | ⟨hc1, hc2, rfl⟩ | ⟨hc1, hc2, rfl⟩ | ⟨hc1, hc2, rfl⟩
  all_goals
    go_enter Tryd.func4, Tryd.ntmps4
    go_wp2_with (go_at_call 13; refine HRO.out.mono ?_; rintro e w' ⟨rfl, rfl⟩)
    refine wp_region_loose [19, 30, 42] (SumKey w.heap.size l a) Adds (by kernel_rfl) (by kernel_rfl) (by simp) Adds.refl (fun _ _ _ h k => h.trans k) (fun d _ _ _ h k => k.adds h) ?_
    clear h1 h2 hc1 hc2
    repeat (refine wpL_step (fun K hK => ?_); first
      | (refine stepL_ex (v := cutTo ao cap a) rfl rfl rfl Adds.refl (fun w' _ => cutTo_run rfl rfl rfl HAZ.out HCA.out w') ?_; go_simp; refine hK _ ?_; clear hK K)
      | (refine stepL_ex (v := cutFrom ao l.length cap a) rfl rfl rfl Adds.refl (fun w' _ => cutFrom_run rfl rfl rfl HAZ.out HAL.out w') ?_; go_simp; refine hK _ ?_; clear hK K)
      | (refine stepL_mk 19 rfl rfl rfl rfl (fun w' hw' => ⟨_, _, mk1_run rfl rfl w', sumKey_new19 (by exact HVH.out) hw', adds_new _ _⟩) ?_; refine hK _ ?_; clear hK K)
      | (refine stepL_mk 30 rfl rfl rfl rfl (fun w' hw' => ⟨_, _, mk2_run rfl rfl rfl w', sumKey_new30 (by exact HVH.out) HAL.out hw', adds_new _ _⟩) ?_; refine hK _ ?_; clear hK K)
      | (refine stepL_mk 42 rfl rfl rfl rfl (fun w' hw' => ⟨_, _, mk4_run rfl rfl rfl rfl rfl w', sumKey_new42 (by exact HVH.out) HAL.out hw', adds_new _ _⟩) ?_; refine hK _ ?_; clear hK K)
      | (refine stepL_call1 (f := 14) (v := .int .u64 S) (fun u => #[u]) rfl rfl ?_ (fun w' u hw' hu => by have hh := HSO.out _ u w' hu; rw [HS.out] at hh; exact hh) ?_; (· (intro w' u hw' hu; refine ⟨rfl, ?_⟩; clear hK; go_simp)); refine hK _ ?_; clear hK K)
      | (refine stepL_call (f := 12) (v := .bool true) (args := #[]) rfl rfl rfl ?_ (fun w' hw' => (HWK.out w' ((Adds.drew _).trans hw'))) ?_; (· (intro w'; clear hK; go_simp)); refine hK _ ?_; clear hK K)
      | (refine stepL_ex rfl rfl rfl Adds.refl (fun w' hw' => rfl) ?_; go_simp; refine hK _ ?_; clear hK K))
    refine wpL_nil ?_
    intro w10 a10
    simp only [forL]
    intro u hu u2 hu2 u3 hu3
    have A10 := Lib.hid ((Adds.drew _).trans a10); clear a10 hu hu2 hu3
    go_wp2
    go_ret
    exact ⟨rfl, A10.out⟩
end Go.Proofs.YtbhggjgghngeeaaDoor
